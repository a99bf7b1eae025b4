/- Texts laid together, in parts: Mwm Vv Mla Mlb Mlc Mld Mle Mlf Mlg0 Mlg Mlh. -/
import Derived.Test.YteplffhfeoephaaGreatWkj
import Derived.Deep.RegionHeld3
import Derived.Lib.OwnKind
set_option maxRecDepth 100000
namespace Go.Proofs.YteplffhfeoephaaGreat
open Go.ChangeShapes Go.WideShapes Go.ChangeAt Go.RowKit Go.Maps
set_option linter.unusedVariables false
set_option linter.unusedSimpArgs false
/-- A message with its first k records alone. -/
def cutM (m : Mg) (k : Nat) : Mg := ⟨m.h, m.qs, m.l1.take k, m.l2.take (k - m.l1.length), m.l3.take (k - m.l1.length - m.l2.length)⟩
theorem LRd.take {w : World} {s : Sl} {rs : List Rec} (h : LRd w s rs) (k n : Nat) (hn : n = min k s.n) : LRd w ⟨s.a, n, s.c⟩ (rs.take k) := by
  refine ⟨?_, by rw [List.length_take, h.len, hn], ⟨by have := h.cap; simp only; omega, h.cap.2⟩, h.nil⟩
  rcases h.rd with h0 | ⟨b, o, e, hb, hc⟩
  · subst h0; exact .inl (by simp)
  · refine .inr ⟨b, o, e, hb, fun i hi => ?_⟩
    have hi' : i < rs.length := by rw [List.length_take] at hi; omega
    obtain ⟨x, h1, h2⟩ := hc i hi'
    rw [List.getElem_take]
    exact ⟨x, h1, h2⟩
theorem MRd.cut {w : World} {H : Hd} {x : MA} {m : Mg} (h : MRd w H x m) (k : Nat) : MRd w H (cutJ x k 3) (cutM m k) := by
  have e1 := h.l1.len
  have e2 := h.l2.len
  have r1 : remN x k 1 = k - m.l1.length := by
    show k - min k (nth3 x 0).n = _
    have : (nth3 x 0).n = x.l1.n := rfl
    omega
  have r2 : remN x k 2 = k - m.l1.length - m.l2.length := by
    show remN x k 1 - min (remN x k 1) (nth3 x 1).n = _
    have : (nth3 x 1).n = x.l2.n := rfl
    omega
  refine ⟨h.h, h.q, h.l1.take k _ rfl, h.l2.take _ _ (by rw [r1]), h.l3.take _ _ (by rw [r2]), h.b.1, h.b.2.1, fun r hr => h.b.2.2.1 r (List.mem_of_mem_take hr), fun r hr => h.b.2.2.2.1 r (List.mem_of_mem_take hr), fun r hr => h.b.2.2.2.2 r (List.mem_of_mem_take hr)⟩
theorem cutM_sub (m : Mg) (k j : Nat) : ∀ r ∈ nthL (cutM m k) j, r ∈ nthL m j := by
  intro r hr
  unfold nthL at hr ⊢
  split at hr
  · next h => rw [if_pos h]; exact List.mem_of_mem_take hr
  · next h =>
    rw [if_neg h]
    split at hr
    · next h2 => rw [if_pos h2]; exact List.mem_of_mem_take hr
    · next h2 => rw [if_neg h2]; exact List.mem_of_mem_take hr
theorem ChkOk.cut {m : Mg} (h : ChkOk m) (k : Nat) : ChkOk (cutM m k) :=
  ⟨h.hd, h.nq, by have := h.nr; unfold tot at *; simp only [cutM, List.length_take]; omega, h.qs, fun r hr => h.l1 r (List.mem_of_mem_take hr), fun r hr => h.l2 r (List.mem_of_mem_take hr), fun r hr => h.l3 r (List.mem_of_mem_take hr)⟩
theorem cutM_all (m : Mg) (k : Nat) (h : tot m ≤ k) : cutM m k = m := by
  unfold tot at h
  unfold cutM
  rw [List.take_of_length_le (by omega), List.take_of_length_le (by omega), List.take_of_length_le (by omega)]
/-- What Part answers. -/
def PtR (m : Mg) (z : Int) (w' : World) (s : Sl) (er : Int) : Prop :=
  if chkM m = 0 then (if 0 ≤ z ∧ z ≤ (tot m : Int) then WrR (prun (pmsg (cutM m z.toNat)) (some ([], []))) w' s er else er = 2 ∧ s = ⟨none, 0, 0⟩) else er = chkM m ∧ s = ⟨none, 0, 0⟩
def PtP (m : Mg) (z : Int) (w : World) (e : Ending) (w' : World) : Prop := ∃ (s : Sl) (er : Int), e = .returned (.tuple #[.slice s.a s.n s.c, .int .i64 er]) ∧ Hid (PtR m z w' s er ∧ Below w.heap.size w w')
set_option maxRecDepth 100000 in
set_option maxHeartbeats 2000000 in
theorem part_any (H : Hd) (x : MA) (m : Mg) (z : Int) (w : World) (hm : MRd w H x m) (hF : Fin m) :
    Calls Tryz.prog 13 #[.agg #[.int .u16 H.id, .bool H.rs, .int .i64 H.op, .bool H.aa, .bool H.tc, .bool H.rd, .bool H.ra, .bool H.ad, .bool H.cd, .int .i64 H.rc, .slice x.q.a x.q.n x.q.c, .slice x.l1.a x.l1.n x.l1.c, .slice x.l2.a x.l2.n x.l2.c, .slice x.l3.a x.l3.n x.l3.c], .int .i64 z] w (PtP m z w) := by
  have hb0 : Below w.heap.size w (w.alloc (.cells #[.int .u16 H.id, .bool H.rs, .int .i64 H.op, .bool H.aa, .bool H.tc, .bool H.rd, .bool H.ra, .bool H.ad, .bool H.cd, .int .i64 H.rc, .slice x.q.a x.q.n x.q.c, .slice x.l1.a x.l1.n x.l1.c, .slice x.l2.a x.l2.n x.l2.c, .slice x.l3.a x.l3.n x.l3.c] 26)) := newq_below _ _
  have HBX : Hid ((w.alloc (.cells #[.int .u16 H.id, .bool H.rs, .int .i64 H.op, .bool H.aa, .bool H.tc, .bool H.rd, .bool H.ra, .bool H.ad, .bool H.cd, .int .i64 H.rc, .slice x.q.a x.q.n x.q.c, .slice x.l1.a x.l1.n x.l1.c, .slice x.l2.a x.l2.n x.l2.c, .slice x.l3.a x.l3.n x.l3.c] 26)).heap[w.heap.size]? = some (.cells #[.int .u16 H.id, .bool H.rs, .int .i64 H.op, .bool H.aa, .bool H.tc, .bool H.rd, .bool H.ra, .bool H.ad, .bool H.cd, .int .i64 H.rc, .slice x.q.a x.q.n x.q.c, .slice x.l1.a x.l1.n x.l1.c, .slice x.l2.a x.l2.n x.l2.c, .slice x.l3.a x.l3.n x.l3.c] 26)) := mbox_new H x w
  have HBel : Hid (Below w.heap.size w (w.alloc (.cells #[.int .u16 H.id, .bool H.rs, .int .i64 H.op, .bool H.aa, .bool H.tc, .bool H.rd, .bool H.ra, .bool H.ad, .bool H.cd, .int .i64 H.rc, .slice x.q.a x.q.n x.q.c, .slice x.l1.a x.l1.n x.l1.c, .slice x.l2.a x.l2.n x.l2.c, .slice x.l3.a x.l3.n x.l3.c] 26))) := hb0
  have e1 := hm.l1.len
  have e2 := hm.l2.len
  have e3 := hm.l3.len
  have HTOT : Hid (tot m = x.l1.n + x.l2.n + x.l3.n) := (by unfold tot; omega : tot m = x.l1.n + x.l2.n + x.l3.n)
  have hT : x.l1.n + x.l2.n + x.l3.n ≤ 1000000 := by have := hF.t; have := HTOT.out; omega
  have KC := Lib.hid (check_msg H x m _ (hm.below hb0) hF)
  have KT := fun W => Lib.hid (total_any H x W (by omega))
  have HM : Hid (MRd w H x m ∧ Fin m) := ⟨hm, hF⟩
  have hcap : ∀ j, (nth3 x j).n ≤ (nth3 x j).c ∧ (nth3 x j).n ≤ 1000000 ∧ (nth3 x j).c ≤ 9223372036854775807 := by
    intro j
    have h1 := (hm.nth j).1.cap
    refine ⟨h1.1, ?_, h1.2⟩
    unfold nth3
    split
    · omega
    · split <;> omega
  have HCAP := Lib.hid hcap
  obtain ⟨C, hC⟩ : ∃ C, chkM m = C := ⟨_, rfl⟩
  have HCM : Hid (chkM m = C) := hC
  rw [hC] at KC
  clear hm hF e1 e2 e3 hb0 hC hcap
  go_enter Tryz.func13, Tryz.ntmps13
  go_wp2_with fail
  generalize w.alloc (.cells #[.int .u16 H.id, .bool H.rs, .int .i64 H.op, .bool H.aa, .bool H.tc, .bool H.rd, .bool H.ra, .bool H.ad, .bool H.cd, .int .i64 H.rc, .slice x.q.a x.q.n x.q.c, .slice x.l1.a x.l1.n x.l1.c, .slice x.l2.a x.l2.n x.l2.c, .slice x.l3.a x.l3.n x.l3.c] 26) = Z at *
  obtain ⟨b, hbb⟩ : ∃ b, b = w.heap.size := ⟨_, rfl⟩
  rw [← hbb] at HBX ⊢
  clear hbb
  refine KC.out.mono ?_
  rintro e w1 ⟨rfl, H1⟩
  have HB1 : Hid (Below w.heap.size w w1 ∧ w1.heap[b]? = some (.cells #[.int .u16 H.id, .bool H.rs, .int .i64 H.op, .bool H.aa, .bool H.tc, .bool H.rd, .bool H.ra, .bool H.ad, .bool H.cd, .int .i64 H.rc, .slice x.q.a x.q.n x.q.c, .slice x.l1.a x.l1.n x.l1.c, .slice x.l2.a x.l2.n x.l2.c, .slice x.l3.a x.l3.n x.l3.c] 26)) := ⟨HBel.out.trans (H1.out.mono HBel.out.size), (H1.out.block b (box_lt HBX.out)).trans HBX.out⟩
  clear KC H1
  by_cases hC0 : C = 0
  case neg =>
    have h0' : (C != 0) = true := bne_iff_ne.2 hC0
    go_wp2
    go_ret2
    refine ⟨⟨none, 0, 0⟩, C, rfl, ?_, HB1.out.1⟩
    unfold PtR
    rw [HCM.out, if_neg hC0]
    exact ⟨rfl, rfl⟩
  subst hC0
  by_cases hz : z < 0
  · go_wp2
    go_ret2
    refine ⟨⟨none, 0, 0⟩, 2, rfl, ?_, HB1.out.1⟩
    unfold PtR
    rw [HCM.out, if_pos rfl, if_neg (by omega)]
    exact ⟨rfl, rfl⟩
  obtain ⟨k, rfl⟩ : ∃ k : Nat, z = k := ⟨z.toNat, by omega⟩
  clear hz
  have hz : ¬ (k : Int) < 0 := by omega
  obtain ⟨z0, z1, z2, z3, z4, z5, z6, z7, z8, z9, z10, z11, z12, z13⟩ := mbox_cells HB1.out.2
  have hl1 := box_lt HB1.out.2
  go_wp2_with fail
  refine (KT w1).out.mono ?_
  rintro e w2 ⟨rfl, H2⟩
  have HB2 : Hid (Below w.heap.size w w2 ∧ w2.heap[b]? = some (.cells #[.int .u16 H.id, .bool H.rs, .int .i64 H.op, .bool H.aa, .bool H.tc, .bool H.rd, .bool H.ra, .bool H.ad, .bool H.cd, .int .i64 H.rc, .slice x.q.a x.q.n x.q.c, .slice x.l1.a x.l1.n x.l1.c, .slice x.l2.a x.l2.n x.l2.c, .slice x.l3.a x.l3.n x.l3.c] 26)) := ⟨HB1.out.1.trans (H2.out.mono HB1.out.1.size), (H2.out.block b hl1).trans HB1.out.2⟩
  clear KT H2 z0 z1 z2 z3 z4 z5 z6 z7 z8 z9 z10 z11 z12 z13 hl1
  obtain ⟨TT, hTT⟩ : ∃ TT, x.l1.n + x.l2.n + x.l3.n = TT := ⟨_, rfl⟩
  rw [hTT] at HTOT hT ⊢
  clear hTT
  by_cases hk : TT < k
  · have hk' : (TT : Int) < (k : Int) := by omega
    go_wp2
    go_ret2
    refine ⟨⟨none, 0, 0⟩, 2, rfl, ?_, HB2.out.1⟩
    unfold PtR
    rw [HCM.out, if_pos rfl, if_neg (by rw [HTOT.out]; omega)]
    exact ⟨rfl, rfl⟩
  have hk' : (k : Int) ≤ (TT : Int) := by omega
  obtain ⟨z0, z1, z2, z3, z4, z5, z6, z7, z8, z9, z10, z11, z12, z13⟩ := mbox_cells HB2.out.2
  have hl2 := box_lt HB2.out.2
  have KF := Lib.hid (first_any H x k w2 (by omega) HCAP.out)
  go_wp2_with fail
  refine KF.out.mono ?_
  rintro e w3 ⟨rfl, H3⟩
  have HB3 : Hid (Below w.heap.size w w3) := HB2.out.1.trans (H3.out.mono HB2.out.1.size)
  have hok : ChkOk m := chkM_zero.1 HCM.out
  have KW := Lib.hid (mwrite_any H (cutJ x k 3) (cutM m k) w3 ((HM.out.1.below HB3.out).cut k) (hok.cut k) (fun j r hr => HM.out.2.d j r (cutM_sub m k j r hr)))
  clear hok KF z0 z1 z2 z3 z4 z5 z6 z7 z8 z9 z10 z11 z12 z13
  generalize cutJ x k 3 = X at *
  go_wp2_with fail
  refine KW.out.mono ?_
  rintro e w4 ⟨s4, er, rfl, H4⟩
  go_wp2_with fail
  go_ret2
  refine ⟨s4, er, rfl, ?_, HB3.out.trans (H4.out.2.mono HB3.out.size)⟩
  unfold PtR
  rw [HCM.out, if_pos rfl, if_pos (by rw [HTOT.out]; omega), Int.toNat_natCast]
  exact H4.out.1
/-- What Bytes answers. -/
def ByR (m : Mg) (w' : World) (s : Sl) (er : Int) : Prop := if chkM m = 0 then WrR (prun (pmsg m) (some ([], []))) w' s er else er = chkM m ∧ s = ⟨none, 0, 0⟩
def ByP (m : Mg) (w : World) (e : Ending) (w' : World) : Prop := ∃ (s : Sl) (er : Int), e = .returned (.tuple #[.slice s.a s.n s.c, .int .i64 er]) ∧ Hid (ByR m w' s er ∧ Below w.heap.size w w')
set_option maxRecDepth 100000 in
set_option maxHeartbeats 2000000 in
theorem bytes_msg (H : Hd) (x : MA) (m : Mg) (w : World) (hm : MRd w H x m) (hF : Fin m) :
    Calls Tryz.prog 11 #[.agg #[.int .u16 H.id, .bool H.rs, .int .i64 H.op, .bool H.aa, .bool H.tc, .bool H.rd, .bool H.ra, .bool H.ad, .bool H.cd, .int .i64 H.rc, .slice x.q.a x.q.n x.q.c, .slice x.l1.a x.l1.n x.l1.c, .slice x.l2.a x.l2.n x.l2.c, .slice x.l3.a x.l3.n x.l3.c]] w (ByP m w) := by
  have hb0 : Below w.heap.size w (w.alloc (.cells #[.int .u16 H.id, .bool H.rs, .int .i64 H.op, .bool H.aa, .bool H.tc, .bool H.rd, .bool H.ra, .bool H.ad, .bool H.cd, .int .i64 H.rc, .slice x.q.a x.q.n x.q.c, .slice x.l1.a x.l1.n x.l1.c, .slice x.l2.a x.l2.n x.l2.c, .slice x.l3.a x.l3.n x.l3.c] 26)) := newq_below _ _
  have HBX : Hid ((w.alloc (.cells #[.int .u16 H.id, .bool H.rs, .int .i64 H.op, .bool H.aa, .bool H.tc, .bool H.rd, .bool H.ra, .bool H.ad, .bool H.cd, .int .i64 H.rc, .slice x.q.a x.q.n x.q.c, .slice x.l1.a x.l1.n x.l1.c, .slice x.l2.a x.l2.n x.l2.c, .slice x.l3.a x.l3.n x.l3.c] 26)).heap[w.heap.size]? = some (.cells #[.int .u16 H.id, .bool H.rs, .int .i64 H.op, .bool H.aa, .bool H.tc, .bool H.rd, .bool H.ra, .bool H.ad, .bool H.cd, .int .i64 H.rc, .slice x.q.a x.q.n x.q.c, .slice x.l1.a x.l1.n x.l1.c, .slice x.l2.a x.l2.n x.l2.c, .slice x.l3.a x.l3.n x.l3.c] 26)) := mbox_new H x w
  have HBel : Hid (Below w.heap.size w (w.alloc (.cells #[.int .u16 H.id, .bool H.rs, .int .i64 H.op, .bool H.aa, .bool H.tc, .bool H.rd, .bool H.ra, .bool H.ad, .bool H.cd, .int .i64 H.rc, .slice x.q.a x.q.n x.q.c, .slice x.l1.a x.l1.n x.l1.c, .slice x.l2.a x.l2.n x.l2.c, .slice x.l3.a x.l3.n x.l3.c] 26))) := hb0
  have e1 := hm.l1.len
  have e2 := hm.l2.len
  have e3 := hm.l3.len
  have HTOT : Hid (tot m = x.l1.n + x.l2.n + x.l3.n) := (by unfold tot; omega : tot m = x.l1.n + x.l2.n + x.l3.n)
  have hT : x.l1.n + x.l2.n + x.l3.n ≤ 1000000 := by have := hF.t; have := HTOT.out; omega
  have KT := fun W => Lib.hid (total_any H x W (by omega))
  have KP : Hid (∀ W, Below w.heap.size w W → Calls Tryz.prog 13 #[.agg #[.int .u16 H.id, .bool H.rs, .int .i64 H.op, .bool H.aa, .bool H.tc, .bool H.rd, .bool H.ra, .bool H.ad, .bool H.cd, .int .i64 H.rc, .slice x.q.a x.q.n x.q.c, .slice x.l1.a x.l1.n x.l1.c, .slice x.l2.a x.l2.n x.l2.c, .slice x.l3.a x.l3.n x.l3.c], .int .i64 ((x.l1.n + x.l2.n + x.l3.n : Nat) : Int)] W (PtP m ((x.l1.n + x.l2.n + x.l3.n : Nat) : Int) W)) := fun W hW => part_any H x m _ W (hm.below hW) hF
  have HRES : Hid (∀ w' s er, PtR m ((x.l1.n + x.l2.n + x.l3.n : Nat) : Int) w' s er → ByR m w' s er) := by
    intro w' s er h
    unfold PtR at h
    unfold ByR
    split at h
    · next h0 =>
      rw [if_pos h0]
      rw [if_pos ⟨by omega, by rw [HTOT.out]; exact Int.le_refl _⟩, Int.toNat_natCast, cutM_all m _ (by rw [HTOT.out]; exact Nat.le_refl _)] at h
      exact h
    · next h0 => rw [if_neg h0]; exact h
  clear hm hF e1 e2 e3 hb0
  go_enter Tryz.func11, Tryz.ntmps11
  go_wp2_with fail
  generalize w.alloc (.cells #[.int .u16 H.id, .bool H.rs, .int .i64 H.op, .bool H.aa, .bool H.tc, .bool H.rd, .bool H.ra, .bool H.ad, .bool H.cd, .int .i64 H.rc, .slice x.q.a x.q.n x.q.c, .slice x.l1.a x.l1.n x.l1.c, .slice x.l2.a x.l2.n x.l2.c, .slice x.l3.a x.l3.n x.l3.c] 26) = Z at *
  obtain ⟨b, hbb⟩ : ∃ b, b = w.heap.size := ⟨_, rfl⟩
  rw [← hbb] at HBX ⊢
  clear hbb
  have KS : ∀ W, Below Z.heap.size Z W → (W.cell? ⟨b, 0, none⟩ = some (.int .u16 H.id) ∧ W.cell? ⟨b, 1, none⟩ = some (.bool H.rs) ∧ W.cell? ⟨b, 2, none⟩ = some (.int .i64 H.op) ∧ W.cell? ⟨b, 3, none⟩ = some (.bool H.aa) ∧ W.cell? ⟨b, 4, none⟩ = some (.bool H.tc) ∧ W.cell? ⟨b, 5, none⟩ = some (.bool H.rd) ∧ W.cell? ⟨b, 6, none⟩ = some (.bool H.ra) ∧ W.cell? ⟨b, 7, none⟩ = some (.bool H.ad) ∧ W.cell? ⟨b, 8, none⟩ = some (.bool H.cd) ∧ W.cell? ⟨b, 9, none⟩ = some (.int .i64 H.rc) ∧ W.cell? ⟨b, 10, none⟩ = some (.slice x.q.a x.q.n x.q.c) ∧ W.cell? ⟨b, 11, none⟩ = some (.slice x.l1.a x.l1.n x.l1.c) ∧ W.cell? ⟨b, 12, none⟩ = some (.slice x.l2.a x.l2.n x.l2.c) ∧ W.cell? ⟨b, 13, none⟩ = some (.slice x.l3.a x.l3.n x.l3.c)) := fun W hW => mbox_cells ((hW.block b (box_lt HBX.out)).trans HBX.out)
  obtain ⟨z0, z1, z2, z3, z4, z5, z6, z7, z8, z9, z10, z11, z12, z13⟩ := KS Z (Below.refl _ _)
  have hbZ := box_lt HBX.out
  generalize x.l1.n + x.l2.n + x.l3.n = TT at *
  go_region_held3 (fun W => (W.cell? ⟨b, 0, none⟩ = some (.int .u16 H.id) ∧ W.cell? ⟨b, 1, none⟩ = some (.bool H.rs) ∧ W.cell? ⟨b, 2, none⟩ = some (.int .i64 H.op) ∧ W.cell? ⟨b, 3, none⟩ = some (.bool H.aa) ∧ W.cell? ⟨b, 4, none⟩ = some (.bool H.tc) ∧ W.cell? ⟨b, 5, none⟩ = some (.bool H.rd) ∧ W.cell? ⟨b, 6, none⟩ = some (.bool H.ra) ∧ W.cell? ⟨b, 7, none⟩ = some (.bool H.ad) ∧ W.cell? ⟨b, 8, none⟩ = some (.bool H.cd) ∧ W.cell? ⟨b, 9, none⟩ = some (.int .i64 H.rc) ∧ W.cell? ⟨b, 10, none⟩ = some (.slice x.q.a x.q.n x.q.c) ∧ W.cell? ⟨b, 11, none⟩ = some (.slice x.l1.a x.l1.n x.l1.c) ∧ W.cell? ⟨b, 12, none⟩ = some (.slice x.l2.a x.l2.n x.l2.c) ∧ W.cell? ⟨b, 13, none⟩ = some (.slice x.l3.a x.l3.n x.l3.c))) (first | exact KS _ HB2.out | exact KS _ HB1.out | exact KS _ (Below.refl Z.heap.size Z).drew | exact KS _ (Below.refl Z.heap.size Z) | exact KS _ HB2.out.drew | exact KS _ HB1.out.drew) (first
    | (go_at_call 36; refine Calls.mono (KT _).out ?_; rintro e w1 ⟨rfl, H1⟩; have HB1 : Hid (Below Z.heap.size Z w1) := (by first | exact Below.trans ((Below.refl Z.heap.size Z).drew) (Below.mono H1.out (Below.size ((Below.refl Z.heap.size Z).drew))) | exact Below.trans (Below.refl Z.heap.size Z) (Below.mono H1.out (Below.size (Below.refl Z.heap.size Z)))))
    | (go_at_call 13; refine Calls.mono (KP.out _ (by first | exact HBel.out.trans (HB1.out.mono HBel.out.size) | exact HBel.out.trans (HB1.out.drew.mono HBel.out.size))) ?_; rintro e w2 ⟨s2, er2, rfl, H2⟩; have HB2 : Hid (Below Z.heap.size Z w2) := (by first | exact Below.trans HB1.out (Below.mono H2.out.2 (Below.size HB1.out)) | exact Below.trans HB1.out.drew (Below.mono H2.out.2 (Below.size HB1.out.drew)))))
  go_wp2_with fail
  go_ret2
  exact ⟨s2, er2, rfl, HRES.out _ _ _ H2.out.1, HBel.out.trans (HB2.out.mono HBel.out.size)⟩
end Go.Proofs.YteplffhfeoephaaGreat
namespace Go.Proofs.YteplffhfeoephaaGreat
open Go.ChangeShapes Go.WideShapes Go.ChangeAt Go.RowKit
set_option linter.unusedVariables false
set_option linter.unusedSimpArgs false
set_option maxRecDepth 100000 in
set_option maxHeartbeats 1000000 in
theorem sameq44 (x y : QA) (q : Qn) (w : World) (h1 : QOk w x q) (h2 : QOk w y q) :
    Calls Tryz.prog 94 #[.agg #[.slice x.s.a x.s.n x.s.c, .int .u16 (x.ty : Int), .int .u16 (x.cl : Int)], .agg #[.slice y.s.a y.s.n y.s.c, .int .u16 (y.ty : Int), .int .u16 (y.cl : Int)]] w fun e w' => e = .returned (.bool true) ∧ Below w.heap.size w w' := by
  obtain ⟨⟨a1, n1, c1⟩, t1, l1⟩ := x
  obtain ⟨⟨a2, n2, c2⟩, t2, l2⟩ := y
  obtain ⟨hr1, e1, e2, b1, b2⟩ := h1
  obtain ⟨hr2, e3, e4, b3, b4⟩ := h2
  simp only at *
  subst e1 e2
  rw [e3, e4]
  obtain rfl : n1 = n2 := hr1.len.symm.trans hr2.len
  have KN : ∀ W, Below w.heap.size w W → Hid (Calls Tryz.prog 128 #[.slice a1 n1 c1, .slice a2 n1 c2] W fun e w' => e = .returned (.bool true) ∧ Below W.heap.size W w') := fun W hb => Calls.mono (sameN_yes a1 a2 n1 c1 c2 q.nm W (hr1.rd.below hb) (hr2.rd.below hb) hr1.len (Nat.le_trans hr1.cap.1 hr1.cap.2)) (by
    rintro e w' h
    exact h)
  clear hr1 hr2 e3 e4
  go_enter Tryz.func94, Tryz.ntmps94
  go_wp2_with fail
  refine (KN _ (((Below.refl _ _).alloc (Nat.le_refl _) _).alloc (by simp) _)).out.mono ?_
  rintro e w2 ⟨rfl, hb2⟩
  have HB2 : Hid (Below w.heap.size w w2 ∧ w2.heap[w.heap.size]? = some (.cells #[.slice a1 n1 c1, .int .u16 (q.ty : Int), .int .u16 (q.cl : Int)] 64) ∧ w2.heap[w.heap.size + 1]? = some (.cells #[.slice a2 n1 c2, .int .u16 (q.ty : Int), .int .u16 (q.cl : Int)] 64)) := by
    refine ⟨(((Below.refl _ _).alloc (Nat.le_refl _) _).alloc (by simp) _).trans (hb2.mono (by simp; omega)), (hb2.block _ (by simp; omega)).trans (block_alloc (alloc_at _ _) _), (hb2.block _ (by simp)).trans ?_⟩
    have := alloc_at (w.alloc (.cells #[.slice a1 n1 c1, .int .u16 (q.ty : Int), .int .u16 (q.cl : Int)] 64)) (.cells #[.slice a2 n1 c2, .int .u16 (q.ty : Int), .int .u16 (q.cl : Int)] 64)
    simp only [World.size_alloc] at this
    exact this
  clear hb2 KN
  have p0 := block_lt HB2.out.2.1
  have p1 := block_lt HB2.out.2.2
  have x1 : w2.cell? ⟨w.heap.size, 1, none⟩ = some (.int .u16 (q.ty : Int)) := cell_of_block HB2.out.2.1 rfl
  have x2 : w2.cell? ⟨w.heap.size, 2, none⟩ = some (.int .u16 (q.cl : Int)) := cell_of_block HB2.out.2.1 rfl
  have y1 : w2.cell? ⟨w.heap.size + 1, 1, none⟩ = some (.int .u16 (q.ty : Int)) := cell_of_block HB2.out.2.2 rfl
  have y2 : w2.cell? ⟨w.heap.size + 1, 2, none⟩ = some (.int .u16 (q.cl : Int)) := cell_of_block HB2.out.2.2 rfl
  go_wp2
  go_ret
  exact ⟨rfl, HB2.out.1⟩
set_option maxRecDepth 100000 in
set_option maxHeartbeats 2000000 in
theorem sames33 (x y : Sl) (qs : List Qn) (w : World) (h1 : QsRd w x qs) (h2 : QsRd w y qs) : Sames 55 w (.slice x.a x.n x.c) (.slice y.a y.n y.c) := by
  intro W hW
  have HX : Hid (QsRd W x qs) := h1.below hW
  have HY : Hid (QsRd W y qs) := h2.below hW
  obtain ⟨a, n, c⟩ := x
  obtain ⟨b, m, d⟩ := y
  obtain rfl : n = m := h1.len.symm.trans h2.len
  have HLs : Hid (qs.length = n) := h1.len
  have hn : n ≤ 9223372036854775807 := Nat.le_trans h1.cap.1 h1.cap.2
  clear h1 h2 hW
  simp only
  go_enter Tryz.func55, Tryz.ntmps55
  go_wp2_with fail
  go_loopw [5] (fun y wr => ∃ k : Nat, k ≤ n ∧ y = .int .i64 (k : Int) ∧ Hid (Below W.heap.size W wr)) (fun y _ => n - (intOf y).toNat)
  case atStart => exact ⟨0, by omega, rfl, Below.refl _ _⟩
  case round =>
    obtain ⟨k, hk, rfl, HB⟩ := hrel
    by_cases hlt : k < n
    · have hlt' : (k : Int) < (n : Int) := by omega
      have hks : k < qs.length := by rw [HLs.out]; exact hlt
      obtain ⟨b1, o1, e1, q1, x1, r1, r2, r3, ok1⟩ := (HX.out.below HB.out).at k hks
      obtain ⟨b2, o2, e2, q2, x2, r4, r5, r6, ok2⟩ := (HY.out.below HB.out).at k hks
      simp only at e1 e2
      subst e1 e2
      have KL : ∀ V, Below wr.heap.size wr V → Hid (Calls Tryz.prog 94 #[.agg #[.slice x1.s.a x1.s.n x1.s.c, .int .u16 (x1.ty : Int), .int .u16 (x1.cl : Int)], .agg #[.slice x2.s.a x2.s.n x2.s.c, .int .u16 (x2.ty : Int), .int .u16 (x2.cl : Int)]] V fun e w' => e = .returned (.bool true) ∧ Below V.heap.size V w') := fun V hb => sameq44 x1 x2 _ V (ok1.below hb) (ok2.below hb)
      obtain ⟨⟨a1, n1, c1⟩, t1, l1⟩ := x1
      obtain ⟨⟨a2, n2, c2⟩, t2, l2⟩ := x2
      simp only at KL r1 r2 r3 r4 r5 r6
      clear ok1 ok2
      have KS : ∀ V, Below wr.heap.size wr V → V.cell? ⟨b1, o1 + k * 3, none⟩ = some (.slice a1 n1 c1) ∧ V.cell? ⟨b1, o1 + k * 3 + 1, none⟩ = some (.int .u16 (t1 : Int)) ∧ V.cell? ⟨b1, o1 + k * 3 + 2, none⟩ = some (.int .u16 (l1 : Int)) ∧ V.cell? ⟨b2, o2 + k * 3, none⟩ = some (.slice a2 n2 c2) ∧ V.cell? ⟨b2, o2 + k * 3 + 1, none⟩ = some (.int .u16 (t2 : Int)) ∧ V.cell? ⟨b2, o2 + k * 3 + 2, none⟩ = some (.int .u16 (l2 : Int)) := fun V hb => ⟨(hb.cell (p := ⟨_, _, none⟩) q1).trans r1, (hb.cell (p := ⟨_, _, none⟩) q1).trans r2, (hb.cell (p := ⟨_, _, none⟩) q1).trans r3, (hb.cell (p := ⟨_, _, none⟩) q2).trans r4, (hb.cell (p := ⟨_, _, none⟩) q2).trans r5, (hb.cell (p := ⟨_, _, none⟩) q2).trans r6⟩
      go_wp2_with fail
      go_region_held3 (fun V => V.cell? ⟨b1, o1 + k * 3, none⟩ = some (.slice a1 n1 c1) ∧ V.cell? ⟨b1, o1 + k * 3 + 1, none⟩ = some (.int .u16 (t1 : Int)) ∧ V.cell? ⟨b1, o1 + k * 3 + 2, none⟩ = some (.int .u16 (l1 : Int)) ∧ V.cell? ⟨b2, o2 + k * 3, none⟩ = some (.slice a2 n2 c2) ∧ V.cell? ⟨b2, o2 + k * 3 + 1, none⟩ = some (.int .u16 (t2 : Int)) ∧ V.cell? ⟨b2, o2 + k * 3 + 2, none⟩ = some (.int .u16 (l2 : Int))) (first | exact KS _ HBw8.out | exact KS _ (Below.refl wr.heap.size wr).drew | exact KS _ (Below.refl wr.heap.size wr) | exact KS _ HBw8.out.drew) (first
        | (go_at_call 94; refine Calls.mono (KL _ ?hb).out ?_; (case hb => first | exact (Below.refl wr.heap.size wr).drew | exact Below.refl wr.heap.size wr); rintro e w8 ⟨rfl, Hw8⟩; have HBw8 : Hid (Below wr.heap.size wr w8) := by first | exact (Below.refl wr.heap.size wr).drew.trans Hw8 | exact Hw8)
        | fail)
      all_goals go_wp2
      all_goals exact ⟨⟨k + 1, by omega, by go_num, HB.out.trans (HBw8.out.mono HB.out.size)⟩, by simp [intOf]; omega⟩
    · obtain rfl : k = n := by omega
      go_wp2
      go_ret
      exact ⟨rfl, HB.out⟩
end Go.Proofs.YteplffhfeoephaaGreat
namespace Go.Proofs.YteplffhfeoephaaGreat
open Go.ChangeShapes Go.WideShapes Go.ChangeAt Go.RowKit Go.Maps
set_option linter.unusedVariables false
set_option linter.unusedSimpArgs false
theorem chk_bd {t : Nat} {d : Dat} (h : checkF t d = 0) : Bd d := by
  have := pread_bd t (writeF t d) (wlen h)
  rw [pread_at t d _ h rfl] at this
  exact this
theorem ChkOk.fin {m : Mg} (h : ChkOk m) : Fin m := by
  have h1 := h.nr
  have h2 := h.nq
  refine ⟨fun k r hr => chk_bd (h.nth k r hr).2, fun q hq => ?_, fun k r hr => ?_, by omega, by omega⟩
  · have := nck_len (h.qs q hq); omega
  · have := nck_len (h.nth k r hr).1; omega
theorem OwR.lrd {B : Nat} {w : World} {s : Sl} {rs : List Rec} (h : OwR B w (.slice s.a s.n s.c) rs) : LRd w s rs := by
  obtain ⟨a, c, e, h1, h2, h3, h4⟩ := h.rd
  injection e with e1 e2 e3
  refine ⟨by rw [e1]; exact h1, e2.symm, ⟨by rw [e2, e3]; exact h2, by rw [e3]; exact h3⟩, fun e => by rw [e3]; exact h4 (by rw [← e1]; exact e)⟩
theorem OwQ.qrd {B : Nat} {w : World} {s : Sl} {qs : List Qn} (h : OwQ B w (.slice s.a s.n s.c) qs) (hb : ∀ q ∈ qs, q.ty < 65536 ∧ q.cl < 65536) : QsRd w s qs := by
  obtain ⟨a, c, e, h1⟩ := h.qs hb
  obtain ⟨sa, sn, sc⟩ := s
  injection e with e1 e2 e3
  simp only at e1 e2 e3
  subst e1 e2 e3
  exact h1
theorem MOw.mrd {B : Nat} {w : World} {x : MA} {m : Mg} (h : MOw B w x m) (hb : Mb m) : MRd w m.h x m :=
  ⟨rfl, h.1.qrd (fun q hq => by have := hb.2.1 q hq; exact ⟨by have := this.1; omega, by have := this.2; omega⟩), h.2.1.lrd, h.2.2.1.lrd, h.2.2.2.lrd, hb⟩
theorem same_msg (H : Hd) (x y : MA) (m : Mg) (w : World) (h1 : MRd w H x m) (h2 : MRd w H y m) :
    Calls Tryz.prog 20 #[.agg #[.int .u16 H.id, .bool H.rs, .int .i64 H.op, .bool H.aa, .bool H.tc, .bool H.rd, .bool H.ra, .bool H.ad, .bool H.cd, .int .i64 H.rc, .slice x.q.a x.q.n x.q.c, .slice x.l1.a x.l1.n x.l1.c, .slice x.l2.a x.l2.n x.l2.c, .slice x.l3.a x.l3.n x.l3.c], .agg #[.int .u16 H.id, .bool H.rs, .int .i64 H.op, .bool H.aa, .bool H.tc, .bool H.rd, .bool H.ra, .bool H.ad, .bool H.cd, .int .i64 H.rc, .slice y.q.a y.q.n y.q.c, .slice y.l1.a y.l1.n y.l1.c, .slice y.l2.a y.l2.n y.l2.c, .slice y.l3.a y.l3.n y.l3.c]] w fun e w' => e = .returned (.bool true) ∧ Hid (Below w.heap.size w w') := by
  have l1 : Sames 56 w (.slice x.l1.a x.l1.n x.l1.c) (.slice y.l1.a y.l1.n y.l1.c) := by
    have := sames34 x.l1.a y.l1.a x.l1.n x.l1.c y.l1.c m.l1 w h1.l1.rd h2.l1.rd h1.l1.len (by have := h1.l1.cap; omega)
    rw [show y.l1.n = x.l1.n from h2.l1.len.symm.trans h1.l1.len]
    exact this
  have l2 : Sames 56 w (.slice x.l2.a x.l2.n x.l2.c) (.slice y.l2.a y.l2.n y.l2.c) := by
    have := sames34 x.l2.a y.l2.a x.l2.n x.l2.c y.l2.c m.l2 w h1.l2.rd h2.l2.rd h1.l2.len (by have := h1.l2.cap; omega)
    rw [show y.l2.n = x.l2.n from h2.l2.len.symm.trans h1.l2.len]
    exact this
  have l3 : Sames 56 w (.slice x.l3.a x.l3.n x.l3.c) (.slice y.l3.a y.l3.n y.l3.c) := by
    have := sames34 x.l3.a y.l3.a x.l3.n x.l3.c y.l3.c m.l3 w h1.l3.rd h2.l3.rd h1.l3.len (by have := h1.l3.cap; omega)
    rw [show y.l3.n = x.l3.n from h2.l3.len.symm.trans h1.l3.len]
    exact this
  refine (sameM H.id H.rs H.op H.aa H.tc H.rd H.ra H.ad H.cd H.rc x.q.a x.l1.a x.l2.a x.l3.a y.q.a y.l1.a y.l2.a y.l3.a x.q.n x.l1.n x.l2.n x.l3.n x.q.c x.l1.c x.l2.c x.l3.c y.q.n y.l1.n y.l2.n y.l3.n y.q.c y.l1.c y.l2.c y.l3.c w (sames33 x.q y.q m.qs w h1.q h2.q) l1 l2 l3).mono ?_
  rintro e w' ⟨e1, e2⟩
  exact ⟨e1, e2⟩
/-- What is read of bytes that hold at least one. -/
theorem mread_some (s : Sl) (zs : List Int) (w : World) (hs : BRd w s zs) (h1 : 1 ≤ s.n) (hbig : s.n ≤ 140737488355328) (m : Mg) (hm : gmsg zs = some m) :
    Calls Tryz.prog 24 #[(.slice s.a s.n s.c)] w fun e w' => ∃ x : MA, e = .returned (.tuple #[.agg #[.int .u16 m.h.id, .bool m.h.rs, .int .i64 m.h.op, .bool m.h.aa, .bool m.h.tc, .bool m.h.rd, .bool m.h.ra, .bool m.h.ad, .bool m.h.cd, .int .i64 m.h.rc, .slice x.q.a x.q.n x.q.c, .slice x.l1.a x.l1.n x.l1.c, .slice x.l2.a x.l2.n x.l2.c, .slice x.l3.a x.l3.n x.l3.c], .int .i64 0]) ∧ Hid (MOw w.heap.size w' x m ∧ MRd w' m.h x m ∧ Below w.heap.size w w') := by
  have hsd := msg_sound hs.rd.2 hm
  refine (mread_yes s.a s.n s.c zs w hs.rd hs.len hs.cap hbig hs.nil (fun b o sp e => ?_) m hm).mono ?_
  · rcases hs.rd.1 with h0 | ⟨b', o', e', hb', _⟩
    · have := hs.len; rw [h0] at this; simp at this; omega
    · rw [e] at e'; cases e'; exact hb'
  · rintro e w' ⟨x, e1, H1⟩
    exact ⟨x, e1, H1.out.1, H1.out.1.mrd hsd.2, H1.out.2⟩
theorem mread_none (s : Sl) (zs : List Int) (w : World) (hs : BRd w s zs) (h1 : 1 ≤ s.n) (hbig : s.n ≤ 140737488355328) (hm : gmsg zs = none) :
    Calls Tryz.prog 24 #[(.slice s.a s.n s.c)] w fun e w' => e = .returned (.tuple #[.agg zeroM, .int .i64 8]) ∧ Hid (Below w.heap.size w w') := by
  refine mread_no s.a s.n s.c zs w hs.rd hs.len hs.cap hbig hs.nil (fun b o sp e => ?_) hm
  rcases hs.rd.1 with h0 | ⟨b', o', e', hb', _⟩
  · have := hs.len; rw [h0] at this; simp at this; omega
  · rw [e] at e'; cases e'; exact hb'
end Go.Proofs.YteplffhfeoephaaGreat
namespace Go.Proofs.YteplffhfeoephaaGreat
open Go.ChangeShapes Go.WideShapes Go.ChangeAt Go.RowKit Go.Maps
set_option linter.unusedVariables false
set_option linter.unusedSimpArgs false
theorem txt_at {w : World} {g : Nat} {s : ByteArray} (h : w.heap[g]? = some (.cells #[.string s] 9)) (hs : s.size ≤ 9223372036854775807) : TRd w ⟨some ⟨g, 0, none⟩, 1, 1⟩ [s] := by
  refine ⟨.inr ⟨g, 0, rfl, box_lt h, fun i hi => ?_⟩, rfl, ⟨Nat.le_refl _, by simp⟩, by simp, by simpa using hs⟩
  have : i = 0 := Nat.lt_one_iff.1 hi
  subst this
  exact box_cell h 0 _ rfl
theorem qn_at {w : World} {g : Nat} {s : Sl} {nm : List ByteArray} {t cl : Nat} (h : w.heap[g]? = some (.cells #[.slice s.a s.n s.c, .int .u16 (t : Int), .int .u16 (cl : Int)] 64)) (hn : TRd w s nm) (ht : t < 65536) (hc : cl < 65536) : QsRd w ⟨some ⟨g, 0, none⟩, 1, 1⟩ [⟨nm, t, cl⟩] := by
  refine ⟨.inr ⟨g, 0, rfl, box_lt h, fun i hi => ?_⟩, rfl, ⟨Nat.le_refl _, by simp⟩, by simp⟩
  have : i = 0 := by simp at hi; omega
  subst this
  exact ⟨⟨s, t, cl⟩, box_cell h 0 _ rfl, box_cell h 1 _ rfl, box_cell h 2 _ rfl, ⟨hn, rfl, rfl, ht, hc⟩⟩
theorem raw_at {w : World} {g : Nat} {zs : List Int} {n : Nat} (h : w.heap[g]? = some (.cells (zs.map (Value.int .u8)).toArray 5)) (hn : zs.length = n) (hb : ∀ z ∈ zs, 0 ≤ z ∧ z ≤ 255) (hm : n ≤ 1000) : BRd w ⟨some ⟨g, 0, none⟩, n, n⟩ zs := by
  have hblk : Blk w g zs := ⟨h, hb⟩
  exact ⟨⟨.inr ⟨g, 0, rfl, hblk.lt, fun i hi => by rw [Nat.zero_add]; exact hblk.cell i hi⟩, hb⟩, hn, ⟨Nat.le_refl _, by simp only; omega⟩, by simp⟩
theorem rec_at {w : World} {g : Nat} {x : RA} {r : Rec} (h : w.heap[g]? = some (.cells #[.slice x.o.a x.o.n x.o.c, .int .u16 r.t, .int .u16 r.cl, .int .u32 r.tt, .slice x.d.p1.a x.d.p1.n x.d.p1.c, .slice x.d.p2.a x.d.p2.n x.d.p2.c, .slice x.d.p3.a x.d.p3.n x.d.p3.c, .slice x.d.p4.a x.d.p4.n x.d.p4.c] 61)) (hx : RRd w x r) : LRd w ⟨some ⟨g, 0, none⟩, 1, 1⟩ [r] := by
  refine ⟨.inr ⟨g, 0, rfl, box_lt h, fun i hi => ?_⟩, rfl, ⟨Nat.le_refl _, by simp⟩, by simp⟩
  have : i = 0 := by simp at hi; omega
  subst this
  refine ⟨x, fun j hj => ?_, hx⟩
  have hc : j = 0 ∨ j = 1 ∨ j = 2 ∨ j = 3 ∨ j = 4 ∨ j = 5 ∨ j = 6 ∨ j = 7 := by omega
  rcases hc with rfl | rfl | rfl | rfl | rfl | rfl | rfl | rfl
  · exact box_cell h 0 _ rfl
  · exact box_cell h 1 _ rfl
  · exact box_cell h 2 _ rfl
  · exact box_cell h 3 _ rfl
  · exact box_cell h 4 _ rfl
  · exact box_cell h 5 _ rfl
  · exact box_cell h 6 _ rfl
  · exact box_cell h 7 _ rfl
theorem lrd_nil (w : World) : LRd w ⟨none, 0, 0⟩ [] := ⟨.inl rfl, rfl, ⟨Nat.le_refl _, by simp⟩, fun _ => rfl⟩
theorem four_at (w : World) (a b c d : Obj) : Below w.heap.size w ((((w.alloc a).alloc b).alloc c).alloc d) ∧ ((((w.alloc a).alloc b).alloc c).alloc d).heap[w.heap.size]? = some a ∧ ((((w.alloc a).alloc b).alloc c).alloc d).heap[w.heap.size + 1]? = some b ∧ ((((w.alloc a).alloc b).alloc c).alloc d).heap[w.heap.size + 1 + 1]? = some c ∧ ((((w.alloc a).alloc b).alloc c).alloc d).heap[w.heap.size + 1 + 1 + 1]? = some d ∧ ((((w.alloc a).alloc b).alloc c).alloc d).heap.size = w.heap.size + 1 + 1 + 1 + 1 := by
  obtain ⟨h1, h2, h3, h4, h5⟩ := three_at w a b c
  generalize ((w.alloc a).alloc b).alloc c = w3 at *
  have n := heap_alloc_new w3 d
  have nb := newq_below w3 d
  rw [h5] at n
  refine ⟨h1.trans (nb.mono h1.size), (nb.block _ (by omega)).trans h2, (nb.block _ (by omega)).trans h3, (nb.block _ (by omega)).trans h4, n, ?_⟩
  rw [World.size_alloc, h5]
def oneH : Hd := ⟨1, false, 0, false, false, true, false, false, false, 0⟩
def aNm : ByteArray := { data := #[97] }
def oneR : Rec := ⟨[aNm], 1, 1, 60, ⟨[], [], [], [1, 2, 3, 4]⟩⟩
def oneM (ans : Bool) : Mg := ⟨oneH, [⟨[aNm], 1, 1⟩], if ans then [oneR] else [], [], []⟩
set_option maxRecDepth 100000 in
set_option maxHeartbeats 2000000 in
theorem one_no (w : World) : Calls Tryz.prog 31 #[.bool false] w fun e w' => ∃ x : MA, e = .returned (.agg #[.int .u16 oneH.id, .bool oneH.rs, .int .i64 oneH.op, .bool oneH.aa, .bool oneH.tc, .bool oneH.rd, .bool oneH.ra, .bool oneH.ad, .bool oneH.cd, .int .i64 oneH.rc, .slice x.q.a x.q.n x.q.c, .slice x.l1.a x.l1.n x.l1.c, .slice x.l2.a x.l2.n x.l2.c, .slice x.l3.a x.l3.n x.l3.c]) ∧ Hid (MRd w' oneH x (oneM false) ∧ Below w.heap.size w w') := by
  go_enter Tryz.func31, Tryz.ntmps31
  go_wp2_with fail
  obtain ⟨h1, h2, h3, h4, h5, h6⟩ := four_at w (.cells #[.int .u16 1, .bool false, .int .i64 0, .bool false, .bool false, .bool true, .bool false, .bool false, .bool false, .int .i64 0, .slice (some ⟨w.heap.size + 1 + 1, 0, none⟩) 1 1, .slice none 0 0, .slice none 0 0, .slice none 0 0] 26) (.cells #[.string { data := #[97] }] 9) (.cells #[.slice (some ⟨w.heap.size + 1, 0, none⟩) 1 1, .int .u16 1, .int .u16 1] 64) (.cells #[.int .u16 1, .bool false, .int .i64 0, .bool false, .bool false, .bool true, .bool false, .bool false, .bool false, .int .i64 0, .slice (some ⟨w.heap.size + 1 + 1, 0, none⟩) 1 1, .slice none 0 0, .slice none 0 0, .slice none 0 0] 26)
  have u1 := Lib.hid h2
  have HM : Hid (MRd ((((w.alloc (.cells #[.int .u16 1, .bool false, .int .i64 0, .bool false, .bool false, .bool true, .bool false, .bool false, .bool false, .int .i64 0, .slice (some ⟨w.heap.size + 1 + 1, 0, none⟩) 1 1, .slice none 0 0, .slice none 0 0, .slice none 0 0] 26)).alloc (.cells #[.string { data := #[97] }] 9)).alloc (.cells #[.slice (some ⟨w.heap.size + 1, 0, none⟩) 1 1, .int .u16 1, .int .u16 1] 64)).alloc (.cells #[.int .u16 1, .bool false, .int .i64 0, .bool false, .bool false, .bool true, .bool false, .bool false, .bool false, .int .i64 0, .slice (some ⟨w.heap.size + 1 + 1, 0, none⟩) 1 1, .slice none 0 0, .slice none 0 0, .slice none 0 0] 26)) oneH ⟨⟨some ⟨w.heap.size + 1 + 1, 0, none⟩, 1, 1⟩, ⟨none, 0, 0⟩, ⟨none, 0, 0⟩, ⟨none, 0, 0⟩⟩ (oneM false) ∧ Below w.heap.size w ((((w.alloc (.cells #[.int .u16 1, .bool false, .int .i64 0, .bool false, .bool false, .bool true, .bool false, .bool false, .bool false, .int .i64 0, .slice (some ⟨w.heap.size + 1 + 1, 0, none⟩) 1 1, .slice none 0 0, .slice none 0 0, .slice none 0 0] 26)).alloc (.cells #[.string { data := #[97] }] 9)).alloc (.cells #[.slice (some ⟨w.heap.size + 1, 0, none⟩) 1 1, .int .u16 1, .int .u16 1] 64)).alloc (.cells #[.int .u16 1, .bool false, .int .i64 0, .bool false, .bool false, .bool true, .bool false, .bool false, .bool false, .int .i64 0, .slice (some ⟨w.heap.size + 1 + 1, 0, none⟩) 1 1, .slice none 0 0, .slice none 0 0, .slice none 0 0] 26))) := by
    refine ⟨⟨rfl, qn_at (s := ⟨some ⟨w.heap.size + 1, 0, none⟩, 1, 1⟩) (t := 1) (cl := 1) h4 (txt_at h3 (by decide)) (by decide) (by decide), lrd_nil _, lrd_nil _, lrd_nil _, ?_⟩, h1⟩
    refine ⟨by decide, fun q hq => ?_, fun r hr => (by cases hr), fun r hr => (by cases hr), fun r hr => (by cases hr)⟩
    rw [List.mem_singleton.1 hq]
    exact ⟨by decide, by decide⟩
  clear h1 h2 h3 h4 h5 h6
  generalize ((((w.alloc (.cells #[.int .u16 1, .bool false, .int .i64 0, .bool false, .bool false, .bool true, .bool false, .bool false, .bool false, .int .i64 0, .slice (some ⟨w.heap.size + 1 + 1, 0, none⟩) 1 1, .slice none 0 0, .slice none 0 0, .slice none 0 0] 26)).alloc (.cells #[.string { data := #[97] }] 9)).alloc (.cells #[.slice (some ⟨w.heap.size + 1, 0, none⟩) 1 1, .int .u16 1, .int .u16 1] 64)).alloc (.cells #[.int .u16 1, .bool false, .int .i64 0, .bool false, .bool false, .bool true, .bool false, .bool false, .bool false, .int .i64 0, .slice (some ⟨w.heap.size + 1 + 1, 0, none⟩) 1 1, .slice none 0 0, .slice none 0 0, .slice none 0 0] 26)) = w9 at *
  have k0 := box_cell u1.out 0 _ rfl
  have k1 := box_cell u1.out 1 _ rfl
  have k2 := box_cell u1.out 2 _ rfl
  have k3 := box_cell u1.out 3 _ rfl
  have k4 := box_cell u1.out 4 _ rfl
  have k5 := box_cell u1.out 5 _ rfl
  have k6 := box_cell u1.out 6 _ rfl
  have k7 := box_cell u1.out 7 _ rfl
  have k8 := box_cell u1.out 8 _ rfl
  have k9 := box_cell u1.out 9 _ rfl
  have k10 := box_cell u1.out 10 _ rfl
  have k11 := box_cell u1.out 11 _ rfl
  have k12 := box_cell u1.out 12 _ rfl
  have k13 := box_cell u1.out 13 _ rfl
  exact bodyPost_ret (v := .agg #[.int .u16 1, .bool false, .int .i64 0, .bool false, .bool false, .bool true, .bool false, .bool false, .bool false, .int .i64 0, .slice (some ⟨w.heap.size + 1 + 1, 0, none⟩) 1 1, .slice none 0 0, .slice none 0 0, .slice none 0 0]) (by simp [results, Tryz.results31, go_sem, k0, k1, k2, k3, k4, k5, k6, k7, k8, k9, k10, k11, k12, k13]) rfl ⟨_, rfl, HM.out⟩
set_option maxRecDepth 100000 in
set_option maxHeartbeats 2000000 in
theorem one_yes (w : World) : Calls Tryz.prog 31 #[.bool true] w fun e w' => ∃ x : MA, e = .returned (.agg #[.int .u16 oneH.id, .bool oneH.rs, .int .i64 oneH.op, .bool oneH.aa, .bool oneH.tc, .bool oneH.rd, .bool oneH.ra, .bool oneH.ad, .bool oneH.cd, .int .i64 oneH.rc, .slice x.q.a x.q.n x.q.c, .slice x.l1.a x.l1.n x.l1.c, .slice x.l2.a x.l2.n x.l2.c, .slice x.l3.a x.l3.n x.l3.c]) ∧ Hid (MRd w' oneH x (oneM true) ∧ Below w.heap.size w w') := by
  go_enter Tryz.func31, Tryz.ntmps31
  go_wp2_with fail
  obtain ⟨h1, h2, h3, h4, h5, h6⟩ := four_at w (.cells #[.int .u16 1, .bool false, .int .i64 0, .bool false, .bool false, .bool true, .bool false, .bool false, .bool false, .int .i64 0, .slice (some ⟨w.heap.size + 1 + 1, 0, none⟩) 1 1, .slice (some ⟨w.heap.size + 1 + 1 + 1 + 1 + 1 + 1, 0, none⟩) 1 1, .slice none 0 0, .slice none 0 0] 26) (.cells #[.string { data := #[97] }] 9) (.cells #[.slice (some ⟨w.heap.size + 1, 0, none⟩) 1 1, .int .u16 1, .int .u16 1] 64) (.cells #[.int .u16 1, .bool false, .int .i64 0, .bool false, .bool false, .bool true, .bool false, .bool false, .bool false, .int .i64 0, .slice (some ⟨w.heap.size + 1 + 1, 0, none⟩) 1 1, .slice (some ⟨w.heap.size + 1 + 1 + 1 + 1 + 1 + 1, 0, none⟩) 1 1, .slice none 0 0, .slice none 0 0] 26)
  obtain ⟨g1, g2, g3, g4, g5⟩ := three_at ((((w.alloc (.cells #[.int .u16 1, .bool false, .int .i64 0, .bool false, .bool false, .bool true, .bool false, .bool false, .bool false, .int .i64 0, .slice (some ⟨w.heap.size + 1 + 1, 0, none⟩) 1 1, .slice (some ⟨w.heap.size + 1 + 1 + 1 + 1 + 1 + 1, 0, none⟩) 1 1, .slice none 0 0, .slice none 0 0] 26)).alloc (.cells #[.string { data := #[97] }] 9)).alloc (.cells #[.slice (some ⟨w.heap.size + 1, 0, none⟩) 1 1, .int .u16 1, .int .u16 1] 64)).alloc (.cells #[.int .u16 1, .bool false, .int .i64 0, .bool false, .bool false, .bool true, .bool false, .bool false, .bool false, .int .i64 0, .slice (some ⟨w.heap.size + 1 + 1, 0, none⟩) 1 1, .slice (some ⟨w.heap.size + 1 + 1 + 1 + 1 + 1 + 1, 0, none⟩) 1 1, .slice none 0 0, .slice none 0 0] 26)) (.cells #[.string { data := #[97] }] 9) (.cells #[.int .u8 1, .int .u8 2, .int .u8 3, .int .u8 4] 5) (.cells #[.slice (some ⟨w.heap.size + 1 + 1 + 1 + 1, 0, none⟩) 1 1, .int .u16 1, .int .u16 1, .int .u32 60, .slice none 0 0, .slice none 0 0, .slice none 0 0, .slice (some ⟨w.heap.size + 1 + 1 + 1 + 1 + 1, 0, none⟩) 4 4] 61)
  have u1 : Hid ((((((((w.alloc (.cells #[.int .u16 1, .bool false, .int .i64 0, .bool false, .bool false, .bool true, .bool false, .bool false, .bool false, .int .i64 0, .slice (some ⟨w.heap.size + 1 + 1, 0, none⟩) 1 1, .slice (some ⟨w.heap.size + 1 + 1 + 1 + 1 + 1 + 1, 0, none⟩) 1 1, .slice none 0 0, .slice none 0 0] 26)).alloc (.cells #[.string { data := #[97] }] 9)).alloc (.cells #[.slice (some ⟨w.heap.size + 1, 0, none⟩) 1 1, .int .u16 1, .int .u16 1] 64)).alloc (.cells #[.int .u16 1, .bool false, .int .i64 0, .bool false, .bool false, .bool true, .bool false, .bool false, .bool false, .int .i64 0, .slice (some ⟨w.heap.size + 1 + 1, 0, none⟩) 1 1, .slice (some ⟨w.heap.size + 1 + 1 + 1 + 1 + 1 + 1, 0, none⟩) 1 1, .slice none 0 0, .slice none 0 0] 26)).alloc (.cells #[.string { data := #[97] }] 9)).alloc (.cells #[.int .u8 1, .int .u8 2, .int .u8 3, .int .u8 4] 5)).alloc (.cells #[.slice (some ⟨w.heap.size + 1 + 1 + 1 + 1, 0, none⟩) 1 1, .int .u16 1, .int .u16 1, .int .u32 60, .slice none 0 0, .slice none 0 0, .slice none 0 0, .slice (some ⟨w.heap.size + 1 + 1 + 1 + 1 + 1, 0, none⟩) 4 4] 61)).heap[w.heap.size]? = some (.cells #[.int .u16 1, .bool false, .int .i64 0, .bool false, .bool false, .bool true, .bool false, .bool false, .bool false, .int .i64 0, .slice (some ⟨w.heap.size + 1 + 1, 0, none⟩) 1 1, .slice (some ⟨w.heap.size + 1 + 1 + 1 + 1 + 1 + 1, 0, none⟩) 1 1, .slice none 0 0, .slice none 0 0] 26)) := (g1.block _ (by rw [h6]; omega)).trans h2
  rw [h6] at g2 g3 g4
  have HM : Hid (MRd (((((((w.alloc (.cells #[.int .u16 1, .bool false, .int .i64 0, .bool false, .bool false, .bool true, .bool false, .bool false, .bool false, .int .i64 0, .slice (some ⟨w.heap.size + 1 + 1, 0, none⟩) 1 1, .slice (some ⟨w.heap.size + 1 + 1 + 1 + 1 + 1 + 1, 0, none⟩) 1 1, .slice none 0 0, .slice none 0 0] 26)).alloc (.cells #[.string { data := #[97] }] 9)).alloc (.cells #[.slice (some ⟨w.heap.size + 1, 0, none⟩) 1 1, .int .u16 1, .int .u16 1] 64)).alloc (.cells #[.int .u16 1, .bool false, .int .i64 0, .bool false, .bool false, .bool true, .bool false, .bool false, .bool false, .int .i64 0, .slice (some ⟨w.heap.size + 1 + 1, 0, none⟩) 1 1, .slice (some ⟨w.heap.size + 1 + 1 + 1 + 1 + 1 + 1, 0, none⟩) 1 1, .slice none 0 0, .slice none 0 0] 26)).alloc (.cells #[.string { data := #[97] }] 9)).alloc (.cells #[.int .u8 1, .int .u8 2, .int .u8 3, .int .u8 4] 5)).alloc (.cells #[.slice (some ⟨w.heap.size + 1 + 1 + 1 + 1, 0, none⟩) 1 1, .int .u16 1, .int .u16 1, .int .u32 60, .slice none 0 0, .slice none 0 0, .slice none 0 0, .slice (some ⟨w.heap.size + 1 + 1 + 1 + 1 + 1, 0, none⟩) 4 4] 61)) oneH ⟨⟨some ⟨w.heap.size + 1 + 1, 0, none⟩, 1, 1⟩, ⟨some ⟨w.heap.size + 1 + 1 + 1 + 1 + 1 + 1, 0, none⟩, 1, 1⟩, ⟨none, 0, 0⟩, ⟨none, 0, 0⟩⟩ (oneM true) ∧ Below w.heap.size w (((((((w.alloc (.cells #[.int .u16 1, .bool false, .int .i64 0, .bool false, .bool false, .bool true, .bool false, .bool false, .bool false, .int .i64 0, .slice (some ⟨w.heap.size + 1 + 1, 0, none⟩) 1 1, .slice (some ⟨w.heap.size + 1 + 1 + 1 + 1 + 1 + 1, 0, none⟩) 1 1, .slice none 0 0, .slice none 0 0] 26)).alloc (.cells #[.string { data := #[97] }] 9)).alloc (.cells #[.slice (some ⟨w.heap.size + 1, 0, none⟩) 1 1, .int .u16 1, .int .u16 1] 64)).alloc (.cells #[.int .u16 1, .bool false, .int .i64 0, .bool false, .bool false, .bool true, .bool false, .bool false, .bool false, .int .i64 0, .slice (some ⟨w.heap.size + 1 + 1, 0, none⟩) 1 1, .slice (some ⟨w.heap.size + 1 + 1 + 1 + 1 + 1 + 1, 0, none⟩) 1 1, .slice none 0 0, .slice none 0 0] 26)).alloc (.cells #[.string { data := #[97] }] 9)).alloc (.cells #[.int .u8 1, .int .u8 2, .int .u8 3, .int .u8 4] 5)).alloc (.cells #[.slice (some ⟨w.heap.size + 1 + 1 + 1 + 1, 0, none⟩) 1 1, .int .u16 1, .int .u16 1, .int .u32 60, .slice none 0 0, .slice none 0 0, .slice none 0 0, .slice (some ⟨w.heap.size + 1 + 1 + 1 + 1 + 1, 0, none⟩) 4 4] 61))) := by
    have f3 := (g1.block (w.heap.size + 1) (by rw [h6]; omega)).trans h3
    have f4 := (g1.block (w.heap.size + 1 + 1) (by rw [h6]; omega)).trans h4
    have hbel : Below w.heap.size w (((((((w.alloc (.cells #[.int .u16 1, .bool false, .int .i64 0, .bool false, .bool false, .bool true, .bool false, .bool false, .bool false, .int .i64 0, .slice (some ⟨w.heap.size + 1 + 1, 0, none⟩) 1 1, .slice (some ⟨w.heap.size + 1 + 1 + 1 + 1 + 1 + 1, 0, none⟩) 1 1, .slice none 0 0, .slice none 0 0] 26)).alloc (.cells #[.string { data := #[97] }] 9)).alloc (.cells #[.slice (some ⟨w.heap.size + 1, 0, none⟩) 1 1, .int .u16 1, .int .u16 1] 64)).alloc (.cells #[.int .u16 1, .bool false, .int .i64 0, .bool false, .bool false, .bool true, .bool false, .bool false, .bool false, .int .i64 0, .slice (some ⟨w.heap.size + 1 + 1, 0, none⟩) 1 1, .slice (some ⟨w.heap.size + 1 + 1 + 1 + 1 + 1 + 1, 0, none⟩) 1 1, .slice none 0 0, .slice none 0 0] 26)).alloc (.cells #[.string { data := #[97] }] 9)).alloc (.cells #[.int .u8 1, .int .u8 2, .int .u8 3, .int .u8 4] 5)).alloc (.cells #[.slice (some ⟨w.heap.size + 1 + 1 + 1 + 1, 0, none⟩) 1 1, .int .u16 1, .int .u16 1, .int .u32 60, .slice none 0 0, .slice none 0 0, .slice none 0 0, .slice (some ⟨w.heap.size + 1 + 1 + 1 + 1 + 1, 0, none⟩) 4 4] 61)) := h1.trans (g1.mono (by rw [h6]; omega))
    generalize (((((((w.alloc (.cells #[.int .u16 1, .bool false, .int .i64 0, .bool false, .bool false, .bool true, .bool false, .bool false, .bool false, .int .i64 0, .slice (some ⟨w.heap.size + 1 + 1, 0, none⟩) 1 1, .slice (some ⟨w.heap.size + 1 + 1 + 1 + 1 + 1 + 1, 0, none⟩) 1 1, .slice none 0 0, .slice none 0 0] 26)).alloc (.cells #[.string { data := #[97] }] 9)).alloc (.cells #[.slice (some ⟨w.heap.size + 1, 0, none⟩) 1 1, .int .u16 1, .int .u16 1] 64)).alloc (.cells #[.int .u16 1, .bool false, .int .i64 0, .bool false, .bool false, .bool true, .bool false, .bool false, .bool false, .int .i64 0, .slice (some ⟨w.heap.size + 1 + 1, 0, none⟩) 1 1, .slice (some ⟨w.heap.size + 1 + 1 + 1 + 1 + 1 + 1, 0, none⟩) 1 1, .slice none 0 0, .slice none 0 0] 26)).alloc (.cells #[.string { data := #[97] }] 9)).alloc (.cells #[.int .u8 1, .int .u8 2, .int .u8 3, .int .u8 4] 5)).alloc (.cells #[.slice (some ⟨w.heap.size + 1 + 1 + 1 + 1, 0, none⟩) 1 1, .int .u16 1, .int .u16 1, .int .u32 60, .slice none 0 0, .slice none 0 0, .slice none 0 0, .slice (some ⟨w.heap.size + 1 + 1 + 1 + 1 + 1, 0, none⟩) 4 4] 61)) = w9 at *
    refine ⟨⟨rfl, qn_at (s := ⟨some ⟨w.heap.size + 1, 0, none⟩, 1, 1⟩) (t := 1) (cl := 1) f4 (txt_at f3 (by decide)) (by decide) (by decide), ?_, lrd_nil _, lrd_nil _, ?_⟩, hbel⟩
    · refine rec_at (x := ⟨⟨some ⟨w.heap.size + 1 + 1 + 1 + 1, 0, none⟩, 1, 1⟩, ⟨⟨none, 0, 0⟩, ⟨none, 0, 0⟩, ⟨none, 0, 0⟩, ⟨some ⟨w.heap.size + 1 + 1 + 1 + 1 + 1, 0, none⟩, 4, 4⟩⟩⟩) (r := oneR) g4 ⟨txt_at g2 (by decide), ⟨⟨.inl rfl, rfl, ⟨Nat.le_refl _, by simp⟩, fun _ => rfl⟩, ⟨.inl rfl, rfl, ⟨Nat.le_refl _, by simp⟩, fun _ => rfl, fun x hx => (by cases hx)⟩, ⟨.inl rfl, rfl, ⟨Nat.le_refl _, by simp⟩, fun _ => rfl, fun x hx => (by cases hx)⟩, raw_at (zs := [1, 2, 3, 4]) g3 rfl (by decide) (by decide)⟩⟩
    · refine ⟨by decide, fun q hq => ?_, fun r hr => ?_, fun r hr => (by cases hr), fun r hr => (by cases hr)⟩
      · rw [List.mem_singleton.1 hq]
        exact ⟨by decide, by decide⟩
      · rw [List.mem_singleton.1 (show r ∈ [oneR] from hr)]
        exact ⟨by decide, by decide, by decide⟩
  clear h1 h2 h3 h4 h5 h6 g1 g2 g3 g4 g5
  generalize (((((((w.alloc (.cells #[.int .u16 1, .bool false, .int .i64 0, .bool false, .bool false, .bool true, .bool false, .bool false, .bool false, .int .i64 0, .slice (some ⟨w.heap.size + 1 + 1, 0, none⟩) 1 1, .slice (some ⟨w.heap.size + 1 + 1 + 1 + 1 + 1 + 1, 0, none⟩) 1 1, .slice none 0 0, .slice none 0 0] 26)).alloc (.cells #[.string { data := #[97] }] 9)).alloc (.cells #[.slice (some ⟨w.heap.size + 1, 0, none⟩) 1 1, .int .u16 1, .int .u16 1] 64)).alloc (.cells #[.int .u16 1, .bool false, .int .i64 0, .bool false, .bool false, .bool true, .bool false, .bool false, .bool false, .int .i64 0, .slice (some ⟨w.heap.size + 1 + 1, 0, none⟩) 1 1, .slice (some ⟨w.heap.size + 1 + 1 + 1 + 1 + 1 + 1, 0, none⟩) 1 1, .slice none 0 0, .slice none 0 0] 26)).alloc (.cells #[.string { data := #[97] }] 9)).alloc (.cells #[.int .u8 1, .int .u8 2, .int .u8 3, .int .u8 4] 5)).alloc (.cells #[.slice (some ⟨w.heap.size + 1 + 1 + 1 + 1, 0, none⟩) 1 1, .int .u16 1, .int .u16 1, .int .u32 60, .slice none 0 0, .slice none 0 0, .slice none 0 0, .slice (some ⟨w.heap.size + 1 + 1 + 1 + 1 + 1, 0, none⟩) 4 4] 61)) = w9 at *
  have k0 := box_cell u1.out 0 _ rfl
  have k1 := box_cell u1.out 1 _ rfl
  have k2 := box_cell u1.out 2 _ rfl
  have k3 := box_cell u1.out 3 _ rfl
  have k4 := box_cell u1.out 4 _ rfl
  have k5 := box_cell u1.out 5 _ rfl
  have k6 := box_cell u1.out 6 _ rfl
  have k7 := box_cell u1.out 7 _ rfl
  have k8 := box_cell u1.out 8 _ rfl
  have k9 := box_cell u1.out 9 _ rfl
  have k10 := box_cell u1.out 10 _ rfl
  have k11 := box_cell u1.out 11 _ rfl
  have k12 := box_cell u1.out 12 _ rfl
  have k13 := box_cell u1.out 13 _ rfl
  exact bodyPost_ret (v := .agg #[.int .u16 1, .bool false, .int .i64 0, .bool false, .bool false, .bool true, .bool false, .bool false, .bool false, .int .i64 0, .slice (some ⟨w.heap.size + 1 + 1, 0, none⟩) 1 1, .slice (some ⟨w.heap.size + 1 + 1 + 1 + 1 + 1 + 1, 0, none⟩) 1 1, .slice none 0 0, .slice none 0 0]) (by simp [results, Tryz.results31, go_sem, k0, k1, k2, k3, k4, k5, k6, k7, k8, k9, k10, k11, k12, k13]) rfl ⟨_, rfl, HM.out⟩
end Go.Proofs.YteplffhfeoephaaGreat
namespace Go.Proofs.YteplffhfeoephaaGreat
open Go.ChangeShapes Go.WideShapes Go.ChangeAt Go.RowKit Go.Maps
def oneB : List Int := [0, 1, 1, 0, 0, 1, 0, 1, 0, 0, 0, 0, 1, 97, 0, 0, 1, 0, 1, 192, 12, 0, 1, 0, 1, 0, 0, 0, 60, 0, 4, 1, 2, 3, 4]
def askB : List Int := [0, 1, 1, 0, 0, 1, 0, 0, 0, 0, 0, 0, 1, 97, 0, 0, 1, 0, 1]
theorem one_chk : chkM (oneM true) = 0 := by decide +kernel
theorem ask_chk : chkM (oneM false) = 0 := by decide +kernel
theorem one_wr : (prun (pmsg (oneM true)) (some ([], []))).map (·.1) = some oneB := by decide +kernel
theorem ask_wr : (prun (pmsg (oneM false)) (some ([], []))).map (·.1) = some askB := by decide +kernel
theorem mb_one (a : Bool) : Mb (oneM a) := by
  refine ⟨(show (1 : Nat) < 65536 by decide), fun q hq => ?_, fun r hr => ?_, fun r hr => (by cases hr), fun r hr => (by cases hr)⟩
  · rw [List.mem_singleton.1 hq]
    exact ⟨by decide, by decide⟩
  · cases a
    · cases hr
    · rw [List.mem_singleton.1 (show r ∈ [oneR] from hr)]
      exact ⟨by decide, by decide, by decide⟩
theorem one_rd : gmsg oneB = some (oneM true) := by
  obtain ⟨x, h1, h2⟩ := Option.map_eq_some_iff.1 one_wr
  obtain ⟨zs, pl⟩ := x
  simp only at h2
  subst h2
  exact (msg_back (chkM_zero.1 one_chk) (mb_one true) h1).1
theorem ask_rd : gmsg askB = some (oneM false) := by
  obtain ⟨x, h1, h2⟩ := Option.map_eq_some_iff.1 ask_wr
  obtain ⟨zs, pl⟩ := x
  simp only at h2
  subst h2
  exact (msg_back (chkM_zero.1 ask_chk) (mb_one false) h1).1
theorem fin_one (a : Bool) : Fin (oneM a) := by
  cases a
  · exact (chkM_zero.1 ask_chk).fin
  · exact (chkM_zero.1 one_chk).fin
theorem one_bytes (x : MA) (w : World) (hm : MRd w oneH x (oneM true)) : Calls Tryz.prog 11 #[.agg #[.int .u16 oneH.id, .bool oneH.rs, .int .i64 oneH.op, .bool oneH.aa, .bool oneH.tc, .bool oneH.rd, .bool oneH.ra, .bool oneH.ad, .bool oneH.cd, .int .i64 oneH.rc, .slice x.q.a x.q.n x.q.c, .slice x.l1.a x.l1.n x.l1.c, .slice x.l2.a x.l2.n x.l2.c, .slice x.l3.a x.l3.n x.l3.c]] w fun e w' => ∃ s : Sl, e = .returned (.tuple #[(.slice s.a s.n s.c), .int .i64 0]) ∧ Hid (BRd w' s oneB ∧ Below w.heap.size w w') := by
  refine (bytes_msg oneH x (oneM true) w hm (fin_one true)).mono ?_
  rintro e w' ⟨s, er, e1, H1⟩
  obtain ⟨h1, h2⟩ := H1.out
  unfold ByR at h1
  rw [if_pos one_chk] at h1
  obtain ⟨y, h3, h4⟩ := Option.map_eq_some_iff.1 one_wr
  rw [h3] at h1
  obtain ⟨h5, h6⟩ := h1
  rw [h4] at h6
  exact ⟨s, by rw [e1, h5], h6, h2⟩
theorem ask_bytes (x : MA) (w : World) (hm : MRd w oneH x (oneM false)) : Calls Tryz.prog 11 #[.agg #[.int .u16 oneH.id, .bool oneH.rs, .int .i64 oneH.op, .bool oneH.aa, .bool oneH.tc, .bool oneH.rd, .bool oneH.ra, .bool oneH.ad, .bool oneH.cd, .int .i64 oneH.rc, .slice x.q.a x.q.n x.q.c, .slice x.l1.a x.l1.n x.l1.c, .slice x.l2.a x.l2.n x.l2.c, .slice x.l3.a x.l3.n x.l3.c]] w fun e w' => ∃ s : Sl, e = .returned (.tuple #[(.slice s.a s.n s.c), .int .i64 0]) ∧ Hid (BRd w' s askB ∧ Below w.heap.size w w') := by
  refine (bytes_msg oneH x (oneM false) w hm (fin_one false)).mono ?_
  rintro e w' ⟨s, er, e1, H1⟩
  obtain ⟨h1, h2⟩ := H1.out
  unfold ByR at h1
  rw [if_pos ask_chk] at h1
  obtain ⟨y, h3, h4⟩ := Option.map_eq_some_iff.1 ask_wr
  rw [h3] at h1
  obtain ⟨h5, h6⟩ := h1
  rw [h4] at h6
  exact ⟨s, by rw [e1, h5], h6, h2⟩
end Go.Proofs.YteplffhfeoephaaGreat
namespace Go.Proofs.YteplffhfeoephaaGreat
open Go.ChangeShapes Go.WideShapes Go.ChangeAt Go.RowKit Go.Maps
set_option linter.unusedVariables false
set_option linter.unusedSimpArgs false
set_option maxRecDepth 100000 in
set_option maxHeartbeats 4000000 in
theorem awake10 (w : World) : Calls Tryz.prog 28 #[] w fun e w' => e = .returned (.bool true) ∧ Hid (Below w.heap.size w w') := by
  have K31 := fun W => Lib.hid (one_yes W)
  go_enter Tryz.func28, Tryz.ntmps28
  go_wp2_with fail
  refine (K31 w).out.mono ?_
  rintro e w1 ⟨x1, rfl, H1⟩
  have K11 := Lib.hid (one_bytes x1 w1 H1.out.1)
  go_wp2_with fail
  refine K11.out.mono ?_
  rintro e w2 ⟨s, rfl, H2⟩
  have hsn : s.n = 35 := H2.out.1.len.symm
  have K24 := Lib.hid (mread_some s oneB w2 H2.out.1 (by omega) (by omega) (oneM true) one_rd)
  have HB2 : Hid (Below w.heap.size w w2) := H1.out.2.trans (H2.out.2.mono H1.out.2.size)
  clear hsn K11
  go_wp2_with fail
  refine K24.out.mono ?_
  rintro e w3 ⟨x3, rfl, H3⟩
  have HB3 : Hid (Below w.heap.size w w3) := HB2.out.trans (H3.out.2.2.mono HB2.out.size)
  have HS3 : Hid (BRd w3 s oneB) := H2.out.1.below H3.out.2.2
  have HM3 : Hid (MRd w3 oneH x3 (oneM true)) := H3.out.2.1
  clear H1 H2 H3 HB2 K24
  have hn3 := newq_below w3 (.cells #[.int .u16 oneH.id, .bool oneH.rs, .int .i64 oneH.op, .bool oneH.aa, .bool oneH.tc, .bool oneH.rd, .bool oneH.ra, .bool oneH.ad, .bool oneH.cd, .int .i64 oneH.rc, .slice x3.q.a x3.q.n x3.q.c, .slice x3.l1.a x3.l1.n x3.l1.c, .slice x3.l2.a x3.l2.n x3.l2.c, .slice x3.l3.a x3.l3.n x3.l3.c] 26)
  have HB4 : Hid (Below w.heap.size w (w3.alloc (.cells #[.int .u16 oneH.id, .bool oneH.rs, .int .i64 oneH.op, .bool oneH.aa, .bool oneH.tc, .bool oneH.rd, .bool oneH.ra, .bool oneH.ad, .bool oneH.cd, .int .i64 oneH.rc, .slice x3.q.a x3.q.n x3.q.c, .slice x3.l1.a x3.l1.n x3.l1.c, .slice x3.l2.a x3.l2.n x3.l2.c, .slice x3.l3.a x3.l3.n x3.l3.c] 26))) := HB3.out.trans (hn3.mono HB3.out.size)
  have HS4 : Hid (BRd (w3.alloc (.cells #[.int .u16 oneH.id, .bool oneH.rs, .int .i64 oneH.op, .bool oneH.aa, .bool oneH.tc, .bool oneH.rd, .bool oneH.ra, .bool oneH.ad, .bool oneH.cd, .int .i64 oneH.rc, .slice x3.q.a x3.q.n x3.q.c, .slice x3.l1.a x3.l1.n x3.l1.c, .slice x3.l2.a x3.l2.n x3.l2.c, .slice x3.l3.a x3.l3.n x3.l3.c] 26)) s oneB) := HS3.out.below hn3
  have HM4 : Hid (MRd (w3.alloc (.cells #[.int .u16 oneH.id, .bool oneH.rs, .int .i64 oneH.op, .bool oneH.aa, .bool oneH.tc, .bool oneH.rd, .bool oneH.ra, .bool oneH.ad, .bool oneH.cd, .int .i64 oneH.rc, .slice x3.q.a x3.q.n x3.q.c, .slice x3.l1.a x3.l1.n x3.l1.c, .slice x3.l2.a x3.l2.n x3.l2.c, .slice x3.l3.a x3.l3.n x3.l3.c] 26)) oneH x3 (oneM true)) := HM3.out.below hn3
  have HD4 : Hid ((w3.alloc (.cells #[.int .u16 oneH.id, .bool oneH.rs, .int .i64 oneH.op, .bool oneH.aa, .bool oneH.tc, .bool oneH.rd, .bool oneH.ra, .bool oneH.ad, .bool oneH.cd, .int .i64 oneH.rc, .slice x3.q.a x3.q.n x3.q.c, .slice x3.l1.a x3.l1.n x3.l1.c, .slice x3.l2.a x3.l2.n x3.l2.c, .slice x3.l3.a x3.l3.n x3.l3.c] 26)).heap[w3.heap.size]? = some (.cells #[.int .u16 oneH.id, .bool oneH.rs, .int .i64 oneH.op, .bool oneH.aa, .bool oneH.tc, .bool oneH.rd, .bool oneH.ra, .bool oneH.ad, .bool oneH.cd, .int .i64 oneH.rc, .slice x3.q.a x3.q.n x3.q.c, .slice x3.l1.a x3.l1.n x3.l1.c, .slice x3.l2.a x3.l2.n x3.l2.c, .slice x3.l3.a x3.l3.n x3.l3.c] 26)) := heap_alloc_new _ _
  obtain ⟨D, hD⟩ : ∃ D, D = w3.heap.size := ⟨_, rfl⟩
  rw [← hD] at HD4
  clear hn3
  go_upto_region 3 with fail
  simp only [show (oneM true).h = oneH from rfl, ← hD]
  generalize w3.alloc (.cells #[.int .u16 oneH.id, .bool oneH.rs, .int .i64 oneH.op, .bool oneH.aa, .bool oneH.tc, .bool oneH.rd, .bool oneH.ra, .bool oneH.ad, .bool oneH.cd, .int .i64 oneH.rc, .slice x3.q.a x3.q.n x3.q.c, .slice x3.l1.a x3.l1.n x3.l1.c, .slice x3.l2.a x3.l2.n x3.l2.c, .slice x3.l3.a x3.l3.n x3.l3.c] 26) = w4 at *
  clear hD
  have KSM : Hid (∀ (x y : MA) (W : World), MRd W oneH x (oneM true) → MRd W oneH y (oneM true) → Calls Tryz.prog 20 #[.agg #[.int .u16 oneH.id, .bool oneH.rs, .int .i64 oneH.op, .bool oneH.aa, .bool oneH.tc, .bool oneH.rd, .bool oneH.ra, .bool oneH.ad, .bool oneH.cd, .int .i64 oneH.rc, .slice x.q.a x.q.n x.q.c, .slice x.l1.a x.l1.n x.l1.c, .slice x.l2.a x.l2.n x.l2.c, .slice x.l3.a x.l3.n x.l3.c], .agg #[.int .u16 oneH.id, .bool oneH.rs, .int .i64 oneH.op, .bool oneH.aa, .bool oneH.tc, .bool oneH.rd, .bool oneH.ra, .bool oneH.ad, .bool oneH.cd, .int .i64 oneH.rc, .slice y.q.a y.q.n y.q.c, .slice y.l1.a y.l1.n y.l1.c, .slice y.l2.a y.l2.n y.l2.c, .slice y.l3.a y.l3.n y.l3.c]] W fun e w' => e = .returned (.bool true) ∧ Hid (Below W.heap.size W w')) := fun x y W h1 h2 => same_msg oneH x y (oneM true) W h1 h2
  generalize oneH = H at *
  have KS : ∀ W : World, Below w4.heap.size w4 W → ((convert 29 9 (.slice s.a s.n s.c)).run Tryz.prog W = .ok (.string { data := #[0, 1, 1, 0, 0, 1, 0, 1, 0, 0, 0, 0, 1, 97, 0, 0, 1, 0, 1, 192, 12, 0, 1, 0, 1, 0, 0, 0, 60, 0, 4, 1, 2, 3, 4] }) W ∧ W.cell? ⟨D, 0, none⟩ = some (.int .u16 (H.id : Int)) ∧ W.cell? ⟨D, 1, none⟩ = some (.bool H.rs) ∧ W.cell? ⟨D, 2, none⟩ = some (.int .i64 H.op) ∧ W.cell? ⟨D, 3, none⟩ = some (.bool H.aa) ∧ W.cell? ⟨D, 4, none⟩ = some (.bool H.tc) ∧ W.cell? ⟨D, 5, none⟩ = some (.bool H.rd) ∧ W.cell? ⟨D, 6, none⟩ = some (.bool H.ra) ∧ W.cell? ⟨D, 7, none⟩ = some (.bool H.ad) ∧ W.cell? ⟨D, 8, none⟩ = some (.bool H.cd) ∧ W.cell? ⟨D, 9, none⟩ = some (.int .i64 H.rc) ∧ W.cell? ⟨D, 10, none⟩ = some (.slice x3.q.a x3.q.n x3.q.c) ∧ W.cell? ⟨D, 11, none⟩ = some (.slice x3.l1.a x3.l1.n x3.l1.c) ∧ W.cell? ⟨D, 12, none⟩ = some (.slice x3.l2.a x3.l2.n x3.l2.c) ∧ W.cell? ⟨D, 13, none⟩ = some (.slice x3.l3.a x3.l3.n x3.l3.c)) := fun W hW => by
    have m := (hW.block D (box_lt HD4.out)).trans HD4.out
    refine ⟨?_, box_cell m 0 _ rfl, box_cell m 1 _ rfl, box_cell m 2 _ rfl, box_cell m 3 _ rfl, box_cell m 4 _ rfl, box_cell m 5 _ rfl, box_cell m 6 _ rfl, box_cell m 7 _ rfl, box_cell m 8 _ rfl, box_cell m 9 _ rfl, box_cell m 10 _ rfl, box_cell m 11 _ rfl, box_cell m 12 _ rfl, box_cell m 13 _ rfl⟩
    have hb := HS4.out.below hW
    exact conv_rd s.a s.n s.c oneB W hb.rd hb.len
  obtain ⟨cv, m0, m1, m2, m3, m4, m5, m6, m7, m8, m9, m10, m11, m12, m13⟩ := KS w4 (Below.refl _ _)
  have lD := box_lt HD4.out
  go_region_held3 (fun W => (convert 29 9 (.slice s.a s.n s.c)).run Tryz.prog W = .ok (.string { data := #[0, 1, 1, 0, 0, 1, 0, 1, 0, 0, 0, 0, 1, 97, 0, 0, 1, 0, 1, 192, 12, 0, 1, 0, 1, 0, 0, 0, 60, 0, 4, 1, 2, 3, 4] }) W ∧ W.cell? ⟨D, 0, none⟩ = some (.int .u16 (H.id : Int)) ∧ W.cell? ⟨D, 1, none⟩ = some (.bool H.rs) ∧ W.cell? ⟨D, 2, none⟩ = some (.int .i64 H.op) ∧ W.cell? ⟨D, 3, none⟩ = some (.bool H.aa) ∧ W.cell? ⟨D, 4, none⟩ = some (.bool H.tc) ∧ W.cell? ⟨D, 5, none⟩ = some (.bool H.rd) ∧ W.cell? ⟨D, 6, none⟩ = some (.bool H.ra) ∧ W.cell? ⟨D, 7, none⟩ = some (.bool H.ad) ∧ W.cell? ⟨D, 8, none⟩ = some (.bool H.cd) ∧ W.cell? ⟨D, 9, none⟩ = some (.int .i64 H.rc) ∧ W.cell? ⟨D, 10, none⟩ = some (.slice x3.q.a x3.q.n x3.q.c) ∧ W.cell? ⟨D, 11, none⟩ = some (.slice x3.l1.a x3.l1.n x3.l1.c) ∧ W.cell? ⟨D, 12, none⟩ = some (.slice x3.l2.a x3.l2.n x3.l2.c) ∧ W.cell? ⟨D, 13, none⟩ = some (.slice x3.l3.a x3.l3.n x3.l3.c)) (first | exact KS _ B7.out | exact KS _ B6.out | exact KS _ (Below.refl w4.heap.size w4).drew | exact KS _ (Below.refl w4.heap.size w4)) (first
    | (go_at_call 31; refine Calls.mono (K31 _).out ?_; rintro e w6 ⟨x6, rfl, H6⟩; have B6 : Hid (Below w4.heap.size w4 w6) := (by first | exact Below.trans ((Below.refl w4.heap.size w4).drew) H6.out.2 | exact H6.out.2))
    | (go_at_call 20; refine Calls.mono (KSM.out x3 x6 _ (HM4.out.below B6.out) H6.out.1) ?_; rintro e w7 ⟨rfl, H7⟩; have B7 : Hid (Below w4.heap.size w4 w7) := (Below.trans B6.out (Below.mono H7.out B6.out.size))))
  go_wp2
  go_ret
  exact ⟨rfl, HB4.out.trans (B7.out.mono HB4.out.size)⟩
end Go.Proofs.YteplffhfeoephaaGreat
namespace Go.Proofs.YteplffhfeoephaaGreat
open Go.ChangeShapes Go.WideShapes Go.ChangeAt Go.RowKit Go.Maps
set_option linter.unusedVariables false
def cutB : List Int := askB.take 18
theorem cut_nm : ∃ out, gnm cutB 12 = some (out, 15) := by
  refine ⟨[] ++ [qlab cutB (12 + 1) (cutB.getD 12 0).toNat], ?_⟩
  unfold gnm
  rw [qgo_lab (by decide) (by decide) (by decide) (by decide) (by decide +kernel)]
  exact qgo_end (p := 14) (by decide) (by decide)
theorem cut_qn : gqn cutB 12 = none := by
  obtain ⟨out, h⟩ := cut_nm
  unfold gqn
  rw [h]
  have h1 : g16 cutB 15 = some (1, 17) := by decide +kernel
  have h2 : g16 cutB 17 = none := by decide +kernel
  simp only [Option.bind_some, h1, h2, Option.map_none]
theorem cut_no : gmsg cutB = none := by
  unfold gmsg
  rw [if_neg (by decide +kernel)]
  have e : nv cutB 2 = 1 := by decide +kernel
  rw [e]
  unfold gbody
  simp only [gmany, cut_qn, Option.bind_none]
theorem more_no : gmsg (askB ++ [0]) = none := msg_more ask_rd (by simp)
theorem q17_no : gmsg [0, 0, 0, 0, 0, 17, 0, 0, 0, 0, 0, 0] = none := Option.isNone_iff_eq_none.1 (by decide +kernel)
theorem part0_wr : (prun (pmsg (cutM (oneM true) 0)) (some ([], []))).map (·.1) = some askB := by decide +kernel
theorem part_0 (x : MA) (w : World) (hm : MRd w oneH x (oneM true)) : Calls Tryz.prog 13 #[.agg #[.int .u16 oneH.id, .bool oneH.rs, .int .i64 oneH.op, .bool oneH.aa, .bool oneH.tc, .bool oneH.rd, .bool oneH.ra, .bool oneH.ad, .bool oneH.cd, .int .i64 oneH.rc, .slice x.q.a x.q.n x.q.c, .slice x.l1.a x.l1.n x.l1.c, .slice x.l2.a x.l2.n x.l2.c, .slice x.l3.a x.l3.n x.l3.c], .int .i64 0] w fun e w' => ∃ s : Sl, e = .returned (.tuple #[(.slice s.a s.n s.c), .int .i64 0]) ∧ Hid (BRd w' s askB ∧ Below w.heap.size w w') := by
  refine (part_any oneH x (oneM true) 0 w hm (fin_one true)).mono ?_
  rintro e w' ⟨s, er, e1, H1⟩
  obtain ⟨h1, h2⟩ := H1.out
  unfold PtR at h1
  rw [if_pos one_chk, if_pos (by decide)] at h1
  obtain ⟨y, h3, h4⟩ := Option.map_eq_some_iff.1 part0_wr
  rw [show (0 : Int).toNat = 0 from rfl, h3] at h1
  obtain ⟨h5, h6⟩ := h1
  rw [h4] at h6
  exact ⟨s, by rw [e1, h5], h6, h2⟩
theorem part_2 (x : MA) (w : World) (hm : MRd w oneH x (oneM true)) : Calls Tryz.prog 13 #[.agg #[.int .u16 oneH.id, .bool oneH.rs, .int .i64 oneH.op, .bool oneH.aa, .bool oneH.tc, .bool oneH.rd, .bool oneH.ra, .bool oneH.ad, .bool oneH.cd, .int .i64 oneH.rc, .slice x.q.a x.q.n x.q.c, .slice x.l1.a x.l1.n x.l1.c, .slice x.l2.a x.l2.n x.l2.c, .slice x.l3.a x.l3.n x.l3.c], .int .i64 2] w fun e w' => e = .returned (.tuple #[.slice none 0 0, .int .i64 2]) ∧ Hid (Below w.heap.size w w') := by
  refine (part_any oneH x (oneM true) 2 w hm (fin_one true)).mono ?_
  rintro e w' ⟨s, er, e1, H1⟩
  obtain ⟨h1, h2⟩ := H1.out
  unfold PtR at h1
  rw [if_pos one_chk, if_neg (by decide)] at h1
  obtain ⟨h5, h6⟩ := h1
  subst h6
  exact ⟨by rw [e1, h5], h2⟩
def anyR : Rec := ⟨[aNm], 255, 1, 60, ⟨[], [], [], [1, 2, 3, 4]⟩⟩
def anyM : Mg := ⟨oneH, [⟨[aNm], 1, 1⟩], [anyR], [], []⟩
theorem any_chk : chkM anyM = 6 := by decide +kernel
def manyM : Mg := ⟨oneH, [⟨[aNm], 1, 1⟩], List.replicate 513 oneR, [], []⟩
theorem many_chk : chkM manyM = 3 := by decide +kernel
end Go.Proofs.YteplffhfeoephaaGreat
namespace Go.Proofs.YteplffhfeoephaaGreat
open Go.ChangeShapes Go.WideShapes Go.ChangeAt Go.RowKit Go.Maps
set_option linter.unusedVariables false
set_option linter.unusedSimpArgs false
def oneX (B : Nat) : MA := ⟨⟨some ⟨B + 1 + 1, 0, none⟩, 1, 1⟩, ⟨some ⟨B + 1 + 1 + 1 + 1 + 1 + 1, 0, none⟩, 1, 1⟩, ⟨none, 0, 0⟩, ⟨none, 0, 0⟩⟩
def OneAt (B : Nat) (w : World) : Prop := w.heap[B + 1]? = some (.cells #[.string { data := #[97] }] 9) ∧ w.heap[B + 1 + 1]? = some (.cells #[.slice (some ⟨B + 1, 0, none⟩) 1 1, .int .u16 1, .int .u16 1] 64) ∧ w.heap[B + 1 + 1 + 1 + 1]? = some (.cells #[.string { data := #[97] }] 9) ∧ w.heap[B + 1 + 1 + 1 + 1 + 1]? = some (.cells #[.int .u8 1, .int .u8 2, .int .u8 3, .int .u8 4] 5) ∧ w.heap[B + 1 + 1 + 1 + 1 + 1 + 1]? = some (.cells #[.slice (some ⟨B + 1 + 1 + 1 + 1, 0, none⟩) 1 1, .int .u16 1, .int .u16 1, .int .u32 60, .slice none 0 0, .slice none 0 0, .slice none 0 0, .slice (some ⟨B + 1 + 1 + 1 + 1 + 1, 0, none⟩) 4 4] 61)
set_option maxRecDepth 100000 in
set_option maxHeartbeats 2000000 in
theorem one_at (w : World) : Calls Tryz.prog 31 #[.bool true] w fun e w' => e = .returned (.agg #[.int .u16 oneH.id, .bool oneH.rs, .int .i64 oneH.op, .bool oneH.aa, .bool oneH.tc, .bool oneH.rd, .bool oneH.ra, .bool oneH.ad, .bool oneH.cd, .int .i64 oneH.rc, .slice (oneX w.heap.size).q.a (oneX w.heap.size).q.n (oneX w.heap.size).q.c, .slice (oneX w.heap.size).l1.a (oneX w.heap.size).l1.n (oneX w.heap.size).l1.c, .slice (oneX w.heap.size).l2.a (oneX w.heap.size).l2.n (oneX w.heap.size).l2.c, .slice (oneX w.heap.size).l3.a (oneX w.heap.size).l3.n (oneX w.heap.size).l3.c]) ∧ Hid (OneAt w.heap.size w' ∧ Below w.heap.size w w' ∧ w'.heap.size = w.heap.size + 7) := by
  go_enter Tryz.func31, Tryz.ntmps31
  go_wp2_with fail
  obtain ⟨h1, h2, h3, h4, h5, h6⟩ := four_at w (.cells #[.int .u16 1, .bool false, .int .i64 0, .bool false, .bool false, .bool true, .bool false, .bool false, .bool false, .int .i64 0, .slice (some ⟨w.heap.size + 1 + 1, 0, none⟩) 1 1, .slice (some ⟨w.heap.size + 1 + 1 + 1 + 1 + 1 + 1, 0, none⟩) 1 1, .slice none 0 0, .slice none 0 0] 26) (.cells #[.string { data := #[97] }] 9) (.cells #[.slice (some ⟨w.heap.size + 1, 0, none⟩) 1 1, .int .u16 1, .int .u16 1] 64) (.cells #[.int .u16 1, .bool false, .int .i64 0, .bool false, .bool false, .bool true, .bool false, .bool false, .bool false, .int .i64 0, .slice (some ⟨w.heap.size + 1 + 1, 0, none⟩) 1 1, .slice (some ⟨w.heap.size + 1 + 1 + 1 + 1 + 1 + 1, 0, none⟩) 1 1, .slice none 0 0, .slice none 0 0] 26)
  obtain ⟨g1, g2, g3, g4, g5⟩ := three_at ((((w.alloc (.cells #[.int .u16 1, .bool false, .int .i64 0, .bool false, .bool false, .bool true, .bool false, .bool false, .bool false, .int .i64 0, .slice (some ⟨w.heap.size + 1 + 1, 0, none⟩) 1 1, .slice (some ⟨w.heap.size + 1 + 1 + 1 + 1 + 1 + 1, 0, none⟩) 1 1, .slice none 0 0, .slice none 0 0] 26)).alloc (.cells #[.string { data := #[97] }] 9)).alloc (.cells #[.slice (some ⟨w.heap.size + 1, 0, none⟩) 1 1, .int .u16 1, .int .u16 1] 64)).alloc (.cells #[.int .u16 1, .bool false, .int .i64 0, .bool false, .bool false, .bool true, .bool false, .bool false, .bool false, .int .i64 0, .slice (some ⟨w.heap.size + 1 + 1, 0, none⟩) 1 1, .slice (some ⟨w.heap.size + 1 + 1 + 1 + 1 + 1 + 1, 0, none⟩) 1 1, .slice none 0 0, .slice none 0 0] 26)) (.cells #[.string { data := #[97] }] 9) (.cells #[.int .u8 1, .int .u8 2, .int .u8 3, .int .u8 4] 5) (.cells #[.slice (some ⟨w.heap.size + 1 + 1 + 1 + 1, 0, none⟩) 1 1, .int .u16 1, .int .u16 1, .int .u32 60, .slice none 0 0, .slice none 0 0, .slice none 0 0, .slice (some ⟨w.heap.size + 1 + 1 + 1 + 1 + 1, 0, none⟩) 4 4] 61)
  have u1 : Hid ((((((((w.alloc (.cells #[.int .u16 1, .bool false, .int .i64 0, .bool false, .bool false, .bool true, .bool false, .bool false, .bool false, .int .i64 0, .slice (some ⟨w.heap.size + 1 + 1, 0, none⟩) 1 1, .slice (some ⟨w.heap.size + 1 + 1 + 1 + 1 + 1 + 1, 0, none⟩) 1 1, .slice none 0 0, .slice none 0 0] 26)).alloc (.cells #[.string { data := #[97] }] 9)).alloc (.cells #[.slice (some ⟨w.heap.size + 1, 0, none⟩) 1 1, .int .u16 1, .int .u16 1] 64)).alloc (.cells #[.int .u16 1, .bool false, .int .i64 0, .bool false, .bool false, .bool true, .bool false, .bool false, .bool false, .int .i64 0, .slice (some ⟨w.heap.size + 1 + 1, 0, none⟩) 1 1, .slice (some ⟨w.heap.size + 1 + 1 + 1 + 1 + 1 + 1, 0, none⟩) 1 1, .slice none 0 0, .slice none 0 0] 26)).alloc (.cells #[.string { data := #[97] }] 9)).alloc (.cells #[.int .u8 1, .int .u8 2, .int .u8 3, .int .u8 4] 5)).alloc (.cells #[.slice (some ⟨w.heap.size + 1 + 1 + 1 + 1, 0, none⟩) 1 1, .int .u16 1, .int .u16 1, .int .u32 60, .slice none 0 0, .slice none 0 0, .slice none 0 0, .slice (some ⟨w.heap.size + 1 + 1 + 1 + 1 + 1, 0, none⟩) 4 4] 61)).heap[w.heap.size]? = some (.cells #[.int .u16 1, .bool false, .int .i64 0, .bool false, .bool false, .bool true, .bool false, .bool false, .bool false, .int .i64 0, .slice (some ⟨w.heap.size + 1 + 1, 0, none⟩) 1 1, .slice (some ⟨w.heap.size + 1 + 1 + 1 + 1 + 1 + 1, 0, none⟩) 1 1, .slice none 0 0, .slice none 0 0] 26)) := (g1.block _ (by rw [h6]; omega)).trans h2
  rw [h6] at g2 g3 g4
  have HM : Hid (OneAt w.heap.size (((((((w.alloc (.cells #[.int .u16 1, .bool false, .int .i64 0, .bool false, .bool false, .bool true, .bool false, .bool false, .bool false, .int .i64 0, .slice (some ⟨w.heap.size + 1 + 1, 0, none⟩) 1 1, .slice (some ⟨w.heap.size + 1 + 1 + 1 + 1 + 1 + 1, 0, none⟩) 1 1, .slice none 0 0, .slice none 0 0] 26)).alloc (.cells #[.string { data := #[97] }] 9)).alloc (.cells #[.slice (some ⟨w.heap.size + 1, 0, none⟩) 1 1, .int .u16 1, .int .u16 1] 64)).alloc (.cells #[.int .u16 1, .bool false, .int .i64 0, .bool false, .bool false, .bool true, .bool false, .bool false, .bool false, .int .i64 0, .slice (some ⟨w.heap.size + 1 + 1, 0, none⟩) 1 1, .slice (some ⟨w.heap.size + 1 + 1 + 1 + 1 + 1 + 1, 0, none⟩) 1 1, .slice none 0 0, .slice none 0 0] 26)).alloc (.cells #[.string { data := #[97] }] 9)).alloc (.cells #[.int .u8 1, .int .u8 2, .int .u8 3, .int .u8 4] 5)).alloc (.cells #[.slice (some ⟨w.heap.size + 1 + 1 + 1 + 1, 0, none⟩) 1 1, .int .u16 1, .int .u16 1, .int .u32 60, .slice none 0 0, .slice none 0 0, .slice none 0 0, .slice (some ⟨w.heap.size + 1 + 1 + 1 + 1 + 1, 0, none⟩) 4 4] 61)) ∧ Below w.heap.size w (((((((w.alloc (.cells #[.int .u16 1, .bool false, .int .i64 0, .bool false, .bool false, .bool true, .bool false, .bool false, .bool false, .int .i64 0, .slice (some ⟨w.heap.size + 1 + 1, 0, none⟩) 1 1, .slice (some ⟨w.heap.size + 1 + 1 + 1 + 1 + 1 + 1, 0, none⟩) 1 1, .slice none 0 0, .slice none 0 0] 26)).alloc (.cells #[.string { data := #[97] }] 9)).alloc (.cells #[.slice (some ⟨w.heap.size + 1, 0, none⟩) 1 1, .int .u16 1, .int .u16 1] 64)).alloc (.cells #[.int .u16 1, .bool false, .int .i64 0, .bool false, .bool false, .bool true, .bool false, .bool false, .bool false, .int .i64 0, .slice (some ⟨w.heap.size + 1 + 1, 0, none⟩) 1 1, .slice (some ⟨w.heap.size + 1 + 1 + 1 + 1 + 1 + 1, 0, none⟩) 1 1, .slice none 0 0, .slice none 0 0] 26)).alloc (.cells #[.string { data := #[97] }] 9)).alloc (.cells #[.int .u8 1, .int .u8 2, .int .u8 3, .int .u8 4] 5)).alloc (.cells #[.slice (some ⟨w.heap.size + 1 + 1 + 1 + 1, 0, none⟩) 1 1, .int .u16 1, .int .u16 1, .int .u32 60, .slice none 0 0, .slice none 0 0, .slice none 0 0, .slice (some ⟨w.heap.size + 1 + 1 + 1 + 1 + 1, 0, none⟩) 4 4] 61)) ∧ ((((((((w.alloc (.cells #[.int .u16 1, .bool false, .int .i64 0, .bool false, .bool false, .bool true, .bool false, .bool false, .bool false, .int .i64 0, .slice (some ⟨w.heap.size + 1 + 1, 0, none⟩) 1 1, .slice (some ⟨w.heap.size + 1 + 1 + 1 + 1 + 1 + 1, 0, none⟩) 1 1, .slice none 0 0, .slice none 0 0] 26)).alloc (.cells #[.string { data := #[97] }] 9)).alloc (.cells #[.slice (some ⟨w.heap.size + 1, 0, none⟩) 1 1, .int .u16 1, .int .u16 1] 64)).alloc (.cells #[.int .u16 1, .bool false, .int .i64 0, .bool false, .bool false, .bool true, .bool false, .bool false, .bool false, .int .i64 0, .slice (some ⟨w.heap.size + 1 + 1, 0, none⟩) 1 1, .slice (some ⟨w.heap.size + 1 + 1 + 1 + 1 + 1 + 1, 0, none⟩) 1 1, .slice none 0 0, .slice none 0 0] 26)).alloc (.cells #[.string { data := #[97] }] 9)).alloc (.cells #[.int .u8 1, .int .u8 2, .int .u8 3, .int .u8 4] 5)).alloc (.cells #[.slice (some ⟨w.heap.size + 1 + 1 + 1 + 1, 0, none⟩) 1 1, .int .u16 1, .int .u16 1, .int .u32 60, .slice none 0 0, .slice none 0 0, .slice none 0 0, .slice (some ⟨w.heap.size + 1 + 1 + 1 + 1 + 1, 0, none⟩) 4 4] 61))).heap.size = w.heap.size + 7) := by
    have f3 := (g1.block (w.heap.size + 1) (by rw [h6]; omega)).trans h3
    have f4 := (g1.block (w.heap.size + 1 + 1) (by rw [h6]; omega)).trans h4
    have hbel : Below w.heap.size w (((((((w.alloc (.cells #[.int .u16 1, .bool false, .int .i64 0, .bool false, .bool false, .bool true, .bool false, .bool false, .bool false, .int .i64 0, .slice (some ⟨w.heap.size + 1 + 1, 0, none⟩) 1 1, .slice (some ⟨w.heap.size + 1 + 1 + 1 + 1 + 1 + 1, 0, none⟩) 1 1, .slice none 0 0, .slice none 0 0] 26)).alloc (.cells #[.string { data := #[97] }] 9)).alloc (.cells #[.slice (some ⟨w.heap.size + 1, 0, none⟩) 1 1, .int .u16 1, .int .u16 1] 64)).alloc (.cells #[.int .u16 1, .bool false, .int .i64 0, .bool false, .bool false, .bool true, .bool false, .bool false, .bool false, .int .i64 0, .slice (some ⟨w.heap.size + 1 + 1, 0, none⟩) 1 1, .slice (some ⟨w.heap.size + 1 + 1 + 1 + 1 + 1 + 1, 0, none⟩) 1 1, .slice none 0 0, .slice none 0 0] 26)).alloc (.cells #[.string { data := #[97] }] 9)).alloc (.cells #[.int .u8 1, .int .u8 2, .int .u8 3, .int .u8 4] 5)).alloc (.cells #[.slice (some ⟨w.heap.size + 1 + 1 + 1 + 1, 0, none⟩) 1 1, .int .u16 1, .int .u16 1, .int .u32 60, .slice none 0 0, .slice none 0 0, .slice none 0 0, .slice (some ⟨w.heap.size + 1 + 1 + 1 + 1 + 1, 0, none⟩) 4 4] 61)) := h1.trans (g1.mono (by rw [h6]; omega))
    refine ⟨⟨f3, f4, g2, g3, g4⟩, hbel, ?_⟩
    rw [g5, h6]
  clear h1 h2 h3 h4 h5 h6 g1 g2 g3 g4 g5
  generalize (((((((w.alloc (.cells #[.int .u16 1, .bool false, .int .i64 0, .bool false, .bool false, .bool true, .bool false, .bool false, .bool false, .int .i64 0, .slice (some ⟨w.heap.size + 1 + 1, 0, none⟩) 1 1, .slice (some ⟨w.heap.size + 1 + 1 + 1 + 1 + 1 + 1, 0, none⟩) 1 1, .slice none 0 0, .slice none 0 0] 26)).alloc (.cells #[.string { data := #[97] }] 9)).alloc (.cells #[.slice (some ⟨w.heap.size + 1, 0, none⟩) 1 1, .int .u16 1, .int .u16 1] 64)).alloc (.cells #[.int .u16 1, .bool false, .int .i64 0, .bool false, .bool false, .bool true, .bool false, .bool false, .bool false, .int .i64 0, .slice (some ⟨w.heap.size + 1 + 1, 0, none⟩) 1 1, .slice (some ⟨w.heap.size + 1 + 1 + 1 + 1 + 1 + 1, 0, none⟩) 1 1, .slice none 0 0, .slice none 0 0] 26)).alloc (.cells #[.string { data := #[97] }] 9)).alloc (.cells #[.int .u8 1, .int .u8 2, .int .u8 3, .int .u8 4] 5)).alloc (.cells #[.slice (some ⟨w.heap.size + 1 + 1 + 1 + 1, 0, none⟩) 1 1, .int .u16 1, .int .u16 1, .int .u32 60, .slice none 0 0, .slice none 0 0, .slice none 0 0, .slice (some ⟨w.heap.size + 1 + 1 + 1 + 1 + 1, 0, none⟩) 4 4] 61)) = w9 at *
  have k0 := box_cell u1.out 0 _ rfl
  have k1 := box_cell u1.out 1 _ rfl
  have k2 := box_cell u1.out 2 _ rfl
  have k3 := box_cell u1.out 3 _ rfl
  have k4 := box_cell u1.out 4 _ rfl
  have k5 := box_cell u1.out 5 _ rfl
  have k6 := box_cell u1.out 6 _ rfl
  have k7 := box_cell u1.out 7 _ rfl
  have k8 := box_cell u1.out 8 _ rfl
  have k9 := box_cell u1.out 9 _ rfl
  have k10 := box_cell u1.out 10 _ rfl
  have k11 := box_cell u1.out 11 _ rfl
  have k12 := box_cell u1.out 12 _ rfl
  have k13 := box_cell u1.out 13 _ rfl
  exact bodyPost_ret (v := .agg #[.int .u16 1, .bool false, .int .i64 0, .bool false, .bool false, .bool true, .bool false, .bool false, .bool false, .int .i64 0, .slice (some ⟨w.heap.size + 1 + 1, 0, none⟩) 1 1, .slice (some ⟨w.heap.size + 1 + 1 + 1 + 1 + 1 + 1, 0, none⟩) 1 1, .slice none 0 0, .slice none 0 0]) (by simp [results, Tryz.results31, go_sem, k0, k1, k2, k3, k4, k5, k6, k7, k8, k9, k10, k11, k12, k13]) rfl ⟨rfl, HM.out⟩
theorem OneAt.keep {B n : Nat} {w w' : World} (h : OneAt B w) (hk : Below n w w') (hn : B + 7 ≤ n) : OneAt B w' :=
  ⟨(hk.block _ (by omega)).trans h.1, (hk.block _ (by omega)).trans h.2.1, (hk.block _ (by omega)).trans h.2.2.1, (hk.block _ (by omega)).trans h.2.2.2.1, (hk.block _ (by omega)).trans h.2.2.2.2⟩
end Go.Proofs.YteplffhfeoephaaGreat
namespace Go.Proofs.YteplffhfeoephaaGreat
open Go.ChangeShapes Go.WideShapes Go.ChangeAt Go.RowKit Go.Maps
set_option linter.unusedVariables false
set_option linter.unusedSimpArgs false
def xrO (B : Nat) : RA := ⟨⟨some ⟨B + 1 + 1 + 1 + 1, 0, none⟩, 1, 1⟩, ⟨⟨none, 0, 0⟩, ⟨none, 0, 0⟩, ⟨none, 0, 0⟩, ⟨some ⟨B + 1 + 1 + 1 + 1 + 1, 0, none⟩, 4, 4⟩⟩⟩
theorem xr_rd {w : World} {B t : Nat} (h1 : w.heap[B + 1 + 1 + 1 + 1]? = some (.cells #[.string { data := #[97] }] 9)) (h2 : w.heap[B + 1 + 1 + 1 + 1 + 1]? = some (.cells #[.int .u8 1, .int .u8 2, .int .u8 3, .int .u8 4] 5)) : RRd w (xrO B) ⟨[aNm], t, 1, 60, ⟨[], [], [], [1, 2, 3, 4]⟩⟩ :=
  ⟨txt_at h1 (by decide), ⟨⟨.inl rfl, rfl, ⟨Nat.le_refl _, by simp [xrO]⟩, fun _ => rfl⟩, ⟨.inl rfl, rfl, ⟨Nat.le_refl _, by simp [xrO]⟩, fun _ => rfl, fun x hx => (by cases hx)⟩, ⟨.inl rfl, rfl, ⟨Nat.le_refl _, by simp [xrO]⟩, fun _ => rfl, fun x hx => (by cases hx)⟩, raw_at (zs := [1, 2, 3, 4]) h2 rfl (by decide) (by decide)⟩⟩
theorem one_q {w : World} {B : Nat} (h1 : w.heap[B + 1]? = some (.cells #[.string { data := #[97] }] 9)) (h2 : w.heap[B + 1 + 1]? = some (.cells #[.slice (some ⟨B + 1, 0, none⟩) 1 1, .int .u16 1, .int .u16 1] 64)) : QsRd w (oneX B).q [⟨[aNm], 1, 1⟩] :=
  qn_at (s := ⟨some ⟨B + 1, 0, none⟩, 1, 1⟩) (t := 1) (cl := 1) h2 (txt_at h1 (by decide)) (by decide) (by decide)
/-- The message whose answer is of the type ANY. -/
theorem any_mrd {w w' : World} {B : Nat} (h : OneAt B w) (hw : w' = w.setCell ⟨B + 1 + 1 + 1 + 1 + 1 + 1, 1, none⟩ (.int .u16 255)) : MRd w' oneH (oneX B) anyM := by
  obtain ⟨h1, h2, h3, h4, h5⟩ := h
  have k : ∀ j, j ≠ B + 1 + 1 + 1 + 1 + 1 + 1 → w'.heap[j]? = w.heap[j]? := fun j hj => by rw [hw]; exact Below.heap_setCell _ _ _ _ hj
  have h6 : w'.heap[B + 1 + 1 + 1 + 1 + 1 + 1]? = some (.cells #[.slice (some ⟨B + 1 + 1 + 1 + 1, 0, none⟩) 1 1, .int .u16 255, .int .u16 1, .int .u32 60, .slice none 0 0, .slice none 0 0, .slice none 0 0, .slice (some ⟨B + 1 + 1 + 1 + 1 + 1, 0, none⟩) 4 4] 61) := by
    rw [hw]
    exact heap_set h5 1 _
  refine ⟨rfl, one_q ((k _ (by omega)).trans h1) ((k _ (by omega)).trans h2), ?_, lrd_nil _, lrd_nil _, ?_⟩
  · exact rec_at (x := xrO B) (r := anyR) h6 (xr_rd ((k _ (by omega)).trans h3) ((k _ (by omega)).trans h4))
  · refine ⟨by decide, fun q hq => ?_, fun r hr => ?_, fun r hr => (by cases hr), fun r hr => (by cases hr)⟩
    · rw [List.mem_singleton.1 hq]
      exact ⟨by decide, by decide⟩
    · rw [List.mem_singleton.1 (show r ∈ [anyR] from hr)]
      exact ⟨by decide, by decide, by decide⟩
theorem fin_any : Fin anyM := by
  refine ⟨?_, ?_, ?_, ?_, by decide⟩
  · intro k r hr
    unfold nthL at hr
    split at hr
    · rw [List.mem_singleton.1 (show r ∈ [anyR] from hr)]
      exact (fin_one true).d 0 oneR (by simp [nthL, oneM])
    · split at hr <;> cases hr
  · intro q hq
    rw [List.mem_singleton.1 hq]
    decide
  · intro k r hr
    unfold nthL at hr
    split at hr
    · rw [List.mem_singleton.1 (show r ∈ [anyR] from hr)]
      decide
    · split at hr <;> cases hr
  · decide
theorem fin_many : Fin manyM := by
  have hm : ∀ r ∈ manyM.l1, r = oneR := fun r hr => (List.mem_replicate.1 hr).2
  refine ⟨?_, ?_, ?_, ?_, by decide⟩
  · intro k r hr
    unfold nthL at hr
    split at hr
    · rw [hm r hr]
      exact (fin_one true).d 0 oneR (by simp [nthL, oneM])
    · split at hr <;> cases hr
  · intro q hq
    rw [List.mem_singleton.1 hq]
    decide
  · intro k r hr
    unfold nthL at hr
    split at hr
    · rw [hm r hr]
      decide
    · split at hr <;> cases hr
  · decide +kernel
/-- The message that grows. -/
structure ManyAt (B p : Nat) (w : World) (n : Nat) (v : Value) : Prop where
  q1 : w.heap[B + 1]? = some (.cells #[.string { data := #[97] }] 9)
  q2 : w.heap[B + 1 + 1]? = some (.cells #[.slice (some ⟨B + 1, 0, none⟩) 1 1, .int .u16 1, .int .u16 1] 64)
  n2 : w.heap[B + 1 + 1 + 1 + 1]? = some (.cells #[.string { data := #[97] }] 9)
  raw : w.heap[B + 1 + 1 + 1 + 1 + 1]? = some (.cells #[.int .u8 1, .int .u8 2, .int .u8 3, .int .u8 4] 5)
  row : w.ownsRow (B + 6) 61 8 v n (cellsR (List.replicate n (xrO B, oneR)))
  box : w.heap[p]? = some (.cells #[.int .u16 oneH.id, .bool oneH.rs, .int .i64 oneH.op, .bool oneH.aa, .bool oneH.tc, .bool oneH.rd, .bool oneH.ra, .bool oneH.ad, .bool oneH.cd, .int .i64 oneH.rc, .slice (some ⟨B + 1 + 1, 0, none⟩) 1 1, v, .slice none 0 0, .slice none 0 0] 26)
  lo : B + 7 ≤ p
theorem ManyAt.own {B p n : Nat} {w : World} {v : Value} (h : ManyAt B p w n v) : v.ownBlock ≠ some p := by
  intro e
  obtain ⟨cc, fz, hk⟩ := Lib.ownsRow_kind h.row p e
  rw [h.box] at hk
  injection hk with hk
  injection hk with _ hk
  exact absurd hk (by decide)
theorem ManyAt.push {B p n : Nat} {w W6 W7 : World} {v v' : Value} (h : ManyAt B p w n v) (hb : Below w.heap.size w W6) (hg : W6.grownBy W7 v.ownBlock) (h5 : W7.ownsRow (B + 6) 61 8 v' (n + 1) (cellsR (List.replicate n (xrO B, oneR)) ++ cellsR [(xrO B, oneR)])) (h7 : v'.ownBlock = v.ownBlock ∨ v'.ownBlock = some W6.heap.size) : ManyAt B p (W7.setCell ⟨p, 11, none⟩ v') (n + 1) v' := by
  have hlt := h.row.lt
  have hp := box_lt h.box
  have hs := hb.size
  have k : ∀ j, j < w.heap.size → some j ≠ v.ownBlock → j ≠ p → (W7.setCell ⟨p, 11, none⟩ v').heap[j]? = w.heap[j]? := fun j h1 h2 h3 => by
    rw [Below.heap_setCell _ _ _ _ h3, hg.block j (by omega) h2, hb.block j h1]
  have hl := h.lo
  have nb : ∀ j, j < B + 6 → some j ≠ v.ownBlock := fun j hj e => by have := (hlt j e.symm).1; omega
  refine ⟨(k _ (by omega) (nb _ (by omega)) (by omega)).trans h.q1, (k _ (by omega) (nb _ (by omega)) (by omega)).trans h.q2, (k _ (by omega) (nb _ (by omega)) (by omega)).trans h.n2, (k _ (by omega) (nb _ (by omega)) (by omega)).trans h.raw, ?_, ?_, hl⟩
  · have e : List.replicate (n + 1) (xrO B, oneR) = List.replicate n (xrO B, oneR) ++ [(xrO B, oneR)] := by rw [List.replicate_succ']
    rw [e, cellsR_app]
    refine h5.kept (row := some p) ⟨rfl, rfl, rfl, by simp [World.setCell], fun k _ hk => Below.heap_setCell _ _ _ _ (fun e => hk (by simp [e]))⟩ (.inr ?_)
    rcases h7 with h7 | h7
    · rw [h7]; exact h.own
    · rw [h7]; intro e; injection e with e; omega
  · have hb7 : W7.heap[p]? = _ := (hg.block p (by omega) (fun e => h.own e.symm)).trans ((hb.block p hp).trans h.box)
    exact heap_set hb7 11 v'
theorem ManyAt.rd {B p n : Nat} {w : World} {v : Value} (h : ManyAt B p w n v) : ∃ s : Sl, v = .slice s.a s.n s.c ∧ MRd w oneH ⟨⟨some ⟨B + 1 + 1, 0, none⟩, 1, 1⟩, s, ⟨none, 0, 0⟩, ⟨none, 0, 0⟩⟩ ⟨oneH, [⟨[aNm], 1, 1⟩], List.replicate n oneR, [], []⟩ := by
  have hlt := h.row.lt
  have how : OwR B w v (List.replicate n oneR) := by
    refine ⟨List.replicate n (xrO B, oneR), by simp, ?_, fun q hq w' hs hb => ?_⟩
    · have := ownsRow_low h.row (B' := B) (by omega)
      rw [List.length_replicate]
      exact this
    · rw [(List.mem_replicate.1 hq).2]
      have k : ∀ j, B ≤ j → j < B + 6 → j < w.heap.size → w'.heap[j]? = w.heap[j]? := fun j e1 e2 e3 => hb j e3 e1 (fun e => by have := (hlt j e.symm).1; omega)
      exact xr_rd (t := 1) ((k _ (by omega) (by omega) (box_lt h.n2)).trans h.n2) ((k _ (by omega) (by omega) (box_lt h.raw)).trans h.raw)
  have hm : MRd w oneH ⟨⟨some ⟨B + 1 + 1, 0, none⟩, 1, 1⟩, ⟨none, 0, 0⟩, ⟨none, 0, 0⟩, ⟨none, 0, 0⟩⟩ ⟨oneH, [⟨[aNm], 1, 1⟩], [], [], []⟩ := ⟨rfl, one_q h.q1 h.q2, lrd_nil _, lrd_nil _, lrd_nil _, by decide, fun q hq => by rw [List.mem_singleton.1 hq]; exact ⟨by decide, by decide⟩, fun r hr => (by cases hr), fun r hr => (by cases hr), fun r hr => (by cases hr)⟩
  obtain ⟨a, c, rfl, _⟩ := how.rd
  refine ⟨⟨a, (List.replicate n oneR).length, c⟩, rfl, hm.h, hm.q, how.lrd (s := ⟨a, (List.replicate n oneR).length, c⟩), lrd_nil _, lrd_nil _, hm.b.1, hm.b.2.1, fun r hr => ?_, fun r hr => (by cases hr), fun r hr => (by cases hr)⟩
  rw [(List.mem_replicate.1 hr).2]
  exact ⟨by decide, by decide, by decide⟩
theorem ManyAt.start {B : Nat} {w : World} (h : OneAt B w) (hs : w.heap.size = B + 7) : ManyAt B (B + 7) (w.alloc (.cells #[.int .u16 oneH.id, .bool oneH.rs, .int .i64 oneH.op, .bool oneH.aa, .bool oneH.tc, .bool oneH.rd, .bool oneH.ra, .bool oneH.ad, .bool oneH.cd, .int .i64 oneH.rc, .slice (some ⟨B + 1 + 1, 0, none⟩) 1 1, .slice (some ⟨B + 1 + 1 + 1 + 1 + 1 + 1, 0, none⟩) 1 1, .slice none 0 0, .slice none 0 0] 26)) 1 (.slice (some ⟨B + 1 + 1 + 1 + 1 + 1 + 1, 0, none⟩) 1 1) := by
  obtain ⟨h1, h2, h3, h4, h5⟩ := h
  have nb := newq_below w (.cells #[.int .u16 oneH.id, .bool oneH.rs, .int .i64 oneH.op, .bool oneH.aa, .bool oneH.tc, .bool oneH.rd, .bool oneH.ra, .bool oneH.ad, .bool oneH.cd, .int .i64 oneH.rc, .slice (some ⟨B + 1 + 1, 0, none⟩) 1 1, .slice (some ⟨B + 1 + 1 + 1 + 1 + 1 + 1, 0, none⟩) 1 1, .slice none 0 0, .slice none 0 0] 26)
  have nw := heap_alloc_new w (.cells #[.int .u16 oneH.id, .bool oneH.rs, .int .i64 oneH.op, .bool oneH.aa, .bool oneH.tc, .bool oneH.rd, .bool oneH.ra, .bool oneH.ad, .bool oneH.cd, .int .i64 oneH.rc, .slice (some ⟨B + 1 + 1, 0, none⟩) 1 1, .slice (some ⟨B + 1 + 1 + 1 + 1 + 1 + 1, 0, none⟩) 1 1, .slice none 0 0, .slice none 0 0] 26)
  rw [hs] at nw
  refine ⟨(nb.block _ (by omega)).trans h1, (nb.block _ (by omega)).trans h2, (nb.block _ (by omega)).trans h3, (nb.block _ (by omega)).trans h4, ⟨rfl, .inr ⟨_, 1, _, rfl, by omega, (nb.block _ (by omega)).trans h5, by omega, by simp [maxLen], rfl, rfl⟩⟩, nw, Nat.le_refl _⟩
end Go.Proofs.YteplffhfeoephaaGreat
namespace Go.Proofs.YteplffhfeoephaaGreat
open Go.ChangeShapes Go.WideShapes Go.ChangeAt Go.RowKit Go.Maps
set_option linter.unusedVariables false
set_option linter.unusedSimpArgs false
theorem BRd.adr {w : World} {s : Sl} {zs : List Int} (h : BRd w s zs) (h0 : zs ≠ []) : ∃ b o, s.a = some ⟨b, o, none⟩ ∧ b < w.heap.size := by
  rcases h.rd.1 with e | ⟨b, o, e1, e2, _⟩
  · exact absurd e h0
  · exact ⟨b, o, e1, e2⟩
theorem BRd.short {w : World} {b o c : Nat} (h : BRd w ⟨some ⟨b, o, none⟩, 19, c⟩ askB) : BRd w ⟨some ⟨b, o, none⟩, 18, c⟩ cutB := by
  refine ⟨?_, rfl, ⟨by have := h.cap.1; simp only at this ⊢; omega, h.cap.2⟩, by simp⟩
  have := h.rd.cut 0 18 (by decide) (a' := some ⟨b, o, none⟩) (fun _ b' o' e => by cases e; rfl)
  exact this
theorem ownK_brd {B : Nat} {w : World} {v : Value} {n : Nat} {ys zs : List Int} (h : Own B w v n ys) (e : ys.take n = zs) : ∃ x : Sl, v = .slice x.a n x.c ∧ x.n = n ∧ BRd w x zs := by
  subst e
  rcases h with ⟨rfl, e2, e3⟩ | ⟨q, rfl, e2, e3, e4, e5⟩
  · subst e2; subst e3
    exact ⟨⟨none, 0, 0⟩, rfl, rfl, ⟨.inl rfl, fun z hz => (by cases hz)⟩, rfl, ⟨Nat.le_refl _, by simp⟩, fun _ => rfl⟩
  · refine ⟨⟨some ⟨q, 0, none⟩, n, ys.length⟩, rfl, rfl, ⟨.inr ⟨q, 0, rfl, e3.lt, fun i hi => ?_⟩, fun z hz => e3.2 z (List.mem_of_mem_take hz)⟩, by simp; omega, ⟨e4, by simpa only [maxLen] using e5⟩, by simp⟩
    have hi' : i < n := by simp at hi; omega
    have := e3.cell i (by omega)
    rw [Nat.zero_add, this]
    congr 2
    rw [List.getD_eq_getElem?_getD, List.getD_eq_getElem?_getD, List.getElem?_take_of_lt hi']
theorem ManyAt.first {B p n : Nat} {w : World} {v : Value} (h : ManyAt B p w n v) (hn : 1 ≤ n) : ∃ g cap, v = .slice (some ⟨g, 0, none⟩) n cap ∧ g < w.heap.size ∧ ∀ j u, (recCells (xrO B) oneR)[j]? = some u → w.cell? ⟨g, j, none⟩ = some u := by
  rcases h.row.2 with ⟨_, h0⟩ | ⟨g, cap, cur, rfl, hb, hg, k1, k2, k3, k4⟩
  · omega
  · refine ⟨g, cap, rfl, (Array.getElem?_eq_some_iff.1 hg).1, fun j u hu => ?_⟩
    have hj : j < 8 := by
      have := (List.getElem?_eq_some_iff.1 hu).1
      simpa [recCells] using this
    have e1 := cellsR_at (List.replicate n (xrO B, oneR)) 0 (by simp; omega) j hj
    rw [List.getElem_replicate, Nat.zero_mul, Nat.zero_add] at e1
    have := h.row.cells (g := g) rfl j u (e1.trans hu)
    have ad : (⟨g, 0, none⟩ : Addr).add j = ⟨g, j, none⟩ := by unfold Addr.add; split <;> simp_all
    rw [ad] at this
    exact this
def slK : Option Value → Nat
  | some (.slice _ n _) => n
  | _ => 0
set_option maxRecDepth 100000 in
set_option maxHeartbeats 8000000 in
theorem knownL (w : World) : Calls Tryz.prog 8 #[] w fun e w' => e = .returned (.bool true) ∧ Hid (Below w.heap.size w w') := by
  obtain ⟨i61, hi, hz0, hz1, hz2⟩ := inf61
  have HI : Hid (Tryz.prog.info? 61 = some i61 ∧ i61.zero = some (.agg #[.slice none 0 0, .int .u16 0, .int .u16 0, .int .u32 0, .slice none 0 0, .slice none 0 0, .slice none 0 0, .slice none 0 0]) ∧ i61.size = 8 ∧ i61.bytes = 128) := ⟨hi, hz0, hz1, hz2⟩
  clear hi hz0 hz1 hz2
  go_enter Tryz.func8, Tryz.ntmps8
  go_wp2_with fail
  refine (one_no w).mono ?_
  rintro e w1 ⟨x1, rfl, H1⟩
  have K11 := Lib.hid (ask_bytes x1 w1 H1.out.1)
  go_wp2_with fail
  refine K11.out.mono ?_
  rintro e w2 ⟨⟨sa, sn, sc⟩, rfl, H2⟩
  have hsn : sn = 19 := H2.out.1.len.symm
  subst hsn
  obtain ⟨sb, so, hsa, hsl⟩ := H2.out.1.adr (by decide)
  simp only at hsa
  subst hsa
  have hsc : 19 ≤ sc := H2.out.1.cap.1
  have hsc2 : sc ≤ 9223372036854775807 := H2.out.1.cap.2
  have HBS : Hid (BRd w2 ⟨some ⟨sb, so, none⟩, 19, sc⟩ askB) := H2.out.1
  have HA2 : Hid (Below w.heap.size w w2) := H1.out.2.trans (H2.out.2.mono H1.out.2.size)
  clear H1 H2 K11
  have K24 := Lib.hid (mread_some ⟨some ⟨sb, so, none⟩, 19, sc⟩ askB w2 HBS.out (show (1 : Nat) ≤ 19 by decide) (show (19 : Nat) ≤ 140737488355328 by decide) (oneM false) ask_rd)
  rw [show (oneM false).h = oneH from rfl] at K24
  go_wp2_with fail
  refine K24.out.mono ?_
  rintro e w3 ⟨x3, rfl, H3⟩
  have nb3 := newq_below w3 (.cells #[.int .u16 oneH.id, .bool oneH.rs, .int .i64 oneH.op, .bool oneH.aa, .bool oneH.tc, .bool oneH.rd, .bool oneH.ra, .bool oneH.ad, .bool oneH.cd, .int .i64 oneH.rc, .slice x3.q.a x3.q.n x3.q.c, .slice x3.l1.a x3.l1.n x3.l1.c, .slice x3.l2.a x3.l2.n x3.l2.c, .slice x3.l3.a x3.l3.n x3.l3.c] 26)
  have nx3 : (w3.alloc (.cells #[.int .u16 oneH.id, .bool oneH.rs, .int .i64 oneH.op, .bool oneH.aa, .bool oneH.tc, .bool oneH.rd, .bool oneH.ra, .bool oneH.ad, .bool oneH.cd, .int .i64 oneH.rc, .slice x3.q.a x3.q.n x3.q.c, .slice x3.l1.a x3.l1.n x3.l1.c, .slice x3.l2.a x3.l2.n x3.l2.c, .slice x3.l3.a x3.l3.n x3.l3.c] 26)).heap[w3.heap.size]? = some (.cells #[.int .u16 oneH.id, .bool oneH.rs, .int .i64 oneH.op, .bool oneH.aa, .bool oneH.tc, .bool oneH.rd, .bool oneH.ra, .bool oneH.ad, .bool oneH.cd, .int .i64 oneH.rc, .slice x3.q.a x3.q.n x3.q.c, .slice x3.l1.a x3.l1.n x3.l1.c, .slice x3.l2.a x3.l2.n x3.l2.c, .slice x3.l3.a x3.l3.n x3.l3.c] 26) := heap_alloc_new _ _
  have HM3 : Hid (MRd (w3.alloc (.cells #[.int .u16 oneH.id, .bool oneH.rs, .int .i64 oneH.op, .bool oneH.aa, .bool oneH.tc, .bool oneH.rd, .bool oneH.ra, .bool oneH.ad, .bool oneH.cd, .int .i64 oneH.rc, .slice x3.q.a x3.q.n x3.q.c, .slice x3.l1.a x3.l1.n x3.l1.c, .slice x3.l2.a x3.l2.n x3.l2.c, .slice x3.l3.a x3.l3.n x3.l3.c] 26)) oneH x3 (oneM false)) := H3.out.2.1.below nb3
  have HX3 : Hid ((w3.alloc (.cells #[.int .u16 oneH.id, .bool oneH.rs, .int .i64 oneH.op, .bool oneH.aa, .bool oneH.tc, .bool oneH.rd, .bool oneH.ra, .bool oneH.ad, .bool oneH.cd, .int .i64 oneH.rc, .slice x3.q.a x3.q.n x3.q.c, .slice x3.l1.a x3.l1.n x3.l1.c, .slice x3.l2.a x3.l2.n x3.l2.c, .slice x3.l3.a x3.l3.n x3.l3.c] 26)).heap[w3.heap.size]? = some (.cells #[.int .u16 oneH.id, .bool oneH.rs, .int .i64 oneH.op, .bool oneH.aa, .bool oneH.tc, .bool oneH.rd, .bool oneH.ra, .bool oneH.ad, .bool oneH.cd, .int .i64 oneH.rc, .slice x3.q.a x3.q.n x3.q.c, .slice x3.l1.a x3.l1.n x3.l1.c, .slice x3.l2.a x3.l2.n x3.l2.c, .slice x3.l3.a x3.l3.n x3.l3.c] 26)) := nx3
  have HS4 : Hid (BRd (w3.alloc (.cells #[.int .u16 oneH.id, .bool oneH.rs, .int .i64 oneH.op, .bool oneH.aa, .bool oneH.tc, .bool oneH.rd, .bool oneH.ra, .bool oneH.ad, .bool oneH.cd, .int .i64 oneH.rc, .slice x3.q.a x3.q.n x3.q.c, .slice x3.l1.a x3.l1.n x3.l1.c, .slice x3.l2.a x3.l2.n x3.l2.c, .slice x3.l3.a x3.l3.n x3.l3.c] 26)) ⟨some ⟨sb, so, none⟩, 19, sc⟩ askB) := (HBS.out.below H3.out.2.2).below nb3
  have HA4 : Hid (Below w.heap.size w (w3.alloc (.cells #[.int .u16 oneH.id, .bool oneH.rs, .int .i64 oneH.op, .bool oneH.aa, .bool oneH.tc, .bool oneH.rd, .bool oneH.ra, .bool oneH.ad, .bool oneH.cd, .int .i64 oneH.rc, .slice x3.q.a x3.q.n x3.q.c, .slice x3.l1.a x3.l1.n x3.l1.c, .slice x3.l2.a x3.l2.n x3.l2.c, .slice x3.l3.a x3.l3.n x3.l3.c] 26))) := (HA2.out.trans (H3.out.2.2.mono HA2.out.size)).trans (nb3.mono (Nat.le_trans HA2.out.size H3.out.2.2.size))
  clear H3 K24 nb3 nx3 HBS HA2 hsl
  go_upto_region 5 with fail
  generalize w3.alloc (.cells #[.int .u16 oneH.id, .bool oneH.rs, .int .i64 oneH.op, .bool oneH.aa, .bool oneH.tc, .bool oneH.rd, .bool oneH.ra, .bool oneH.ad, .bool oneH.cd, .int .i64 oneH.rc, .slice x3.q.a x3.q.n x3.q.c, .slice x3.l1.a x3.l1.n x3.l1.c, .slice x3.l2.a x3.l2.n x3.l2.c, .slice x3.l3.a x3.l3.n x3.l3.c] 26) = w4 at *
  obtain ⟨p3, hp3⟩ : ∃ p, p = w3.heap.size := ⟨_, rfl⟩
  rw [← hp3] at HX3
  simp only [← hp3]
  clear hp3
  have K5 := Lib.hid (mread_none ⟨some ⟨sb, so, none⟩, 18, sc⟩ cutB w4 HS4.out.short (show (1 : Nat) ≤ 18 by decide) (show (18 : Nat) ≤ 140737488355328 by decide) cut_no)
  simp only [zeroM] at K5
  go_wp2_with fail
  refine K5.out.mono ?_
  rintro e w50 ⟨rfl, Hw5⟩
  have HNw5 : Hid (Below w4.heap.size w4 (w50.alloc (.cells #[.int .u16 0, .bool false, .int .i64 0, .bool false, .bool false, .bool false, .bool false, .bool false, .bool false, .int .i64 0, .slice none 0 0, .slice none 0 0, .slice none 0 0, .slice none 0 0] 26))) := Hw5.out.trans ((newq_below _ _).mono Hw5.out.size)
  clear Hw5
  have HC : Hid (Calls Tryz.prog 29 #[.slice (some ⟨sb, so, none⟩) 19 sc] (w50.alloc (.cells #[.int .u16 0, .bool false, .int .i64 0, .bool false, .bool false, .bool false, .bool false, .bool false, .bool false, .int .i64 0, .slice none 0 0, .slice none 0 0, .slice none 0 0, .slice none 0 0] 26)) fun e w' => ∃ v ys, e = .returned v ∧ Hid (Own (w50.alloc (.cells #[.int .u16 0, .bool false, .int .i64 0, .bool false, .bool false, .bool false, .bool false, .bool false, .bool false, .int .i64 0, .slice none 0 0, .slice none 0 0, .slice none 0 0, .slice none 0 0] 26)).heap.size w' v 19 ys ∧ ys.take 19 = askB ∧ Below (w50.alloc (.cells #[.int .u16 0, .bool false, .int .i64 0, .bool false, .bool false, .bool false, .bool false, .bool false, .bool false, .int .i64 0, .slice none 0 0, .slice none 0 0, .slice none 0 0, .slice none 0 0] 26)).heap.size (w50.alloc (.cells #[.int .u16 0, .bool false, .int .i64 0, .bool false, .bool false, .bool false, .bool false, .bool false, .bool false, .int .i64 0, .slice none 0 0, .slice none 0 0, .slice none 0 0, .slice none 0 0] 26)) w')) := (copy_any (some ⟨sb, so, none⟩) sc askB _ (HS4.out.below HNw5.out).rd (by simp) (by decide)).mono fun e w' ⟨v, ys, h1, h2, h3, h4⟩ => ⟨v, ys, h1, h2, h3, h4⟩
  clear K5
  go_upto_region 6 with fail
  generalize w50.alloc (.cells #[.int .u16 0, .bool false, .int .i64 0, .bool false, .bool false, .bool false, .bool false, .bool false, .bool false, .int .i64 0, .slice none 0 0, .slice none 0 0, .slice none 0 0, .slice none 0 0] 26) = w5 at *
  go_wp2_with fail
  refine HC.out.mono ?_
  rintro e w6 ⟨v6, ys6, rfl, H6⟩
  clear HC
  have HOW6 : Hid (Own w5.heap.size (w6.alloc (.cells #[.int .u8 0] 5)) v6 19 ys6) := H6.out.1.below (newq_below _ _)
  have HRD6 : Hid (Rd (w6.alloc (.cells #[.int .u8 0] 5)) (some ⟨w6.heap.size, 0, none⟩) [0]) := (raw_at (zs := [0]) (n := 1) (heap_alloc_new w6 (.cells #[.int .u8 0] 5)) rfl (by decide) (by decide)).rd
  have HSZ6 : Hid (w5.heap.size ≤ (w6.alloc (.cells #[.int .u8 0] 5)).heap.size) := (show _ ≤ _ by rw [World.size_alloc]; have := H6.out.2.2.size; omega)
  have HA5 : Hid (Below w4.heap.size w4 w5) := HNw5.out
  go_wp2_with (at_builtin; refine wpList_append_fitB _ rfl _ _ rfl w5.heap.size v6 19 ys6 rfl HOW6.out (some ⟨w6.heap.size, 0, none⟩) 1 1 [0] rfl HRD6.out rfl (by decide) HSZ6.out ?_; intro v7 w7 ys7 h1 h2 h3 h4; have HB7 : Hid (Below w5.heap.size w5 w7) := (H6.out.2.2.trans ((newq_below w6 _).mono H6.out.2.2.size)).grown h3 HSZ6.out (fun g e => HOW6.out.lt g e); clear h3 h4)
  obtain ⟨⟨a7, n7, c7⟩, hv7, hn7, hb7⟩ := ownK_brd h1.out (h2.out.trans (by rw [H6.out.2.1]))
  simp only at hn7 hv7
  subst hv7
  subst hn7
  have K7 := Lib.hid (mread_none ⟨a7, 19 + 1, c7⟩ (askB ++ [0]) w7 hb7 (show (1 : Nat) ≤ 20 by decide) (show (20 : Nat) ≤ 140737488355328 by decide) more_no)
  simp only [zeroM] at K7
  have HA7 : Hid (Below w4.heap.size w4 w7) := HA5.out.trans (HB7.out.mono HA5.out.size)
  clear h1 h2 hb7 HOW6 HRD6 HSZ6 HA5 HB7 H6 HNw5
  go_wp2_with fail
  refine K7.out.mono ?_
  rintro e w80 ⟨rfl, H8⟩
  have HA8 : Hid (Below w4.heap.size w4 (w80.alloc (.cells #[.int .u16 0, .bool false, .int .i64 0, .bool false, .bool false, .bool false, .bool false, .bool false, .bool false, .int .i64 0, .slice none 0 0, .slice none 0 0, .slice none 0 0, .slice none 0 0] 26))) := (HA7.out.trans (H8.out.mono HA7.out.size)).trans ((newq_below _ _).mono (Nat.le_trans HA7.out.size H8.out.size))
  clear H8 K7 HA7
  go_upto_region 7 with fail
  generalize w80.alloc (.cells #[.int .u16 0, .bool false, .int .i64 0, .bool false, .bool false, .bool false, .bool false, .bool false, .bool false, .int .i64 0, .slice none 0 0, .slice none 0 0, .slice none 0 0, .slice none 0 0] 26) = w8 at *
  obtain ⟨B1, hB1⟩ : ∃ B, B = w8.heap.size := ⟨_, rfl⟩
  have K1 := Lib.hid (one_at w8)
  rw [← hB1] at K1
  simp only [oneX] at K1
  have HS8 : Hid (w4.heap.size ≤ B1) := (show _ ≤ _ by rw [hB1]; exact HA8.out.size)
  have HSB : Hid (B1 = w8.heap.size) := hB1
  clear hB1
  go_wp2_with fail
  refine K1.out.mono ?_
  rintro e w9 ⟨rfl, H9⟩
  clear K1
  have nb9 := newq_below w9 (.cells #[.int .u16 oneH.id, .bool oneH.rs, .int .i64 oneH.op, .bool oneH.aa, .bool oneH.tc, .bool oneH.rd, .bool oneH.ra, .bool oneH.ad, .bool oneH.cd, .int .i64 oneH.rc, .slice (some ⟨B1 + 1 + 1, 0, none⟩) 1 1, .slice (some ⟨B1 + 1 + 1 + 1 + 1 + 1 + 1, 0, none⟩) 1 1, .slice none 0 0, .slice none 0 0] 26)
  have HO10 : Hid (OneAt B1 (w9.alloc (.cells #[.int .u16 oneH.id, .bool oneH.rs, .int .i64 oneH.op, .bool oneH.aa, .bool oneH.tc, .bool oneH.rd, .bool oneH.ra, .bool oneH.ad, .bool oneH.cd, .int .i64 oneH.rc, .slice (some ⟨B1 + 1 + 1, 0, none⟩) 1 1, .slice (some ⟨B1 + 1 + 1 + 1 + 1 + 1 + 1, 0, none⟩) 1 1, .slice none 0 0, .slice none 0 0] 26))) := H9.out.1.keep nb9 (Nat.le_of_eq H9.out.2.2.symm)
  have hx9 : (w9.alloc (.cells #[.int .u16 oneH.id, .bool oneH.rs, .int .i64 oneH.op, .bool oneH.aa, .bool oneH.tc, .bool oneH.rd, .bool oneH.ra, .bool oneH.ad, .bool oneH.cd, .int .i64 oneH.rc, .slice (some ⟨B1 + 1 + 1, 0, none⟩) 1 1, .slice (some ⟨B1 + 1 + 1 + 1 + 1 + 1 + 1, 0, none⟩) 1 1, .slice none 0 0, .slice none 0 0] 26)).heap[B1 + 7]? = some (.cells #[.int .u16 oneH.id, .bool oneH.rs, .int .i64 oneH.op, .bool oneH.aa, .bool oneH.tc, .bool oneH.rd, .bool oneH.ra, .bool oneH.ad, .bool oneH.cd, .int .i64 oneH.rc, .slice (some ⟨B1 + 1 + 1, 0, none⟩) 1 1, .slice (some ⟨B1 + 1 + 1 + 1 + 1 + 1 + 1, 0, none⟩) 1 1, .slice none 0 0, .slice none 0 0] 26) := (show _ = _ by rw [← H9.out.2.2]; exact heap_alloc_new _ _)
  have HX9 := Lib.hid hx9
  have HA10 : Hid (Below w4.heap.size w4 (w9.alloc (.cells #[.int .u16 oneH.id, .bool oneH.rs, .int .i64 oneH.op, .bool oneH.aa, .bool oneH.tc, .bool oneH.rd, .bool oneH.ra, .bool oneH.ad, .bool oneH.cd, .int .i64 oneH.rc, .slice (some ⟨B1 + 1 + 1, 0, none⟩) 1 1, .slice (some ⟨B1 + 1 + 1 + 1 + 1 + 1 + 1, 0, none⟩) 1 1, .slice none 0 0, .slice none 0 0] 26))) := (HA8.out.trans ((show Below w8.heap.size w8 w9 by rw [← HSB.out]; exact H9.out.2.1).mono HA8.out.size)).trans (nb9.mono (Nat.le_trans HA8.out.size (by rw [← HSB.out]; have := H9.out.2.2; omega)))
  have hp9 : w9.heap.size = B1 + 7 := H9.out.2.2
  clear H9 nb9 hx9 HA8 HSB
  go_upto_region 8 with fail
  try simp only [hp9]
  clear hp9
  generalize w9.alloc (.cells #[.int .u16 oneH.id, .bool oneH.rs, .int .i64 oneH.op, .bool oneH.aa, .bool oneH.tc, .bool oneH.rd, .bool oneH.ra, .bool oneH.ad, .bool oneH.cd, .int .i64 oneH.rc, .slice (some ⟨B1 + 1 + 1, 0, none⟩) 1 1, .slice (some ⟨B1 + 1 + 1 + 1 + 1 + 1 + 1, 0, none⟩) 1 1, .slice none 0 0, .slice none 0 0] 26) = w10 at *
  have c11 := box_cell HX9.out 11 _ rfl
  have lp9 := box_lt HX9.out
  have d1 := box_cell HO10.out.2.2.2.2 1 _ rfl
  have f1 := box_frozen HO10.out.2.2.2.2 1
  have l6 := box_lt HO10.out.2.2.2.2
  go_wp2_with fail
  have HM9 : Hid (MRd (w10.setCell ⟨B1 + 1 + 1 + 1 + 1 + 1 + 1, 1, none⟩ (.int .u16 255)) oneH (oneX B1) anyM) := any_mrd HO10.out rfl
  have HX9b : Hid ((w10.setCell ⟨B1 + 1 + 1 + 1 + 1 + 1 + 1, 1, none⟩ (.int .u16 255)).heap[B1 + 7]? = some (.cells #[.int .u16 oneH.id, .bool oneH.rs, .int .i64 oneH.op, .bool oneH.aa, .bool oneH.tc, .bool oneH.rd, .bool oneH.ra, .bool oneH.ad, .bool oneH.cd, .int .i64 oneH.rc, .slice (some ⟨B1 + 1 + 1, 0, none⟩) 1 1, .slice (some ⟨B1 + 1 + 1 + 1 + 1 + 1 + 1, 0, none⟩) 1 1, .slice none 0 0, .slice none 0 0] 26)) := (show _ = _ by rw [Below.heap_setCell _ _ _ _ (by simp)]; exact HX9.out)
  have HA11 : Hid (Below w4.heap.size w4 (w10.setCell ⟨B1 + 1 + 1 + 1 + 1 + 1 + 1, 1, none⟩ (.int .u16 255))) := HA10.out.setCell (p := ⟨B1 + 1 + 1 + 1 + 1 + 1 + 1, 1, none⟩) (by have := HS8.out; simp only; omega) _
  clear c11 lp9 d1 f1 l6 HX9 HO10 HA10
  generalize w10.setCell ⟨B1 + 1 + 1 + 1 + 1 + 1 + 1, 1, none⟩ (.int .u16 255) = w11 at *
  obtain ⟨B2, hB2⟩ : ∃ B, B = w11.heap.size := ⟨_, rfl⟩
  have K2 := Lib.hid (one_at w11)
  rw [← hB2] at K2
  simp only [oneX] at K2
  have HSB2 : Hid (B2 = w11.heap.size) := hB2
  clear hB2
  refine K2.out.mono ?_
  rintro e w12 ⟨rfl, H12⟩
  clear K2
  have HMA0 : Hid (ManyAt B2 (B2 + 7) (w12.alloc (.cells #[.int .u16 oneH.id, .bool oneH.rs, .int .i64 oneH.op, .bool oneH.aa, .bool oneH.tc, .bool oneH.rd, .bool oneH.ra, .bool oneH.ad, .bool oneH.cd, .int .i64 oneH.rc, .slice (some ⟨B2 + 1 + 1, 0, none⟩) 1 1, .slice (some ⟨B2 + 1 + 1 + 1 + 1 + 1 + 1, 0, none⟩) 1 1, .slice none 0 0, .slice none 0 0] 26)) 1 (.slice (some ⟨B2 + 1 + 1 + 1 + 1 + 1 + 1, 0, none⟩) 1 1)) := ManyAt.start H12.out.1 H12.out.2.2
  have HBL0 : Hid (Below w11.heap.size w11 (w12.alloc (.cells #[.int .u16 oneH.id, .bool oneH.rs, .int .i64 oneH.op, .bool oneH.aa, .bool oneH.tc, .bool oneH.rd, .bool oneH.ra, .bool oneH.ad, .bool oneH.cd, .int .i64 oneH.rc, .slice (some ⟨B2 + 1 + 1, 0, none⟩) 1 1, .slice (some ⟨B2 + 1 + 1 + 1 + 1 + 1 + 1, 0, none⟩) 1 1, .slice none 0 0, .slice none 0 0] 26))) := by
    have h1 : Below w11.heap.size w11 w12 := by rw [← HSB2.out]; exact H12.out.2.1
    exact h1.trans ((newq_below _ _).mono h1.size)
  have hp10 : w12.heap.size = B2 + 7 := H12.out.2.2
  clear H12
  go_upto_region 10 with fail
  try simp only [hp10]
  clear hp10
  generalize w12.alloc (.cells #[.int .u16 oneH.id, .bool oneH.rs, .int .i64 oneH.op, .bool oneH.aa, .bool oneH.tc, .bool oneH.rd, .bool oneH.ra, .bool oneH.ad, .bool oneH.cd, .int .i64 oneH.rc, .slice (some ⟨B2 + 1 + 1, 0, none⟩) 1 1, .slice (some ⟨B2 + 1 + 1 + 1 + 1 + 1 + 1, 0, none⟩) 1 1, .slice none 0 0, .slice none 0 0] 26) = w13 at *
  go_loopw [] (fun wr => ∃ n v, 1 ≤ n ∧ n ≤ 513 ∧ Hid (ManyAt B2 (B2 + 7) wr n v) ∧ Hid (Below w11.heap.size w11 wr)) (fun wr => 513 - slK (wr.cell? ⟨B2 + 7, 11, none⟩))
  case atStart => exact ⟨1, _, Nat.le_refl _, by omega, HMA0.out, HBL0.out⟩
  case round =>
    obtain ⟨n, v, hn1, hn2, HMA, HBL⟩ := hrel
    by_cases hlt : n < 513
    · obtain ⟨g, cap, hv, lg, hc⟩ := HMA.out.first hn1
      subst hv
      have hlt' : (n : Int) < 513 := by omega
      have hn0 : (0 : Int) < (n : Int) := by omega
      have hn00 : 0 < n := by omega
      have c11 := box_cell HMA.out.box 11 _ rfl
      have lp := box_lt HMA.out.box
      have e0 : wr.cell? ⟨g, 0, none⟩ = some (.slice (some ⟨B2 + 1 + 1 + 1 + 1, 0, none⟩) 1 1) := hc 0 _ rfl
      have e1 : wr.cell? ⟨g, 1, none⟩ = some (.int .u16 1) := hc 1 _ rfl
      have e2 : wr.cell? ⟨g, 2, none⟩ = some (.int .u16 1) := hc 2 _ rfl
      have e3 : wr.cell? ⟨g, 3, none⟩ = some (.int .u32 60) := hc 3 _ rfl
      have e4 : wr.cell? ⟨g, 4, none⟩ = some (.slice none 0 0) := hc 4 _ rfl
      have e5 : wr.cell? ⟨g, 5, none⟩ = some (.slice none 0 0) := hc 5 _ rfl
      have e6 : wr.cell? ⟨g, 6, none⟩ = some (.slice none 0 0) := hc 6 _ rfl
      have e7 : wr.cell? ⟨g, 7, none⟩ = some (.slice (some ⟨B2 + 1 + 1 + 1 + 1 + 1, 0, none⟩) 4 4) := hc 7 _ rfl
      have hnb : Below wr.heap.size wr (wr.drew.alloc (.cells #[.slice (some ⟨B2 + 1 + 1 + 1 + 1, 0, none⟩) 1 1, .int .u16 1, .int .u16 1, .int .u32 60, .slice none 0 0, .slice none 0 0, .slice none 0 0, .slice (some ⟨B2 + 1 + 1 + 1 + 1 + 1, 0, none⟩) 4 4] 61)) := (Below.refl wr.heap.size wr).drew.trans (newq_below wr.drew _)
      have HNB := Lib.hid hnb
      have d11 : (wr.drew.alloc (.cells #[.slice (some ⟨B2 + 1 + 1 + 1 + 1, 0, none⟩) 1 1, .int .u16 1, .int .u16 1, .int .u32 60, .slice none 0 0, .slice none 0 0, .slice none 0 0, .slice (some ⟨B2 + 1 + 1 + 1 + 1 + 1, 0, none⟩) 4 4] 61)).cell? ⟨B2 + 7, 11, none⟩ = some (.slice (some ⟨g, 0, none⟩) n cap) := (hnb.cell (p := ⟨B2 + 7, 11, none⟩) lp).trans c11
      have HOWA : Hid ((wr.drew.alloc (.cells #[.slice (some ⟨B2 + 1 + 1 + 1 + 1, 0, none⟩) 1 1, .int .u16 1, .int .u16 1, .int .u32 60, .slice none 0 0, .slice none 0 0, .slice none 0 0, .slice (some ⟨B2 + 1 + 1 + 1 + 1 + 1, 0, none⟩) 4 4] 61)).ownsRow (B2 + 6) 61 8 (.slice (some ⟨g, 0, none⟩) n cap) n (cellsR (List.replicate n (xrO B2, oneR)))) := ownsRow_stays HMA.out.row hnb
      have HONE : Hid (∀ j u, (cellsR [(xrO B2, oneR)])[j]? = some u → (wr.drew.alloc (.cells #[.slice (some ⟨B2 + 1 + 1 + 1 + 1, 0, none⟩) 1 1, .int .u16 1, .int .u16 1, .int .u32 60, .slice none 0 0, .slice none 0 0, .slice none 0 0, .slice (some ⟨B2 + 1 + 1 + 1 + 1 + 1, 0, none⟩) 4 4] 61)).cell? ((⟨wr.heap.size, 0, none⟩ : Addr).add j) = some u) := one_rec wr.drew (xrO B2) oneR
      have hBs : B2 + 6 ≤ wr.heap.size := by omega
      have M2 : Hid (slK (wr.cell? ⟨B2 + 7, 11, none⟩) = n) := (show _ = _ by rw [c11]; rfl)
      clear hc hnb
      go_wp2_with fail
      go_region_law (first
        | (refine step_append_lies _ (by rfl) _ _ 24 (by rfl) (B2 + 6) 61 i61 _ 8 128 Tryz.underlying24 HI.out.1 HI.out.2.1 HI.out.2.2.1 HI.out.2.2.2 rfl (by omega) (.slice (some ⟨g, 0, none⟩) n cap) n (cellsR (List.replicate n (xrO B2, oneR))) (by rfl) HOWA.out ⟨wr.heap.size, 0, none⟩ 1 1 (cellsR [(xrO B2, oneR)]) (by rfl) (by rfl) HONE.out (cellsR_one1 _ _) (by omega) (by simp only [maxLen]; omega) (by omega) (by simp; omega) (wr.heap.size + 1) (by simp) ?_; intro g7 cap7 w7 h5 h6 hat hlt7; have H5 := Lib.hid h5; have H6 := Lib.hid h6; have HAT := Lib.hid hat; have hb7 : w7.heap[B2 + 7]? = _ := ((h6.block (B2 + 7) (Nat.lt_of_lt_of_le lp HNB.out.size) (fun e => HMA.out.own e.symm)).trans ((HNB.out.block (B2 + 7) lp).trans HMA.out.box)); have u11 := box_cell hb7 11 _ rfl; have uz := box_frozen hb7 11; have l7 := box_lt hb7; clear h5 h6 hat hb7)
        | fail)
      all_goals
        have HV8 : Hid (ManyAt B2 (B2 + 7) (w7.setCell ⟨B2 + 7, 11, none⟩ (.slice (some ⟨g7, 0, none⟩) (n + 1) cap7)) (n + 1) (.slice (some ⟨g7, 0, none⟩) (n + 1) cap7)) := HMA.out.push HNB.out H6.out H5.out (by rcases HAT.out with h | h; exact .inl h.symm; exact .inr (by rw [h]; simp [Value.ownBlock]))
        have HL8 : Hid (Below w11.heap.size w11 (w7.setCell ⟨B2 + 7, 11, none⟩ (.slice (some ⟨g7, 0, none⟩) (n + 1) cap7))) := by
          have h1 := HBL.out.trans (HNB.out.mono HBL.out.size)
          have h2 := h1.grown H6.out h1.size (fun k e => by have := (HMA.out.row.lt k e).1; have := HSB2.out; omega)
          exact h2.setCell (p := ⟨B2 + 7, 11, none⟩) (by have := HSB2.out; simp only; omega) _
        generalize w7.setCell ⟨B2 + 7, 11, none⟩ (.slice (some ⟨g7, 0, none⟩) (n + 1) cap7) = w8b at *
        go_wp2_with fail
        refine ⟨⟨n + 1, _, by omega, by omega, HV8.out, HL8.out⟩, ?_⟩
        have m1 : slK (w8b.cell? ⟨B2 + 7, 11, none⟩) = n + 1 := by rw [box_cell HV8.out.box 11 _ rfl]; rfl
        show 513 - slK (w8b.cell? ⟨B2 + 7, 11, none⟩) < 513 - slK (wr.cell? ⟨B2 + 7, 11, none⟩)
        rw [m1, M2.out]
        omega
    · have hn : n = 513 := by omega
      subst hn
      clear hlt
      obtain ⟨s10, hv, hm10⟩ := HMA.out.rd
      have hs10 : s10.n = 513 := hm10.l1.len.symm.trans (by simp)
      have HM10 : Hid (MRd wr oneH ⟨⟨some ⟨B2 + 1 + 1, 0, none⟩, 1, 1⟩, s10, ⟨none, 0, 0⟩, ⟨none, 0, 0⟩⟩ manyM) := hm10
      obtain ⟨ta, tn, tc⟩ := s10
      simp only at hv hs10
      subst hs10
      subst hv
      have HX10 : Hid (wr.heap[B2 + 7]? = some (.cells #[.int .u16 oneH.id, .bool oneH.rs, .int .i64 oneH.op, .bool oneH.aa, .bool oneH.tc, .bool oneH.rd, .bool oneH.ra, .bool oneH.ad, .bool oneH.cd, .int .i64 oneH.rc, .slice (some ⟨B2 + 1 + 1, 0, none⟩) 1 1, .slice ta 513 tc, .slice none 0 0, .slice none 0 0] 26)) := HMA.out.box
      have c11 := box_cell HX10.out 11 _ rfl
      have lp := box_lt HX10.out
      clear HMA hn1 hn2 HMA0 HBL0 hm10
      have nb14 := newq_below wr (.cells #[.int .u8 0, .int .u8 0, .int .u8 0, .int .u8 0, .int .u8 0, .int .u8 17, .int .u8 0, .int .u8 0, .int .u8 0, .int .u8 0, .int .u8 0, .int .u8 0] 5)
      have HS14 : Hid (BRd (wr.alloc (.cells #[.int .u8 0, .int .u8 0, .int .u8 0, .int .u8 0, .int .u8 0, .int .u8 17, .int .u8 0, .int .u8 0, .int .u8 0, .int .u8 0, .int .u8 0, .int .u8 0] 5)) ⟨some ⟨wr.heap.size, 0, none⟩, 12, 12⟩ [0, 0, 0, 0, 0, 17, 0, 0, 0, 0, 0, 0]) := raw_at (zs := [0, 0, 0, 0, 0, 17, 0, 0, 0, 0, 0, 0]) (n := 12) (heap_alloc_new wr (.cells #[.int .u8 0, .int .u8 0, .int .u8 0, .int .u8 0, .int .u8 0, .int .u8 17, .int .u8 0, .int .u8 0, .int .u8 0, .int .u8 0, .int .u8 0, .int .u8 0] 5)) rfl (by decide) (by decide)
      have K14 := Lib.hid (mread_none ⟨some ⟨wr.heap.size, 0, none⟩, 12, 12⟩ _ _ HS14.out (show (1 : Nat) ≤ 12 by decide) (show (12 : Nat) ≤ 140737488355328 by decide) q17_no)
      simp only [zeroM] at K14
      have HB14 : Hid (Below wr.heap.size wr (wr.alloc (.cells #[.int .u8 0, .int .u8 0, .int .u8 0, .int .u8 0, .int .u8 0, .int .u8 17, .int .u8 0, .int .u8 0, .int .u8 0, .int .u8 0, .int .u8 0, .int .u8 0] 5))) := nb14
      clear HS14 nb14
      go_wp2_with fail
      refine K14.out.mono ?_
      rintro e w150 ⟨rfl, H15⟩
      have HB15 : Hid (Below wr.heap.size wr (w150.alloc (.cells #[.int .u16 0, .bool false, .int .i64 0, .bool false, .bool false, .bool false, .bool false, .bool false, .bool false, .int .i64 0, .slice none 0 0, .slice none 0 0, .slice none 0 0, .slice none 0 0] 26))) := (HB14.out.trans (H15.out.mono HB14.out.size)).trans ((newq_below _ _).mono (Nat.le_trans HB14.out.size H15.out.size))
      clear K14 H15 HB14 c11 lp
      go_upto_region 13 with fail
      generalize w150.alloc (.cells #[.int .u16 0, .bool false, .int .i64 0, .bool false, .bool false, .bool false, .bool false, .bool false, .bool false, .int .i64 0, .slice none 0 0, .slice none 0 0, .slice none 0 0, .slice none 0 0] 26) = w15 at *
      go_wp2_with fail
      refine (one_yes w15).mono ?_
      rintro e w16 ⟨x16, rfl, H16⟩
      have K16 := Lib.hid (part_0 x16 w16 H16.out.1)
      have HB16 : Hid (Below wr.heap.size wr w16) := HB15.out.trans (H16.out.2.mono HB15.out.size)
      clear H16 HB15
      go_wp2_with fail
      refine K16.out.mono ?_
      rintro e w17 ⟨⟨ua, un, uc⟩, rfl, H17⟩
      have hun : un = 19 := H17.out.1.len.symm
      subst hun
      have HU17 : Hid (BRd w17 ⟨ua, 19, uc⟩ askB) := H17.out.1
      have HB17 : Hid (Below wr.heap.size wr w17) := HB16.out.trans (H17.out.2.mono HB16.out.size)
      clear H17 K16 HB16
      go_wp2_with fail
      refine (one_yes w17).mono ?_
      rintro e w18 ⟨x18, rfl, H18⟩
      have K18 := Lib.hid (part_2 x18 w18 H18.out.1)
      have HU18 : Hid (BRd w18 ⟨ua, 19, uc⟩ askB) := HU17.out.below H18.out.2
      have HB18 : Hid (Below wr.heap.size wr w18) := HB17.out.trans (H18.out.2.mono HB17.out.size)
      clear H18 HU17 HB17
      go_wp2_with fail
      refine K18.out.mono ?_
      rintro e w19 ⟨rfl, H19⟩
      have HU19 : Hid (BRd w19 ⟨ua, 19, uc⟩ askB) := HU18.out.below H19.out
      have HB19 : Hid (Below wr.heap.size wr w19) := HB18.out.trans (H19.out.mono HB18.out.size)
      clear H19 HU18 HB18 K18
      have HB11 : Hid (Below w11.heap.size w11 w19) := HBL.out.trans (HB19.out.mono HBL.out.size)
      have HB4 : Hid (Below w4.heap.size w4 w19) := HA11.out.trans (HB11.out.mono HA11.out.size)
      have HAZ : Hid (Below w.heap.size w w19) := HA4.out.trans (HB4.out.mono HA4.out.size)
      have M3 : Hid (MRd w19 oneH x3 (oneM false)) := HM3.out.below HB4.out
      have M9 : Hid (MRd w19 oneH (oneX B1) anyM) := HM9.out.below HB11.out
      have M10 : Hid (MRd w19 oneH ⟨⟨some ⟨B2 + 1 + 1, 0, none⟩, 1, 1⟩, ⟨ta, 513, tc⟩, ⟨none, 0, 0⟩, ⟨none, 0, 0⟩⟩ manyM) := HM10.out.below HB19.out
      have S19 : Hid (BRd w19 ⟨some ⟨sb, so, none⟩, 19, sc⟩ askB) := HS4.out.below HB4.out
      have X3 : Hid (w19.heap[p3]? = some (.cells #[.int .u16 oneH.id, .bool oneH.rs, .int .i64 oneH.op, .bool oneH.aa, .bool oneH.tc, .bool oneH.rd, .bool oneH.ra, .bool oneH.ad, .bool oneH.cd, .int .i64 oneH.rc, .slice x3.q.a x3.q.n x3.q.c, .slice x3.l1.a x3.l1.n x3.l1.c, .slice x3.l2.a x3.l2.n x3.l2.c, .slice x3.l3.a x3.l3.n x3.l3.c] 26)) := (HB4.out.block p3 (box_lt HX3.out)).trans HX3.out
      have X9 : Hid (w19.heap[B1 + 7]? = some (.cells #[.int .u16 oneH.id, .bool oneH.rs, .int .i64 oneH.op, .bool oneH.aa, .bool oneH.tc, .bool oneH.rd, .bool oneH.ra, .bool oneH.ad, .bool oneH.cd, .int .i64 oneH.rc, .slice (some ⟨B1 + 1 + 1, 0, none⟩) 1 1, .slice (some ⟨B1 + 1 + 1 + 1 + 1 + 1 + 1, 0, none⟩) 1 1, .slice none 0 0, .slice none 0 0] 26)) := (HB11.out.block (B1 + 7) (box_lt HX9b.out)).trans HX9b.out
      have X10 : Hid (w19.heap[B2 + 7]? = some (.cells #[.int .u16 oneH.id, .bool oneH.rs, .int .i64 oneH.op, .bool oneH.aa, .bool oneH.tc, .bool oneH.rd, .bool oneH.ra, .bool oneH.ad, .bool oneH.cd, .int .i64 oneH.rc, .slice (some ⟨B2 + 1 + 1, 0, none⟩) 1 1, .slice ta 513 tc, .slice none 0 0, .slice none 0 0] 26)) := (HB19.out.block (B2 + 7) (box_lt HX10.out)).trans HX10.out
      clear HB11 HB4 HB19 HM3 HM9 HM10 HS4 HX3 HX9b HX10 HBL HA11 HA4
      have K28 := fun W => Lib.hid (awake10 W)
      have K31 := fun W => Lib.hid (one_no W)
      have KSM : Hid (∀ (x y : MA) (W : World), MRd W oneH x (oneM false) → MRd W oneH y (oneM false) → Calls Tryz.prog 20 #[.agg #[.int .u16 oneH.id, .bool oneH.rs, .int .i64 oneH.op, .bool oneH.aa, .bool oneH.tc, .bool oneH.rd, .bool oneH.ra, .bool oneH.ad, .bool oneH.cd, .int .i64 oneH.rc, .slice x.q.a x.q.n x.q.c, .slice x.l1.a x.l1.n x.l1.c, .slice x.l2.a x.l2.n x.l2.c, .slice x.l3.a x.l3.n x.l3.c], .agg #[.int .u16 oneH.id, .bool oneH.rs, .int .i64 oneH.op, .bool oneH.aa, .bool oneH.tc, .bool oneH.rd, .bool oneH.ra, .bool oneH.ad, .bool oneH.cd, .int .i64 oneH.rc, .slice y.q.a y.q.n y.q.c, .slice y.l1.a y.l1.n y.l1.c, .slice y.l2.a y.l2.n y.l2.c, .slice y.l3.a y.l3.n y.l3.c]] W fun e w' => e = .returned (.bool true) ∧ Hid (Below W.heap.size W w')) := fun x y W h1 h2 => same_msg oneH x y (oneM false) W h1 h2
      have KAny : Hid (∀ W : World, Below w19.heap.size w19 W → Calls Tryz.prog 16 #[.agg #[.int .u16 oneH.id, .bool oneH.rs, .int .i64 oneH.op, .bool oneH.aa, .bool oneH.tc, .bool oneH.rd, .bool oneH.ra, .bool oneH.ad, .bool oneH.cd, .int .i64 oneH.rc, .slice (some ⟨B1 + 1 + 1, 0, none⟩) 1 1, .slice (some ⟨B1 + 1 + 1 + 1 + 1 + 1 + 1, 0, none⟩) 1 1, .slice none 0 0, .slice none 0 0]] W fun e w' => e = .returned (.int .i64 6) ∧ Hid (Below W.heap.size W w')) := fun W hb => by
        have h := check_msg oneH (oneX B1) anyM W (M9.out.below hb) fin_any
        rw [any_chk] at h
        exact h
      have KMany : Hid (∀ W : World, Below w19.heap.size w19 W → Calls Tryz.prog 16 #[.agg #[.int .u16 oneH.id, .bool oneH.rs, .int .i64 oneH.op, .bool oneH.aa, .bool oneH.tc, .bool oneH.rd, .bool oneH.ra, .bool oneH.ad, .bool oneH.cd, .int .i64 oneH.rc, .slice (some ⟨B2 + 1 + 1, 0, none⟩) 1 1, .slice ta 513 tc, .slice none 0 0, .slice none 0 0]] W fun e w' => e = .returned (.int .i64 3) ∧ Hid (Below W.heap.size W w')) := fun W hb => by
        have h := check_msg oneH ⟨⟨some ⟨B2 + 1 + 1, 0, none⟩, 1, 1⟩, ⟨ta, 513, tc⟩, ⟨none, 0, 0⟩, ⟨none, 0, 0⟩⟩ manyM W (M10.out.below hb) fin_many
        rw [many_chk] at h
        exact h
      have K15 : Hid (∀ W : World, Below w19.heap.size w19 W → Calls Tryz.prog 15 #[.slice ua 19 uc, .slice (some ⟨sb, so, none⟩) 19 sc] W fun e w' => e = .returned (.bool true) ∧ w' = W) := fun W hb => same_yes ua (some ⟨sb, so, none⟩) 19 uc sc askB W (HU19.out.below hb).rd (S19.out.below hb).rd rfl
      go_upto_region 15 with fail
      clear M9 M10
      generalize oneH = H at *
      have KS : ∀ W : World, Below w19.heap.size w19 W → (W.cell? ⟨p3, 0, none⟩ = some (.int .u16 H.id) ∧ W.cell? ⟨p3, 1, none⟩ = some (.bool H.rs) ∧ W.cell? ⟨p3, 2, none⟩ = some (.int .i64 H.op) ∧ W.cell? ⟨p3, 3, none⟩ = some (.bool H.aa) ∧ W.cell? ⟨p3, 4, none⟩ = some (.bool H.tc) ∧ W.cell? ⟨p3, 5, none⟩ = some (.bool H.rd) ∧ W.cell? ⟨p3, 6, none⟩ = some (.bool H.ra) ∧ W.cell? ⟨p3, 7, none⟩ = some (.bool H.ad) ∧ W.cell? ⟨p3, 8, none⟩ = some (.bool H.cd) ∧ W.cell? ⟨p3, 9, none⟩ = some (.int .i64 H.rc) ∧ W.cell? ⟨p3, 10, none⟩ = some (.slice x3.q.a x3.q.n x3.q.c) ∧ W.cell? ⟨p3, 11, none⟩ = some (.slice x3.l1.a x3.l1.n x3.l1.c) ∧ W.cell? ⟨p3, 12, none⟩ = some (.slice x3.l2.a x3.l2.n x3.l2.c) ∧ W.cell? ⟨p3, 13, none⟩ = some (.slice x3.l3.a x3.l3.n x3.l3.c) ∧ W.cell? ⟨B1 + 7, 0, none⟩ = some (.int .u16 H.id) ∧ W.cell? ⟨B1 + 7, 1, none⟩ = some (.bool H.rs) ∧ W.cell? ⟨B1 + 7, 2, none⟩ = some (.int .i64 H.op) ∧ W.cell? ⟨B1 + 7, 3, none⟩ = some (.bool H.aa) ∧ W.cell? ⟨B1 + 7, 4, none⟩ = some (.bool H.tc) ∧ W.cell? ⟨B1 + 7, 5, none⟩ = some (.bool H.rd) ∧ W.cell? ⟨B1 + 7, 6, none⟩ = some (.bool H.ra) ∧ W.cell? ⟨B1 + 7, 7, none⟩ = some (.bool H.ad) ∧ W.cell? ⟨B1 + 7, 8, none⟩ = some (.bool H.cd) ∧ W.cell? ⟨B1 + 7, 9, none⟩ = some (.int .i64 H.rc) ∧ W.cell? ⟨B1 + 7, 10, none⟩ = some (.slice (some ⟨B1 + 1 + 1, 0, none⟩) 1 1) ∧ W.cell? ⟨B1 + 7, 11, none⟩ = some (.slice (some ⟨B1 + 1 + 1 + 1 + 1 + 1 + 1, 0, none⟩) 1 1) ∧ W.cell? ⟨B1 + 7, 12, none⟩ = some (.slice none 0 0) ∧ W.cell? ⟨B1 + 7, 13, none⟩ = some (.slice none 0 0) ∧ W.cell? ⟨B2 + 7, 0, none⟩ = some (.int .u16 H.id) ∧ W.cell? ⟨B2 + 7, 1, none⟩ = some (.bool H.rs) ∧ W.cell? ⟨B2 + 7, 2, none⟩ = some (.int .i64 H.op) ∧ W.cell? ⟨B2 + 7, 3, none⟩ = some (.bool H.aa) ∧ W.cell? ⟨B2 + 7, 4, none⟩ = some (.bool H.tc) ∧ W.cell? ⟨B2 + 7, 5, none⟩ = some (.bool H.rd) ∧ W.cell? ⟨B2 + 7, 6, none⟩ = some (.bool H.ra) ∧ W.cell? ⟨B2 + 7, 7, none⟩ = some (.bool H.ad) ∧ W.cell? ⟨B2 + 7, 8, none⟩ = some (.bool H.cd) ∧ W.cell? ⟨B2 + 7, 9, none⟩ = some (.int .i64 H.rc) ∧ W.cell? ⟨B2 + 7, 10, none⟩ = some (.slice (some ⟨B2 + 1 + 1, 0, none⟩) 1 1) ∧ W.cell? ⟨B2 + 7, 11, none⟩ = some (.slice ta 513 tc) ∧ W.cell? ⟨B2 + 7, 12, none⟩ = some (.slice none 0 0) ∧ W.cell? ⟨B2 + 7, 13, none⟩ = some (.slice none 0 0)) := fun W hW => by
        have m3 := (hW.block p3 (box_lt X3.out)).trans X3.out
        have m9 := (hW.block (B1 + 7) (box_lt X9.out)).trans X9.out
        have m10 := (hW.block (B2 + 7) (box_lt X10.out)).trans X10.out
        exact ⟨box_cell m3 0 _ rfl, box_cell m3 1 _ rfl, box_cell m3 2 _ rfl, box_cell m3 3 _ rfl, box_cell m3 4 _ rfl, box_cell m3 5 _ rfl, box_cell m3 6 _ rfl, box_cell m3 7 _ rfl, box_cell m3 8 _ rfl, box_cell m3 9 _ rfl, box_cell m3 10 _ rfl, box_cell m3 11 _ rfl, box_cell m3 12 _ rfl, box_cell m3 13 _ rfl, box_cell m9 0 _ rfl, box_cell m9 1 _ rfl, box_cell m9 2 _ rfl, box_cell m9 3 _ rfl, box_cell m9 4 _ rfl, box_cell m9 5 _ rfl, box_cell m9 6 _ rfl, box_cell m9 7 _ rfl, box_cell m9 8 _ rfl, box_cell m9 9 _ rfl, box_cell m9 10 _ rfl, box_cell m9 11 _ rfl, box_cell m9 12 _ rfl, box_cell m9 13 _ rfl, box_cell m10 0 _ rfl, box_cell m10 1 _ rfl, box_cell m10 2 _ rfl, box_cell m10 3 _ rfl, box_cell m10 4 _ rfl, box_cell m10 5 _ rfl, box_cell m10 6 _ rfl, box_cell m10 7 _ rfl, box_cell m10 8 _ rfl, box_cell m10 9 _ rfl, box_cell m10 10 _ rfl, box_cell m10 11 _ rfl, box_cell m10 12 _ rfl, box_cell m10 13 _ rfl⟩
      obtain ⟨a0, a1, a2, a3, a4, a5, a6, a7, a8, a9, a10, a11, a12, a13, b0, b1, b2, b3, b4, b5, b6, b7, b8, b9, b10, b11, b12, b13, c0, c1, c2, c3, c4, c5, c6, c7, c8, c9, c10, c11, c12, c13⟩ := KS w19 (Below.refl _ _)
      have l3 := box_lt X3.out
      have l9 := box_lt X9.out
      have l10 := box_lt X10.out
      go_region_held3 (fun W => (W.cell? ⟨p3, 0, none⟩ = some (.int .u16 H.id) ∧ W.cell? ⟨p3, 1, none⟩ = some (.bool H.rs) ∧ W.cell? ⟨p3, 2, none⟩ = some (.int .i64 H.op) ∧ W.cell? ⟨p3, 3, none⟩ = some (.bool H.aa) ∧ W.cell? ⟨p3, 4, none⟩ = some (.bool H.tc) ∧ W.cell? ⟨p3, 5, none⟩ = some (.bool H.rd) ∧ W.cell? ⟨p3, 6, none⟩ = some (.bool H.ra) ∧ W.cell? ⟨p3, 7, none⟩ = some (.bool H.ad) ∧ W.cell? ⟨p3, 8, none⟩ = some (.bool H.cd) ∧ W.cell? ⟨p3, 9, none⟩ = some (.int .i64 H.rc) ∧ W.cell? ⟨p3, 10, none⟩ = some (.slice x3.q.a x3.q.n x3.q.c) ∧ W.cell? ⟨p3, 11, none⟩ = some (.slice x3.l1.a x3.l1.n x3.l1.c) ∧ W.cell? ⟨p3, 12, none⟩ = some (.slice x3.l2.a x3.l2.n x3.l2.c) ∧ W.cell? ⟨p3, 13, none⟩ = some (.slice x3.l3.a x3.l3.n x3.l3.c) ∧ W.cell? ⟨B1 + 7, 0, none⟩ = some (.int .u16 H.id) ∧ W.cell? ⟨B1 + 7, 1, none⟩ = some (.bool H.rs) ∧ W.cell? ⟨B1 + 7, 2, none⟩ = some (.int .i64 H.op) ∧ W.cell? ⟨B1 + 7, 3, none⟩ = some (.bool H.aa) ∧ W.cell? ⟨B1 + 7, 4, none⟩ = some (.bool H.tc) ∧ W.cell? ⟨B1 + 7, 5, none⟩ = some (.bool H.rd) ∧ W.cell? ⟨B1 + 7, 6, none⟩ = some (.bool H.ra) ∧ W.cell? ⟨B1 + 7, 7, none⟩ = some (.bool H.ad) ∧ W.cell? ⟨B1 + 7, 8, none⟩ = some (.bool H.cd) ∧ W.cell? ⟨B1 + 7, 9, none⟩ = some (.int .i64 H.rc) ∧ W.cell? ⟨B1 + 7, 10, none⟩ = some (.slice (some ⟨B1 + 1 + 1, 0, none⟩) 1 1) ∧ W.cell? ⟨B1 + 7, 11, none⟩ = some (.slice (some ⟨B1 + 1 + 1 + 1 + 1 + 1 + 1, 0, none⟩) 1 1) ∧ W.cell? ⟨B1 + 7, 12, none⟩ = some (.slice none 0 0) ∧ W.cell? ⟨B1 + 7, 13, none⟩ = some (.slice none 0 0) ∧ W.cell? ⟨B2 + 7, 0, none⟩ = some (.int .u16 H.id) ∧ W.cell? ⟨B2 + 7, 1, none⟩ = some (.bool H.rs) ∧ W.cell? ⟨B2 + 7, 2, none⟩ = some (.int .i64 H.op) ∧ W.cell? ⟨B2 + 7, 3, none⟩ = some (.bool H.aa) ∧ W.cell? ⟨B2 + 7, 4, none⟩ = some (.bool H.tc) ∧ W.cell? ⟨B2 + 7, 5, none⟩ = some (.bool H.rd) ∧ W.cell? ⟨B2 + 7, 6, none⟩ = some (.bool H.ra) ∧ W.cell? ⟨B2 + 7, 7, none⟩ = some (.bool H.ad) ∧ W.cell? ⟨B2 + 7, 8, none⟩ = some (.bool H.cd) ∧ W.cell? ⟨B2 + 7, 9, none⟩ = some (.int .i64 H.rc) ∧ W.cell? ⟨B2 + 7, 10, none⟩ = some (.slice (some ⟨B2 + 1 + 1, 0, none⟩) 1 1) ∧ W.cell? ⟨B2 + 7, 11, none⟩ = some (.slice ta 513 tc) ∧ W.cell? ⟨B2 + 7, 12, none⟩ = some (.slice none 0 0) ∧ W.cell? ⟨B2 + 7, 13, none⟩ = some (.slice none 0 0))) (first | exact KS _ B24.out | exact KS _ B23.out | exact KS _ B22.out | exact KS _ B21.out | exact KS _ B20.out | exact KS _ (Below.refl w19.heap.size w19).drew | exact KS _ (Below.refl w19.heap.size w19)) (first
        | (go_at_call 28; refine Calls.mono (K28 _).out ?_; rintro e w20 ⟨rfl, H20⟩; have B20 : Hid (Below w19.heap.size w19 w20) := (by first | exact Below.trans ((Below.refl w19.heap.size w19).drew) H20.out | exact H20.out))
        | (go_at_call 31; refine Calls.mono (K31 _).out ?_; rintro e w21 ⟨x21, rfl, H21⟩; have B21 : Hid (Below w19.heap.size w19 w21) := (Below.trans B20.out (Below.mono H21.out.2 B20.out.size)))
        | (go_at_call 20; refine Calls.mono (KSM.out x3 x21 _ (M3.out.below B21.out) H21.out.1) ?_; rintro e w22 ⟨rfl, H22⟩; have B22 : Hid (Below w19.heap.size w19 w22) := (Below.trans B21.out (Below.mono H22.out B21.out.size)))
        | (go_at_call 16; have hb23 := B23.out; refine Calls.mono (KMany.out _ hb23) ?_; clear hb23; rintro e w24 ⟨rfl, H24⟩; have B24 : Hid (Below w19.heap.size w19 w24) := (Below.trans B23.out (Below.mono H24.out B23.out.size)))
        | (go_at_call 16; refine Calls.mono (KAny.out _ B22.out) ?_; rintro e w23 ⟨rfl, H23⟩; have B23 : Hid (Below w19.heap.size w19 w23) := (Below.trans B22.out (Below.mono H23.out B22.out.size)))
        | (go_at_call 15; refine Calls.mono (K15.out _ B24.out) ?_; rintro e w25 ⟨rfl, rfl⟩))
      go_wp2
      go_ret
      exact ⟨rfl, HAZ.out.trans (B24.out.mono HAZ.out.size)⟩
end Go.Proofs.YteplffhfeoephaaGreat
namespace Go.Proofs.YteplffhfeoephaaGreat
open Go.ChangeShapes Go.WideShapes Go.ChangeAt Go.RowKit Go.Maps
theorem knownPlain (w : World) : Calls Tryz.prog 8 #[] w fun e w' => e = .returned (.bool true) ∧ Below w.heap.size w w' := by
  refine (knownL w).mono ?_
  rintro e w' ⟨h1, h2⟩
  exact ⟨h1, h2.out⟩
end Go.Proofs.YteplffhfeoephaaGreat
