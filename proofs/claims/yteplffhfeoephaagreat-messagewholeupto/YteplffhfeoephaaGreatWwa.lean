/- What WholeOwn needs besides. -/
import Derived.Test.YteplffhfeoephaaGreatWbk
set_option maxRecDepth 100000
namespace Go.Proofs.YteplffhfeoephaaGreat
open Go.ChangeShapes Go.WideShapes Go.ChangeAt Go.RowKit
set_option linter.unusedVariables false
set_option linter.unusedSimpArgs false
/-- What is read stays, whatever stands behind. -/
def More {α : Type} (f : List Int → Nat → Option (α × Nat)) : Prop := ∀ zs ms p r, f zs p = some r → f (zs ++ ms) p = some r
theorem gNum_more {zs ms : List Int} {p wd : Nat} (h : p + wd ≤ zs.length) : gNum (zs ++ ms) p wd = gNum zs p wd := by
  unfold gNum
  rw [List.drop_append_of_le_length (by omega), List.take_append_of_le_length (by simp; omega)]
theorem more_16 : More g16 := by
  intro zs ms p r h
  unfold g16 at h ⊢
  split at h
  · next hl => rw [if_pos (by simp; omega), gNum_more hl]; exact h
  · cases h
theorem more_32 : More g32 := by
  intro zs ms p r h
  unfold g32 at h ⊢
  split at h
  · next hl => rw [if_pos (by simp; omega), gNum_more hl]; exact h
  · cases h
theorem more_nm : More gnm := fun zs ms p r h => qgo_more h
theorem more_bind {α β : Type} {f : List Int → Nat → Option (α × Nat)} {k : α → List Int → Nat → Option (β × Nat)} (hf : More f) (hk : ∀ a, More (k a)) : More (fun zs p => (f zs p).bind fun a => k a.1 zs a.2) := by
  intro zs ms p r h
  simp only at h ⊢
  cases e : f zs p with
  | none => rw [e] at h; cases h
  | some a =>
    rw [e] at h
    rw [hf zs ms p a e]
    exact hk a.1 zs ms a.2 r h
theorem more_map {α β : Type} {f : List Int → Nat → Option (α × Nat)} (F : α → β) (hf : More f) : More (fun zs p => (f zs p).map fun a => (F a.1, a.2)) := by
  intro zs ms p r h
  simp only at h ⊢
  cases e : f zs p with
  | none => rw [e] at h; cases h
  | some a => rw [e] at h; rw [hf zs ms p a e]; exact h
theorem more_many {α : Type} {f : List Int → Nat → Option (α × Nat)} (hf : More f) : ∀ k, More (fun zs => gmany (f zs) k)
  | 0 => fun zs ms p r h => h
  | k + 1 => more_bind (β := List α) (k := fun a zs p => (gmany (f zs) k p).map fun (y : List α × Nat) => (a :: y.1, y.2)) hf fun a => more_map (fun y => a :: y) (more_many hf k)
theorem cut_more {zs ms : List Int} {p n : Nat} (h : p + n ≤ zs.length) : ((zs ++ ms).drop p).take n = (zs.drop p).take n := by
  rw [List.drop_append_of_le_length (by omega), List.take_append_of_le_length (by simp; omega)]
theorem more_pl {t : Nat} {zs ms : List Int} {p e : Nat} {b : List Int} (he : p ≤ e) (hl : e ≤ zs.length) (h : gpl t zs p e = some b) : gpl t (zs ++ ms) p e = some b := by
  unfold gpl at h ⊢
  split at h
  · next hs =>
    rw [if_pos hs]
    split at h
    · next ha =>
      rw [if_pos ha]
      cases e1 : gmany (gnm zs) (cnt t) (p + ahd t) with
      | none => rw [e1] at h; cases h
      | some x =>
        rw [e1] at h
        simp only [Option.bind_some] at h
        have e2 := more_many more_nm (cnt t) zs ms _ _ e1
        simp only at e2
        rw [e2]
        simp only [Option.bind_some]
        split at h
        · next hx =>
          rw [if_pos hx, cut_more (by omega), cut_more (by omega)]
          exact h
        · cases h
    · cases h
  · next hs => rw [if_neg hs, cut_more (by omega)]; exact h
theorem more_dat (t size : Nat) : More (gdat t size) := by
  intro zs ms p r h
  unfold gdat at h ⊢
  split at h
  · next hl =>
    rw [if_pos (by simp; omega)]
    cases e : gpl t zs p (p + size) with
    | none => rw [e] at h; cases h
    | some b => rw [e] at h; rw [more_pl (by omega) hl e]; exact h
  · cases h
theorem more_rec : More grec := more_bind (β := Rec) (k := fun o zs p => (g16 zs p).bind fun t => (g16 zs t.2).bind fun c => (g32 zs c.2).bind fun l => (g16 zs l.2).bind fun s => (gdat t.1 s.1 zs s.2).map fun (d : Dat × Nat) => ((⟨o, t.1, c.1, l.1, d.1⟩ : Rec), d.2)) more_nm fun o =>
  more_bind (β := Rec) (k := fun t zs p => (g16 zs p).bind fun c => (g32 zs c.2).bind fun l => (g16 zs l.2).bind fun s => (gdat t s.1 zs s.2).map fun (d : Dat × Nat) => ((⟨o, t, c.1, l.1, d.1⟩ : Rec), d.2)) more_16 fun t =>
  more_bind (β := Rec) (k := fun c zs p => (g32 zs p).bind fun l => (g16 zs l.2).bind fun s => (gdat t s.1 zs s.2).map fun (d : Dat × Nat) => ((⟨o, t, c, l.1, d.1⟩ : Rec), d.2)) more_16 fun c =>
  more_bind (β := Rec) (k := fun l zs p => (g16 zs p).bind fun s => (gdat t s.1 zs s.2).map fun (d : Dat × Nat) => ((⟨o, t, c, l, d.1⟩ : Rec), d.2)) more_32 fun l =>
  more_bind (β := Rec) (k := fun s zs p => (gdat t s zs p).map fun (d : Dat × Nat) => ((⟨o, t, c, l, d.1⟩ : Rec), d.2)) more_16 fun s => more_map (fun d => (⟨o, t, c, l, d⟩ : Rec)) (more_dat t s)
theorem more_qn : More gqn := more_bind (β := Qn) (k := fun o zs p => (g16 zs p).bind fun t => (g16 zs t.2).map fun (c : Nat × Nat) => ((⟨o, t.1, c.1⟩ : Qn), c.2)) more_nm fun o =>
  more_bind (β := Qn) (k := fun t zs p => (g16 zs p).map fun (c : Nat × Nat) => ((⟨o, t, c.1⟩ : Qn), c.2)) more_16 fun t => more_map (fun c => (⟨o, t, c⟩ : Qn)) more_16
theorem more_body (c0 c1 c2 c3 : Nat) : More (gbody c0 c1 c2 c3) :=
  more_bind (β := List Qn × List Rec × List Rec × List Rec) (k := fun q zs p => (gmany (grec zs) c1 p).bind fun a => (gmany (grec zs) c2 a.2).bind fun u => (gmany (grec zs) c3 u.2).map fun (d : List Rec × Nat) => ((q, a.1, u.1, d.1), d.2)) (more_many more_qn c0) fun q =>
  more_bind (β := List Qn × List Rec × List Rec × List Rec) (k := fun a zs p => (gmany (grec zs) c2 p).bind fun u => (gmany (grec zs) c3 u.2).map fun (d : List Rec × Nat) => ((q, a, u.1, d.1), d.2)) (more_many more_rec c1) fun a =>
  more_bind (β := List Qn × List Rec × List Rec × List Rec) (k := fun u zs p => (gmany (grec zs) c3 p).map fun (d : List Rec × Nat) => ((q, a, u, d.1), d.2)) (more_many more_rec c2) fun u => more_map (fun d => (q, a, u, d)) (more_many more_rec c3)
/-- A message's bytes with more behind are none's. -/
theorem msg_more {zs ms : List Int} {m : Mg} (h : gmsg zs = some m) (hm : ms ≠ []) : gmsg (zs ++ ms) = none := by
  unfold gmsg at h
  split at h
  · cases h
  · next hb =>
    cases e : gbody (nv zs 2) (nv zs 3) (nv zs 4) (nv zs 5) zs 12 with
    | none => rw [e] at h; cases h
    | some x =>
      rw [e] at h
      simp only [Option.bind_some] at h
      split at h
      · next hx =>
        have hl : 12 ≤ zs.length := by unfold hdBad at hb; omega
        have hms : 0 < ms.length := List.length_pos_iff.2 hm
        unfold gmsg
        split
        · rfl
        · rw [nv_app (by omega), nv_app (by omega), nv_app (by omega), nv_app (by omega), more_body _ _ _ _ zs ms 12 x e]
          simp only [Option.bind_some]
          rw [if_neg (by simp; omega)]
      · cases h
end Go.Proofs.YteplffhfeoephaaGreat
namespace Go.Proofs.YteplffhfeoephaaGreat
open Go.ChangeShapes Go.WideShapes Go.ChangeAt Go.RowKit Go.Maps
set_option linter.unusedVariables false
set_option linter.unusedSimpArgs false
theorem cut_none {z : List Int} {m : Mg} (h : gmsg z = some m) (k : Nat) (hk : k < z.length) : gmsg (z.take k) = none := by
  cases hg : gmsg (z.take k) with
  | none => rfl
  | some m' =>
    have := msg_more hg (ms := z.drop k) (by intro e; have := congrArg List.length e; simp at this; omega)
    rw [List.take_append_drop, h] at this
    cases this
theorem BRd.cutE {w : World} {b o n c k : Nat} {z : List Int} (h : BRd w ⟨some ⟨b, o, none⟩, n, c⟩ z) (hk : k ≤ n) : BRd w ⟨some ⟨b, o, none⟩, k, c⟩ (z.take k) := by
  have hl : z.length = n := h.len
  refine ⟨?_, by simp; omega, ⟨by have := h.cap.1; simp only at this ⊢; omega, h.cap.2⟩, by simp⟩
  have := h.rd.cut 0 k (by omega) (a' := some ⟨b, o, none⟩) (fun _ b' o' e => by cases e; rfl)
  exact this
theorem ownW_brd {B : Nat} {w : World} {v : Value} {n : Nat} {ys zs : List Int} (h : Own B w v n ys) (e : ys.take n = zs) : ∃ a c, v = .slice a n c ∧ BRd w ⟨a, n, c⟩ zs := by
  subst e
  rcases h with ⟨rfl, e2, e3⟩ | ⟨q, rfl, e2, e3, e4, e5⟩
  · subst e2; subst e3
    exact ⟨none, 0, rfl, ⟨.inl rfl, fun z hz => (by cases hz)⟩, rfl, ⟨Nat.le_refl _, by simp⟩, fun _ => rfl⟩
  · refine ⟨some ⟨q, 0, none⟩, ys.length, rfl, ⟨.inr ⟨q, 0, rfl, e3.lt, fun i hi => ?_⟩, fun z hz => e3.2 z (List.mem_of_mem_take hz)⟩, by simp; omega, ⟨e4, by simpa only [maxLen] using e5⟩, by simp⟩
    have hi' : i < n := by simp at hi; omega
    have := e3.cell i (by omega)
    rw [Nat.zero_add, this]
    congr 2
    rw [List.getD_eq_getElem?_getD, List.getD_eq_getElem?_getD, List.getElem?_take_of_lt hi']
theorem BRd.adrW {w : World} {s : Sl} {zs : List Int} (h : BRd w s zs) (h0 : zs ≠ []) : ∃ b o, s.a = Option.some ⟨b, o, Option.none⟩ ∧ b < w.heap.size := by
  rcases h.rd.1 with e | ⟨b, o, e1, e2, _⟩
  · exact absurd e h0
  · exact ⟨b, o, e1, e2⟩
set_option maxRecDepth 100000 in
set_option maxHeartbeats 16000000 in
theorem wholeM (H : Hd) (x : MA) (m : Mg) (s : Sl) (zs : List Int) (w : World) (hm : MRd w H x m) (ht : x.l1.n + x.l2.n + x.l3.n ≤ 2000000) (hs : BRd w s zs) (hsn : s.n ≤ 2000000) : Calls Tryz.prog 6 #[.agg #[.int .u16 H.id, .bool H.rs, .int .i64 H.op, .bool H.aa, .bool H.tc, .bool H.rd, .bool H.ra, .bool H.ad, .bool H.cd, .int .i64 H.rc, .slice x.q.a x.q.n x.q.c, .slice x.l1.a x.l1.n x.l1.c, .slice x.l2.a x.l2.n x.l2.c, .slice x.l3.a x.l3.n x.l3.c], .slice s.a s.n s.c] w fun e w' => e = .returned (.bool true) ∧ Hid (Below w.heap.size w w') := by
  have hb0 := newq_below w (.cells #[.int .u16 H.id, .bool H.rs, .int .i64 H.op, .bool H.aa, .bool H.tc, .bool H.rd, .bool H.ra, .bool H.ad, .bool H.cd, .int .i64 H.rc, .slice x.q.a x.q.n x.q.c, .slice x.l1.a x.l1.n x.l1.c, .slice x.l2.a x.l2.n x.l2.c, .slice x.l3.a x.l3.n x.l3.c] 26)
  have HX : Hid ((w.alloc (.cells #[.int .u16 H.id, .bool H.rs, .int .i64 H.op, .bool H.aa, .bool H.tc, .bool H.rd, .bool H.ra, .bool H.ad, .bool H.cd, .int .i64 H.rc, .slice x.q.a x.q.n x.q.c, .slice x.l1.a x.l1.n x.l1.c, .slice x.l2.a x.l2.n x.l2.c, .slice x.l3.a x.l3.n x.l3.c] 26)).heap[w.heap.size]? = some (.cells #[.int .u16 H.id, .bool H.rs, .int .i64 H.op, .bool H.aa, .bool H.tc, .bool H.rd, .bool H.ra, .bool H.ad, .bool H.cd, .int .i64 H.rc, .slice x.q.a x.q.n x.q.c, .slice x.l1.a x.l1.n x.l1.c, .slice x.l2.a x.l2.n x.l2.c, .slice x.l3.a x.l3.n x.l3.c] 26)) := heap_alloc_new _ _
  have HB0 := Lib.hid hb0
  have HM : Hid (MRd (w.alloc (.cells #[.int .u16 H.id, .bool H.rs, .int .i64 H.op, .bool H.aa, .bool H.tc, .bool H.rd, .bool H.ra, .bool H.ad, .bool H.cd, .int .i64 H.rc, .slice x.q.a x.q.n x.q.c, .slice x.l1.a x.l1.n x.l1.c, .slice x.l2.a x.l2.n x.l2.c, .slice x.l3.a x.l3.n x.l3.c] 26)) H x m) := hm.below hb0
  have HS : Hid (BRd (w.alloc (.cells #[.int .u16 H.id, .bool H.rs, .int .i64 H.op, .bool H.aa, .bool H.tc, .bool H.rd, .bool H.ra, .bool H.ad, .bool H.cd, .int .i64 H.rc, .slice x.q.a x.q.n x.q.c, .slice x.l1.a x.l1.n x.l1.c, .slice x.l2.a x.l2.n x.l2.c, .slice x.l3.a x.l3.n x.l3.c] 26)) s zs) := hs.below hb0
  have HHm : Hid (m.h = H) := hm.h
  have HMb : Hid (Mb m) := hm.b
  clear hb0 hm hs
  obtain ⟨sa, sn, sc⟩ := s
  simp only at hsn HS ⊢
  go_enter Tryz.func6, Tryz.ntmps6
  go_wp2_with fail
  generalize w.alloc (.cells #[.int .u16 H.id, .bool H.rs, .int .i64 H.op, .bool H.aa, .bool H.tc, .bool H.rd, .bool H.ra, .bool H.ad, .bool H.cd, .int .i64 H.rc, .slice x.q.a x.q.n x.q.c, .slice x.l1.a x.l1.n x.l1.c, .slice x.l2.a x.l2.n x.l2.c, .slice x.l3.a x.l3.n x.l3.c] 26) = w0 at *
  obtain ⟨b, hbb⟩ : ∃ b, b = w.heap.size := ⟨_, rfl⟩
  rw [← hbb] at HX
  simp only [← hbb]
  clear hbb
  have KM : ∀ W, Below w0.heap.size w0 W → W.cell? ⟨b, 0, none⟩ = some (.int .u16 H.id) ∧ W.cell? ⟨b, 1, none⟩ = some (.bool H.rs) ∧ W.cell? ⟨b, 2, none⟩ = some (.int .i64 H.op) ∧ W.cell? ⟨b, 3, none⟩ = some (.bool H.aa) ∧ W.cell? ⟨b, 4, none⟩ = some (.bool H.tc) ∧ W.cell? ⟨b, 5, none⟩ = some (.bool H.rd) ∧ W.cell? ⟨b, 6, none⟩ = some (.bool H.ra) ∧ W.cell? ⟨b, 7, none⟩ = some (.bool H.ad) ∧ W.cell? ⟨b, 8, none⟩ = some (.bool H.cd) ∧ W.cell? ⟨b, 9, none⟩ = some (.int .i64 H.rc) ∧ W.cell? ⟨b, 10, none⟩ = some (.slice x.q.a x.q.n x.q.c) ∧ W.cell? ⟨b, 11, none⟩ = some (.slice x.l1.a x.l1.n x.l1.c) ∧ W.cell? ⟨b, 12, none⟩ = some (.slice x.l2.a x.l2.n x.l2.c) ∧ W.cell? ⟨b, 13, none⟩ = some (.slice x.l3.a x.l3.n x.l3.c) := fun W hb => by
    have mm := (hb.block b (box_lt HX.out)).trans HX.out
    exact ⟨box_cell mm 0 _ rfl, box_cell mm 1 _ rfl, box_cell mm 2 _ rfl, box_cell mm 3 _ rfl, box_cell mm 4 _ rfl, box_cell mm 5 _ rfl, box_cell mm 6 _ rfl, box_cell mm 7 _ rfl, box_cell mm 8 _ rfl, box_cell mm 9 _ rfl, box_cell mm 10 _ rfl, box_cell mm 11 _ rfl, box_cell mm 12 _ rfl, box_cell mm 13 _ rfl⟩
  have K28 := fun W => Lib.hid (awake10 W)
  go_wp2_with fail
  refine (K28 _).out.mono ?_
  rintro e w1 ⟨rfl, H1⟩
  obtain ⟨k0, k1, k2, k3, k4, k5, k6, k7, k8, k9, k10, k11, k12, k13⟩ := KM w1 H1.out
  have lb : b < w1.heap.size := Nat.lt_of_lt_of_le (box_lt HX.out) (Below.size H1.out)
  have K9 := Lib.hid (largeM H x m w1 (HM.out.below H1.out) ht)
  go_wp2_with fail
  refine K9.out.mono ?_
  rintro e w2 ⟨bl, rfl, H2⟩
  have HB2 : Hid (Below w0.heap.size w0 w2) := H1.out.trans (H2.out.2.mono H1.out.size)
  have HFW := Lib.hid H2.out.1
  clear k0 k1 k2 k3 k4 k5 k6 k7 k8 k9 k10 k11 k12 k13 lb
  clear K9 K28 H1 H2
  obtain ⟨k0, k1, k2, k3, k4, k5, k6, k7, k8, k9, k10, k11, k12, k13⟩ := KM w2 HB2.out
  have lb : b < w2.heap.size := Nat.lt_of_lt_of_le (box_lt HX.out) (Below.size HB2.out)
  cases bl with
  | true =>
    go_wp2
    go_ret
    exact ⟨rfl, HB0.out.trans (HB2.out.mono HB0.out.size)⟩
  | false =>
    by_cases h6 : (300 : Int) < (sn : Int)
    · go_wp2
      go_ret
      exact ⟨rfl, HB0.out.trans (HB2.out.mono HB0.out.size)⟩
    · have HF : Hid (Fin m) := (HFW.out rfl).fin
      have K11 := Lib.hid (bytes_msg H x m w2 (HM.out.below HB2.out) HF.out)
      go_wp2_with fail
      refine K11.out.mono ?_
      rintro e w3 ⟨⟨pa, pn, pc⟩, er, rfl, H3⟩
      have HB3 : Hid (Below w0.heap.size w0 w3) := HB2.out.trans (H3.out.2.mono HB2.out.size)
      have hby := H3.out.1
      unfold ByR at hby
      clear k0 k1 k2 k3 k4 k5 k6 k7 k8 k9 k10 k11 k12 k13 lb
      clear K11 h6 HFW
      have hcase : (er ≠ 0) ∨ (er = 0 ∧ ∃ z : List Int, BRd w3 ⟨pa, pn, pc⟩ z ∧ gmsg z = some m ∧ z.length ≤ 65535 ∧ 12 ≤ z.length) := by
        by_cases hc : chkM m = 0
        · rw [if_pos hc] at hby
          cases hpr : prun (pmsg m) (some ([], [])) with
          | none =>
            rw [hpr] at hby
            exact .inl (by rw [hby.1]; decide)
          | some z1 =>
            rw [hpr] at hby
            have hmb := msg_back (chkM_zero.1 hc) HMb.out (zs := z1.1) (pl := z1.2) hpr
            exact .inr ⟨hby.1, z1.1, hby.2, hmb⟩
        · rw [if_neg hc] at hby
          exact .inl (by rw [hby.1]; exact hc)
      clear hby
      rcases hcase with hne | ⟨h1, z, hz, hzg⟩
      · have hb1 : (er != 0) = true := by simp [hne]
        go_wp2
        go_ret
        exact ⟨rfl, HB0.out.trans (HB3.out.mono HB0.out.size)⟩
      · subst h1
        have HZ := Lib.hid hz
        have HZG := Lib.hid hzg
        obtain ⟨pb, po, hpa, hpl⟩ := hz.adrW (by intro e; rw [e] at hzg; simp at hzg)
        have hpn : z.length = pn := hz.len
        have hpc := hz.cap
        obtain ⟨k, hk⟩ : ∃ k, pn = k + 1 := ⟨pn - 1, by omega⟩
        simp only at hpa hpc
        subst hpa
        subst hk
        have hk12 : 11 ≤ k := by omega
        have hk16 : k ≤ 65535 := by omega
        have HKL : Hid (z.length = k + 1) := hpn
        clear hz hzg hpn
        have n12 : ¬ ((k + 1 : Nat) : Int) < 12 := by omega
        have hsub : ((k + 1 : Nat) : Int) - 1 = (k : Int) := by omega
        have K24 := Lib.hid (mread_none0 ⟨some ⟨pb, po, none⟩, k, pc⟩ (z.take k) w3 (HZ.out.cutE (by omega)) (show k ≤ 140737488355328 by omega) (cut_none HZG.out.1 k (by rw [HKL.out]; omega)))
        simp only [zeroM] at K24
        go_wp2_with fail
        refine K24.out.mono ?_
        rintro e w4 ⟨rfl, H4⟩
        have HB5 : Hid (Below w3.heap.size w3 (w4.alloc (.cells #[.int .u16 0, .bool false, .int .i64 0, .bool false, .bool false, .bool false, .bool false, .bool false, .bool false, .int .i64 0, .slice none 0 0, .slice none 0 0, .slice none 0 0, .slice none 0 0] 26))) := H4.out.trans ((newq_below _ _).mono H4.out.size)
        clear K24 H4
        go_upto_region 8 with fail
        generalize w4.alloc (.cells #[.int .u16 0, .bool false, .int .i64 0, .bool false, .bool false, .bool false, .bool false, .bool false, .bool false, .int .i64 0, .slice none 0 0, .slice none 0 0, .slice none 0 0, .slice none 0 0] 26) = w5 at *
        have HC : Hid (Calls Tryz.prog 29 #[.slice (some ⟨pb, po, none⟩) (k + 1) pc] w5 fun e w' => ∃ v ys, e = .returned v ∧ Hid (Own w5.heap.size w' v (k + 1) ys ∧ ys.take (k + 1) = z ∧ Below w5.heap.size w5 w')) := by
          have h := copy_any (some ⟨pb, po, none⟩) pc z w5 (HZ.out.below HB5.out).rd (by simp) (by rw [HKL.out]; omega)
          rw [HKL.out] at h
          refine h.mono ?_
          rintro e w' ⟨v, ys, h1, h2, h3, h4⟩
          exact ⟨v, ys, h1, h2, h3, h4⟩
        have HB35 : Hid (Below w0.heap.size w0 w5) := HB3.out.trans (HB5.out.mono HB3.out.size)
        go_wp2_with fail
        refine HC.out.mono ?_
        rintro e w6 ⟨v6, ys6, rfl, H6⟩
        have HB6 : Hid (Below w0.heap.size w0 w6) := HB35.out.trans (H6.out.2.2.mono HB35.out.size)
        have HRM : Hid (Rd w6 sa zs) := (HS.out.below HB6.out).rd
        have hzl : zs.length = sn := HS.out.len
        have HSZ : Hid (w5.heap.size ≤ w6.heap.size) := H6.out.2.2.size
        clear HC
        go_wp2_with (at_builtin; refine wpList_append_fitB _ rfl _ _ rfl w5.heap.size v6 (k + 1) ys6 rfl H6.out.1 sa sn sc zs rfl HRM.out hzl (by omega) HSZ.out ?_; intro v7 w7 ys7 h1 h2 h3 h4; have HB7 : Hid (Below w0.heap.size w0 w7) := HB6.out.grown h3 HB6.out.size (fun g e => by have := H6.out.1.lt g e; have := HB35.out.size; omega); clear h3 h4)
        obtain ⟨a7, c7, hv7, hb7⟩ := ownW_brd h1.out (h2.out.trans (by rw [H6.out.2.1]))
        subst hv7
        have HV7 : Hid (BRd w7 ⟨a7, k + 1 + sn, c7⟩ (z ++ zs)) := hb7
        clear h1 h2 hb7 H6
        by_cases hs0 : sn = 0
        · subst hs0
          have hzs : zs = [] := List.length_eq_zero_iff.1 HS.out.len
          have HV8 : Hid (BRd w7 ⟨a7, k + 1 + 0, c7⟩ z) := (show BRd w7 ⟨a7, k + 1 + 0, c7⟩ z by have := HV7.out; rw [hzs, List.append_nil] at this; exact this)
          have K25 := Lib.hid (mread_some ⟨a7, k + 1 + 0, c7⟩ z w7 HV8.out (show 1 ≤ k + 1 + 0 by omega) (show k + 1 + 0 ≤ 140737488355328 by omega) m HZG.out.1)
          rw [HHm.out] at K25
          simp only [Nat.add_zero] at K25
          clear hzs
          go_wp2_with fail
          refine K25.out.mono ?_
          rintro e w8 ⟨x7, rfl, H8⟩
          have nb := newq_below w8 (.cells #[.int .u16 H.id, .bool H.rs, .int .i64 H.op, .bool H.aa, .bool H.tc, .bool H.rd, .bool H.ra, .bool H.ad, .bool H.cd, .int .i64 H.rc, .slice x7.q.a x7.q.n x7.q.c, .slice x7.l1.a x7.l1.n x7.l1.c, .slice x7.l2.a x7.l2.n x7.l2.c, .slice x7.l3.a x7.l3.n x7.l3.c] 26)
          have nx : (w8.alloc (.cells #[.int .u16 H.id, .bool H.rs, .int .i64 H.op, .bool H.aa, .bool H.tc, .bool H.rd, .bool H.ra, .bool H.ad, .bool H.cd, .int .i64 H.rc, .slice x7.q.a x7.q.n x7.q.c, .slice x7.l1.a x7.l1.n x7.l1.c, .slice x7.l2.a x7.l2.n x7.l2.c, .slice x7.l3.a x7.l3.n x7.l3.c] 26)).heap[w8.heap.size]? = some (.cells #[.int .u16 H.id, .bool H.rs, .int .i64 H.op, .bool H.aa, .bool H.tc, .bool H.rd, .bool H.ra, .bool H.ad, .bool H.cd, .int .i64 H.rc, .slice x7.q.a x7.q.n x7.q.c, .slice x7.l1.a x7.l1.n x7.l1.c, .slice x7.l2.a x7.l2.n x7.l2.c, .slice x7.l3.a x7.l3.n x7.l3.c] 26) := heap_alloc_new _ _
          have HB8 : Hid (Below w0.heap.size w0 (w8.alloc (.cells #[.int .u16 H.id, .bool H.rs, .int .i64 H.op, .bool H.aa, .bool H.tc, .bool H.rd, .bool H.ra, .bool H.ad, .bool H.cd, .int .i64 H.rc, .slice x7.q.a x7.q.n x7.q.c, .slice x7.l1.a x7.l1.n x7.l1.c, .slice x7.l2.a x7.l2.n x7.l2.c, .slice x7.l3.a x7.l3.n x7.l3.c] 26))) := (HB7.out.trans (H8.out.2.2.mono HB7.out.size)).trans (nb.mono (Nat.le_trans HB7.out.size H8.out.2.2.size))
          have M7 : Hid (MRd (w8.alloc (.cells #[.int .u16 H.id, .bool H.rs, .int .i64 H.op, .bool H.aa, .bool H.tc, .bool H.rd, .bool H.ra, .bool H.ad, .bool H.cd, .int .i64 H.rc, .slice x7.q.a x7.q.n x7.q.c, .slice x7.l1.a x7.l1.n x7.l1.c, .slice x7.l2.a x7.l2.n x7.l2.c, .slice x7.l3.a x7.l3.n x7.l3.c] 26)) H x7 m) := H8.out.2.1.below nb
          have X7 := Lib.hid nx
          clear nb nx K25
          go_upto_region 9 with fail
          generalize w8.alloc (.cells #[.int .u16 H.id, .bool H.rs, .int .i64 H.op, .bool H.aa, .bool H.tc, .bool H.rd, .bool H.ra, .bool H.ad, .bool H.cd, .int .i64 H.rc, .slice x7.q.a x7.q.n x7.q.c, .slice x7.l1.a x7.l1.n x7.l1.c, .slice x7.l2.a x7.l2.n x7.l2.c, .slice x7.l3.a x7.l3.n x7.l3.c] 26) = w9 at *
          obtain ⟨q, hq⟩ : ∃ q, q = w8.heap.size := ⟨_, rfl⟩
          rw [← hq] at X7
          simp only [← hq]
          clear hq
          have i0 := box_cell X7.out 0 _ rfl; have i1 := box_cell X7.out 1 _ rfl; have i2 := box_cell X7.out 2 _ rfl; have i3 := box_cell X7.out 3 _ rfl; have i4 := box_cell X7.out 4 _ rfl; have i5 := box_cell X7.out 5 _ rfl; have i6 := box_cell X7.out 6 _ rfl; have i7 := box_cell X7.out 7 _ rfl; have i8 := box_cell X7.out 8 _ rfl; have i9 := box_cell X7.out 9 _ rfl; have i10 := box_cell X7.out 10 _ rfl; have i11 := box_cell X7.out 11 _ rfl; have i12 := box_cell X7.out 12 _ rfl; have i13 := box_cell X7.out 13 _ rfl; have il := box_lt X7.out
          obtain ⟨k0, k1, k2, k3, k4, k5, k6, k7, k8, k9, k10, k11, k12, k13⟩ := KM w9 HB8.out
          have lb : b < w9.heap.size := Nat.lt_of_lt_of_le (box_lt HX.out) (Below.size HB8.out)
          have K20 := Lib.hid (same_msg H x7 x m w9 M7.out (HM.out.below HB8.out))
          go_wp2_with fail
          refine K20.out.mono ?_
          rintro e w10 ⟨rfl, H10⟩
          have HB10 : Hid (Below w0.heap.size w0 w10) := HB8.out.trans (H10.out.mono HB8.out.size)
          go_wp2
          go_ret
          exact ⟨rfl, HB0.out.trans (HB10.out.mono HB0.out.size)⟩
        · have hz0 : zs ≠ [] := by intro e; have := HS.out.len; rw [e] at this; simp only [List.length_nil] at this; omega
          have K25 := Lib.hid (mread_none0 ⟨a7, k + 1 + sn, c7⟩ (z ++ zs) w7 HV7.out (show k + 1 + sn ≤ 140737488355328 by omega) (msg_more HZG.out.1 hz0))
          simp only [zeroM] at K25
          have hb0 : ((sn : Int) == 0) = false := by simp; omega
          have hb00 : ¬ (sn : Int) = 0 := by omega
          clear hz0
          go_wp2_with fail
          refine K25.out.mono ?_
          rintro e w8 ⟨rfl, H8⟩
          have HB8 : Hid (Below w0.heap.size w0 (w8.alloc (.cells #[.int .u16 0, .bool false, .int .i64 0, .bool false, .bool false, .bool false, .bool false, .bool false, .bool false, .int .i64 0, .slice none 0 0, .slice none 0 0, .slice none 0 0, .slice none 0 0] 26))) := (HB7.out.trans (H8.out.mono HB7.out.size)).trans ((newq_below _ _).mono (Nat.le_trans HB7.out.size H8.out.size))
          go_wp2
          go_ret
          exact ⟨rfl, HB0.out.trans (HB8.out.mono HB0.out.size)⟩
end Go.Proofs.YteplffhfeoephaaGreat
namespace Go.Proofs.YteplffhfeoephaaGreat
open Go.ChangeShapes Go.WideShapes Go.ChangeAt Go.RowKit Go.Maps
theorem wholePlain (H : Hd) (x : MA) (m : Mg) (s : Sl) (zs : List Int) (w : World) (hm : MRd w H x m) (ht : x.l1.n + x.l2.n + x.l3.n ≤ 2000000) (hs : BRd w s zs) (hsn : s.n ≤ 2000000) : Calls Tryz.prog 6 #[.agg #[.int .u16 H.id, .bool H.rs, .int .i64 H.op, .bool H.aa, .bool H.tc, .bool H.rd, .bool H.ra, .bool H.ad, .bool H.cd, .int .i64 H.rc, .slice x.q.a x.q.n x.q.c, .slice x.l1.a x.l1.n x.l1.c, .slice x.l2.a x.l2.n x.l2.c, .slice x.l3.a x.l3.n x.l3.c], .slice s.a s.n s.c] w fun e w' => e = .returned (.bool true) ∧ Below w.heap.size w w' := by
  refine (wholeM H x m s zs w hm ht hs hsn).mono ?_
  rintro e w' ⟨h1, h2⟩
  exact ⟨h1, h2.out⟩
end Go.Proofs.YteplffhfeoephaaGreat
namespace Go.Proofs.YteplffhfeoephaaGreat
open Go.ChangeShapes Go.WideShapes Go.ChangeAt Go.RowKit Go.Deep Go.Maps
set_option linter.unusedVariables false
set_option linter.unusedSimpArgs false
set_option maxRecDepth 100000
variable {H : Type} {enc : TypeId × Value → H} {W : World}
theorem bulk_pos (d : DataW H) : 1 ≤ Rows.uptoBulk d := by
  cases d with
  | lit l => cases l <;> simp [Rows.uptoBulk]
  | _ => simp [Rows.uptoBulk]
theorem bulk_len : ∀ l : List (DataW H), l.length ≤ Rows.uptoBulkAll l
  | [] => by simp [Rows.uptoBulkAll]
  | d :: l => by
    have h1 := bulk_len l
    have h2 := bulk_pos d
    simp only [Rows.uptoBulkAll, List.length_cons]
    omega
theorem bulk_slice {t e : TypeId} {a : Option Addr} {len cap fuel : Nat} {x : DataW H × List MemPlace} (ht : Tryz.prog.underlying t = some (.slice e)) (hf : DataW.trod enc Tryz.prog W 0 (fun _ => true) true fuel t [Value.slice a len cap] = some x) : len ≤ Rows.uptoBulk x.1 := by
  rcases DataW.trod_slice ht hf with ⟨hcs, _⟩ | ⟨x', l, c, elems, rest, n, _, hcs, hx, _, hl, hm, hel, hcell, _⟩
  · simp at hcs
    omega
  · simp at hcs
    obtain ⟨_, rfl, _⟩ := hcs
    rw [hx]
    have := bulk_len (elems.map (·.1))
    simp only [Rows.uptoBulk, List.length_map] at this ⊢
    omega
theorem list14 {α : Type} {l : List α} (h : l.length = 14) : ∃ v0 v1 v2 v3 v4 v5 v6 v7 v8 v9 v10 v11 v12 v13, l = [v0, v1, v2, v3, v4, v5, v6, v7, v8, v9, v10, v11, v12, v13] := by
  match l, h with
  | [v0, v1, v2, v3, v4, v5, v6, v7, v8, v9, v10, v11, v12, v13], _ => exact ⟨v0, v1, v2, v3, v4, v5, v6, v7, v8, v9, v10, v11, v12, v13, rfl⟩
theorem cells24 : Tryz.prog.cellsOf 24 = 1 := by kernel_rfl
theorem bulk_message {fuel : Nat} {d : DataW H} {p : List MemPlace} {v0 v1 v2 v3 v4 v5 v6 v7 v8 v9 v10 : Value} {a1 a2 a3 : Option Addr} {n1 n2 n3 c1 c2 c3 : Nat} (h : DataW.trod enc Tryz.prog W 0 (fun _ => true) true fuel 26 [v0, v1, v2, v3, v4, v5, v6, v7, v8, v9, v10, .slice a1 n1 c1, .slice a2 n2 c2, .slice a3 n3 c3] = some (d, p)) : n1 + n2 + n3 ≤ Rows.uptoBulk d := by
  obtain ⟨xs, n, _, hx, _, hlen, hall⟩ := DataW.trod_struct Tryz.underlying26 h
  have e1 := hall 11 _ rfl
  have e2 := hall 12 _ rfl
  have e3 := hall 13 _ rfl
  obtain ⟨y0, y1, y2, y3, y4, y5, y6, y7, y8, y9, y10, y11, y12, y13, rfl⟩ := list14 (hlen.trans rfl)
  replace e1 : DataW.trod enc Tryz.prog W 0 (fun _ => true) true n 24 (List.take (Tryz.prog.cellsOf 24) [.slice a1 n1 c1, .slice a2 n2 c2, .slice a3 n3 c3]) = some y11 := e1
  replace e2 : DataW.trod enc Tryz.prog W 0 (fun _ => true) true n 24 (List.take (Tryz.prog.cellsOf 24) [.slice a2 n2 c2, .slice a3 n3 c3]) = some y12 := e2
  replace e3 : DataW.trod enc Tryz.prog W 0 (fun _ => true) true n 24 (List.take (Tryz.prog.cellsOf 24) [.slice a3 n3 c3]) = some y13 := e3
  rw [cells24] at e1 e2 e3
  have b1 := bulk_slice Tryz.underlying24 (show DataW.trod enc Tryz.prog W 0 (fun _ => true) true n 24 [.slice a1 n1 c1] = some y11 from e1)
  have b2 := bulk_slice Tryz.underlying24 (show DataW.trod enc Tryz.prog W 0 (fun _ => true) true n 24 [.slice a2 n2 c2] = some y12 from e2)
  have b3 := bulk_slice Tryz.underlying24 (show DataW.trod enc Tryz.prog W 0 (fun _ => true) true n 24 [.slice a3 n3 c3] = some y13 from e3)
  have hd : d = .agg [y0.1, y1.1, y2.1, y3.1, y4.1, y5.1, y6.1, y7.1, y8.1, y9.1, y10.1, y11.1, y12.1, y13.1] := congrArg (·.1) hx
  rw [hd]
  simp only [Rows.uptoBulk, Rows.uptoBulkAll]
  omega
theorem open_messageB {base : Nat} {v : Value} {d : DataW H} {p : List MemPlace} (hv : Value.okWide Tryz.prog W .any base 26 v) (h : DataW.Trod enc Tryz.prog W 0 (fun _ => true) true 26 v d p) : ∃ (HH : Hd) (x : MA) (m : Mg), v = .agg #[.int .u16 HH.id, .bool HH.rs, .int .i64 HH.op, .bool HH.aa, .bool HH.tc, .bool HH.rd, .bool HH.ra, .bool HH.ad, .bool HH.cd, .int .i64 HH.rc, .slice x.q.a x.q.n x.q.c, .slice x.l1.a x.l1.n x.l1.c, .slice x.l2.a x.l2.n x.l2.c, .slice x.l3.a x.l3.n x.l3.c] ∧ MRd W HH x m ∧ x.l1.n + x.l2.n + x.l3.n ≤ Rows.uptoBulk d := by
  obtain ⟨HH, x, m, rfl, hm⟩ := open_message hv h
  obtain ⟨fuel, hf⟩ := h
  exact ⟨HH, x, m, rfl, hm, bulk_message hf⟩
theorem open_bytesB {a : Option Addr} {len cap : Nat} {d : DataW H} {p : List MemPlace} (h : DataW.Trod enc Tryz.prog W 0 (fun _ => true) true 29 (.slice a len cap) d p) : ∃ zs, BRd W ⟨a, len, cap⟩ zs ∧ len ≤ Rows.uptoBulk d := by
  obtain ⟨fuel, hf⟩ := h
  obtain ⟨zs, hz⟩ := open_bytesD hf
  exact ⟨zs, hz, bulk_slice Tryz.underlying29 hf⟩
end Go.Proofs.YteplffhfeoephaaGreat
