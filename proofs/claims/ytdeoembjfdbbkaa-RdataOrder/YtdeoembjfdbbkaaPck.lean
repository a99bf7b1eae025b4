/- Texts laid together: Bw Ow. -/
import Derived.Test.YtdeoembjfdbbkaaPcj
import Derived.Deep.CutBlock
/- The walk of the statement on the way back of data. -/
namespace Go.Proofs.Ytdeoembjfdbbkaa
open Go.ChangeShapes Go.WideShapes Go.ChangeAt Go.RowKit
set_option linter.unusedVariables false
set_option linter.unusedSimpArgs false

theorem wlen {t : Nat} {d : Dat} (hck : checkF t d = 0) : (writeF t d).length ≤ 65535 := by
  obtain ⟨hm, hf, hnk, hsz⟩ := check_parts hck
  have hwr := wrt_of hck
  obtain ⟨hq1, hq2, hq3, hq4, hq5, hq6⟩ := wr_eq t d hf
  rw [← hq6]
  have h1 := hwr.sz
  rw [hq1, ← hq4] at h1
  have h2 : (ptB (d.ts.length - (fs t).tl) d.ts).length = (tsB t d.ts).length := by
    have e1 := congrArg List.length hq6
    unfold writeF at e1
    by_cases h6 : t = 6
    · obtain ⟨_, e2, e3⟩ := hwr.soa h6
      rw [e2]; simp [ptB, tsB, nby]
    · rw [if_neg h6, hq1, hq4] at e1
      simp only [List.length_append] at e1
      omega
  simp only [List.length_append] at h1 ⊢
  omega
theorem readF_bd {t : Nat} {zs : List Int} (hb : ∀ z ∈ zs, 0 ≤ z ∧ z ≤ 255) (h : (readF t zs).2 = 0) : Bd (readF t zs).1 := by
  obtain ⟨h1, h2, h3⟩ := readF_ok h
  have hm := (check_parts h1).1
  have e := readF_at t zs hb hm h3
  by_cases c1 : (pread (fs t) zs zs.length).2 = some zs.length
  · by_cases c2 : checkF t (pread (fs t) zs zs.length).1 = 0
    · rw [if_pos c1, if_pos c2] at e
      rw [e]
      exact pread_bd t zs h3
    · rw [if_pos c1, if_neg c2] at e
      rw [e] at h; cases h
  · rw [if_neg c1] at e
    rw [e] at h; cases h
/-- Where the walk stands: the data's box, the data, the bytes can be read. -/
structure BS (w W : World) (b : Nat) (x : DA) (d : Dat) (a : Option Addr) (zs : List Int) : Prop where
  blk : DBlk W b x
  rd : DRd W x d
  bs : Rd W a zs
  bel : Below w.heap.size w W
theorem BS.go {w W W' : World} {b : Nat} {x : DA} {d : Dat} {a : Option Addr} {zs : List Int} (h : BS w W b x d a zs) (hb : Below W.heap.size W W') : BS w W' b x d a zs :=
  ⟨h.blk.same (hb.block b h.blk.lt), h.rd.below hb, h.bs.below hb, h.bel.trans (hb.mono h.bel.size)⟩
set_option maxRecDepth 100000 in
set_option maxHeartbeats 8000000 in
theorem back_any (t : Nat) (x : DA) (d : Dat) (a : Option Addr) (len cap : Nat) (zs : List Int) (w : World) (h : DRd w x d) (hb : BRd w ⟨a, len, cap⟩ zs) :
    Calls Try.prog 5 #[.int .u16 t, .agg #[.slice x.p1.a x.p1.n x.p1.c, .slice x.p2.a x.p2.n x.p2.c, .slice x.p3.a x.p3.n x.p3.c, .slice x.p4.a x.p4.n x.p4.c], .slice a len cap] w fun e w' => e = .returned (.bool true) ∧ Below w.heap.size w w' := by
  have hl : zs.length = len := hb.len
  have hc : len ≤ cap ∧ cap ≤ 9223372036854775807 := hb.cap
  have hnil : a = none → cap = 0 := hb.nil
  have hbd := hb.rd.2
  have HS1 : Hid (BS w (w.alloc (.cells #[.slice x.p1.a x.p1.n x.p1.c, .slice x.p2.a x.p2.n x.p2.c, .slice x.p3.a x.p3.n x.p3.c, .slice x.p4.a x.p4.n x.p4.c] 29)) w.heap.size x d a zs) := ⟨heap_alloc_new _ _, h.below (new_below _ _), hb.rd.below (new_below _ _), new_below _ _⟩
  have KA : Hid (∀ W, Calls Try.prog 31 #[] W fun e w' => e = .returned (.bool true) ∧ Hid (Below W.heap.size W w')) := awake_any
  have KL : Hid (∀ W, DRd W x d → Calls Try.prog 8 #[.agg #[.slice x.p1.a x.p1.n x.p1.c, .slice x.p2.a x.p2.n x.p2.c, .slice x.p3.a x.p3.n x.p3.c, .slice x.p4.a x.p4.n x.p4.c]] W (LgPost d W)) := fun W hW => large_any x d W hW
  have KB : Hid (Small d → ∀ W, DRd W x d → Calls Try.prog 10 #[.int .u16 t, .agg #[.slice x.p1.a x.p1.n x.p1.c, .slice x.p2.a x.p2.n x.p2.c, .slice x.p3.a x.p3.n x.p3.c, .slice x.p4.a x.p4.n x.p4.c]] W (fun e w' => ∃ (s : Sl), e = .returned (.tuple #[.slice s.a s.n s.c, .int .i64 (checkF t d)]) ∧ Hid (s.n ≤ s.c ∧ s.c ≤ 9223372036854775807 ∧ (s.a = none → s.c = 0) ∧ (checkF t d = 0 → s.n = (writeF t d).length ∧ Rd w' s.a (writeF t d)) ∧ (checkF t d ≠ 0 → s = ⟨none, 0, 0⟩) ∧ Below W.heap.size W w'))) := fun hs W hW => bytes5_any t x d W hW hs.bd
  have KC : Hid (Small d → ∀ W, DRd W x d → Calls Try.prog 13 #[.int .u16 t, .agg #[.slice x.p1.a x.p1.n x.p1.c, .slice x.p2.a x.p2.n x.p2.c, .slice x.p3.a x.p3.n x.p3.c, .slice x.p4.a x.p4.n x.p4.c]] W fun e w' => e = .returned (.int .i64 (checkF t d)) ∧ Hid (Below W.heap.size W w')) := fun hs W hW => check_any t x d W hW hs.bd
  have KR : Hid (∀ W, Rd W a zs → Calls Try.prog 27 #[.int .u16 t, .slice a len cap] W (RdP (readF t zs) W)) := fun W hW => read5_any t a len cap zs W hW hl hc hnil
  have KRW : Hid (checkF t d = 0 → ∀ W (s : Sl), s.n = (writeF t d).length → Rd W s.a (writeF t d) → s.n ≤ s.c → s.c ≤ 9223372036854775807 → (s.a = none → s.c = 0) → Calls Try.prog 27 #[.int .u16 t, .slice s.a s.n s.c] W (RdP (d, 0) W)) := by
    intro hck W s h1 h2 h3 h4 h5
    have := read5_any t s.a s.n s.c (writeF t d) W h2 h1.symm ⟨h3, h4⟩ h5
    rw [readF_write t d _ hck rfl (wlen hck)] at this
    exact this
  have HRR : Hid ((readF t zs).2 ≠ 0 → (readF t zs).2 = 8 ∨ (readF t zs).2 = 6) := readF_fail
  have HBB : Hid ((readF t zs).2 = 0 → ∀ W y, DRd W y (readF t zs).1 → Calls Try.prog 10 #[.int .u16 t, .agg #[.slice y.p1.a y.p1.n y.p1.c, .slice y.p2.a y.p2.n y.p2.c, .slice y.p3.a y.p3.n y.p3.c, .slice y.p4.a y.p4.n y.p4.c]] W (fun e w' => ∃ (s : Sl), e = .returned (.tuple #[.slice s.a s.n s.c, .int .i64 0]) ∧ Hid (s.n = len ∧ Rd w' s.a zs ∧ Below W.heap.size W w'))) := by
    intro h0 W y hy
    obtain ⟨h1, h2, h3⟩ := readF_ok h0
    have := bytes5_any t y _ W hy (readF_bd hbd h0)
    rw [h1, h2] at this
    refine Calls.mono this ?_
    rintro e w' ⟨s, rfl, H⟩
    obtain ⟨_, _, _, q4, _, q6⟩ := H.out
    exact ⟨s, rfl, by rw [(q4 rfl).1, hl], (q4 rfl).2, q6⟩
  have KS : Hid (∀ W y, DRd W y d → DRd W x d → Calls Try.prog 17 #[.agg #[.slice y.p1.a y.p1.n y.p1.c, .slice y.p2.a y.p2.n y.p2.c, .slice y.p3.a y.p3.n y.p3.c, .slice y.p4.a y.p4.n y.p4.c], .agg #[.slice x.p1.a x.p1.n x.p1.c, .slice x.p2.a x.p2.n x.p2.c, .slice x.p3.a x.p3.n x.p3.c, .slice x.p4.a x.p4.n x.p4.c]] W fun e w' => e = .returned (.bool true) ∧ Hid (Below W.heap.size W w')) := fun W y h1 h2 => samedata_yes y x d W h1 h2
  have KSB : Hid (∀ W (s : Sl), s.n = len → Rd W s.a zs → Rd W a zs → Calls Try.prog 12 #[.slice s.a s.n s.c, .slice a len cap] W fun e w' => e = .returned (.bool true) ∧ w' = W) := by
    intro W s h1 h2 h3
    rw [h1]
    exact same_yes s.a a len s.c cap zs W h2 h3 hl
  clear h hb hbd hnil hl
  generalize writeF t d = WD at *
  generalize checkF t d = C at *
  generalize readF t zs = RR at *
  obtain ⟨rd, rc⟩ := RR
  simp only at HRR HBB KR
  go_enter Try.func5, Try.ntmps5
  go_upto_region 1 with fail
  generalize (w.alloc (.cells #[.slice x.p1.a x.p1.n x.p1.c, .slice x.p2.a x.p2.n x.p2.c, .slice x.p3.a x.p3.n x.p3.c, .slice x.p4.a x.p4.n x.p4.c] 29)) = W1 at *
  obtain ⟨b, hb⟩ : ∃ b, b = w.heap.size := ⟨_, rfl⟩
  rw [← hb] at HS1 ⊢
  have Hb : Hid (b = w.heap.size) := hb
  clear hb
  go_wp2_with fail
  refine (KA.out _).mono ?_
  rintro e W2 ⟨rfl, H2⟩
  have HS2 : Hid (BS w W2 b x d a zs) := HS1.out.go H2.out
  clear HS1 H2 KA
  have c0 : W2.cell? ⟨b, 0, none⟩ = some (.slice x.p1.a x.p1.n x.p1.c) := HS2.out.blk.box.1
  have c1 : W2.cell? ⟨b, 1, none⟩ = some (.slice x.p2.a x.p2.n x.p2.c) := HS2.out.blk.box.2.1
  have c2 : W2.cell? ⟨b, 2, none⟩ = some (.slice x.p3.a x.p3.n x.p3.c) := HS2.out.blk.box.2.2.1
  have c3 : W2.cell? ⟨b, 3, none⟩ = some (.slice x.p4.a x.p4.n x.p4.c) := HS2.out.blk.box.2.2.2.1
  have hbl := HS2.out.blk.lt
  go_wp2_with fail
  refine (KL.out _ HS2.out.rd).mono ?_
  rintro e W3 ⟨bl, rfl, hsm, hb3⟩
  have HS3 : Hid (BS w W3 b x d a zs) := HS2.out.go hb3
  clear HS2 KL c0 c1 c2 c3 hb3 hbl
  cases bl with
  | true =>
    clear hsm
    go_wp2_with fail
    go_ret
    exact ⟨rfl, HS3.out.bel⟩
  | false =>
    have hs := hsm rfl
    have KB2 := KB.out hs
    have KC2 := KC.out hs
    have HKB : Hid (∀ W, DRd W x d → Calls Try.prog 10 #[.int .u16 t, .agg #[.slice x.p1.a x.p1.n x.p1.c, .slice x.p2.a x.p2.n x.p2.c, .slice x.p3.a x.p3.n x.p3.c, .slice x.p4.a x.p4.n x.p4.c]] W (fun e w' => ∃ (s : Sl), e = .returned (.tuple #[.slice s.a s.n s.c, .int .i64 C]) ∧ Hid (s.n ≤ s.c ∧ s.c ≤ 9223372036854775807 ∧ (s.a = none → s.c = 0) ∧ (C = 0 → s.n = WD.length ∧ Rd w' s.a WD) ∧ (C ≠ 0 → s = ⟨none, 0, 0⟩) ∧ Below W.heap.size W w'))) := KB2
    have HKC : Hid (∀ W, DRd W x d → Calls Try.prog 13 #[.int .u16 t, .agg #[.slice x.p1.a x.p1.n x.p1.c, .slice x.p2.a x.p2.n x.p2.c, .slice x.p3.a x.p3.n x.p3.c, .slice x.p4.a x.p4.n x.p4.c]] W fun e w' => e = .returned (.int .i64 C) ∧ Hid (Below W.heap.size W w')) := KC2
    clear KB KC KB2 KC2 hsm hs
    by_cases hgt : (2000 : Int) < (len : Int)
    · go_wp2_with fail
      go_ret
      exact ⟨rfl, HS3.out.bel⟩
    · go_upto_region 4 with fail
      have c0 : W3.cell? ⟨b, 0, none⟩ = some (.slice x.p1.a x.p1.n x.p1.c) := HS3.out.blk.box.1
      have c1 : W3.cell? ⟨b, 1, none⟩ = some (.slice x.p2.a x.p2.n x.p2.c) := HS3.out.blk.box.2.1
      have c2 : W3.cell? ⟨b, 2, none⟩ = some (.slice x.p3.a x.p3.n x.p3.c) := HS3.out.blk.box.2.2.1
      have c3 : W3.cell? ⟨b, 3, none⟩ = some (.slice x.p4.a x.p4.n x.p4.c) := HS3.out.blk.box.2.2.2.1
      have hbl := HS3.out.blk.lt
      go_wp2_with fail
      refine (HKB.out _ HS3.out.rd).mono ?_
      rintro e W4 ⟨s, rfl, H4⟩
      have HS4 : Hid (BS w W4 b x d a zs) := HS3.out.go H4.out.2.2.2.2.2
      clear HS3 HKB c0 c1 c2 c3 hbl
      have c0 : W4.cell? ⟨b, 0, none⟩ = some (.slice x.p1.a x.p1.n x.p1.c) := HS4.out.blk.box.1
      have c1 : W4.cell? ⟨b, 1, none⟩ = some (.slice x.p2.a x.p2.n x.p2.c) := HS4.out.blk.box.2.1
      have c2 : W4.cell? ⟨b, 2, none⟩ = some (.slice x.p3.a x.p3.n x.p3.c) := HS4.out.blk.box.2.2.1
      have c3 : W4.cell? ⟨b, 3, none⟩ = some (.slice x.p4.a x.p4.n x.p4.c) := HS4.out.blk.box.2.2.2.1
      have hbl := HS4.out.blk.lt
      go_wp2_with fail
      refine (HKC.out _ HS4.out.rd).mono ?_
      rintro e W5 ⟨rfl, H5⟩
      have HS5 : Hid (BS w W5 b x d a zs) := HS4.out.go H5.out
      have HW5 : Hid (C = 0 → s.n = WD.length ∧ Rd W5 s.a WD) := fun hc => ⟨(H4.out.2.2.2.1 hc).1, (H4.out.2.2.2.1 hc).2.below H5.out⟩
      have HV5 : Hid (s.n ≤ s.c ∧ s.c ≤ 9223372036854775807 ∧ (s.a = none → s.c = 0)) := ⟨H4.out.1, H4.out.2.1, H4.out.2.2.1⟩
      clear HS4 H4 H5 HKC c0 c1 c2 c3 hbl
      by_cases hC : C = 0
      · have hCb : (C == 0) = true := by simp [hC]
        have K8 : Hid (Calls Try.prog 27 #[.int .u16 t, .slice s.a s.n s.c] W5 (RdP (d, 0) W5)) := KRW.out hC W5 s (HW5.out hC).1 (HW5.out hC).2 HV5.out.1 HV5.out.2.1 HV5.out.2.2
        clear HW5 HV5 KRW
        have HC0 : Hid (C = 0) := hC
        subst hC
        go_wp2_with fail
        refine K8.out.mono ?_
        rintro e W6 ⟨z, rfl, H6⟩
        clear K8
        have hnz := new_below W6 (.cells #[.slice z.p1.a z.p1.n z.p1.c, .slice z.p2.a z.p2.n z.p2.c, .slice z.p3.a z.p3.n z.p3.c, .slice z.p4.a z.p4.n z.p4.c] 29)
        have HS7 : Hid (BS w (W6.alloc (.cells #[.slice z.p1.a z.p1.n z.p1.c, .slice z.p2.a z.p2.n z.p2.c, .slice z.p3.a z.p3.n z.p3.c, .slice z.p4.a z.p4.n z.p4.c] 29)) b x d a zs ∧ DBlk (W6.alloc (.cells #[.slice z.p1.a z.p1.n z.p1.c, .slice z.p2.a z.p2.n z.p2.c, .slice z.p3.a z.p3.n z.p3.c, .slice z.p4.a z.p4.n z.p4.c] 29)) W6.heap.size z ∧ DRd (W6.alloc (.cells #[.slice z.p1.a z.p1.n z.p1.c, .slice z.p2.a z.p2.n z.p2.c, .slice z.p3.a z.p3.n z.p3.c, .slice z.p4.a z.p4.n z.p4.c] 29)) z d) := ⟨(HS5.out.go H6.out.2).go hnz, heap_alloc_new _ _, H6.out.1.rd.below hnz⟩
        clear hnz H6 HS5
        go_upto_region 9 with fail
        generalize W6.alloc (.cells #[.slice z.p1.a z.p1.n z.p1.c, .slice z.p2.a z.p2.n z.p2.c, .slice z.p3.a z.p3.n z.p3.c, .slice z.p4.a z.p4.n z.p4.c] 29) = W7 at *
        generalize W6.heap.size = D7 at *
        have c0 : W7.cell? ⟨b, 0, none⟩ = some (.slice x.p1.a x.p1.n x.p1.c) := HS7.out.1.blk.box.1
        have c1 : W7.cell? ⟨b, 1, none⟩ = some (.slice x.p2.a x.p2.n x.p2.c) := HS7.out.1.blk.box.2.1
        have c2 : W7.cell? ⟨b, 2, none⟩ = some (.slice x.p3.a x.p3.n x.p3.c) := HS7.out.1.blk.box.2.2.1
        have c3 : W7.cell? ⟨b, 3, none⟩ = some (.slice x.p4.a x.p4.n x.p4.c) := HS7.out.1.blk.box.2.2.2.1
        have k0 : W7.cell? ⟨D7, 0, none⟩ = some (.slice z.p1.a z.p1.n z.p1.c) := HS7.out.2.1.box.1
        have k1 : W7.cell? ⟨D7, 1, none⟩ = some (.slice z.p2.a z.p2.n z.p2.c) := HS7.out.2.1.box.2.1
        have k2 : W7.cell? ⟨D7, 2, none⟩ = some (.slice z.p3.a z.p3.n z.p3.c) := HS7.out.2.1.box.2.2.1
        have k3 : W7.cell? ⟨D7, 3, none⟩ = some (.slice z.p4.a z.p4.n z.p4.c) := HS7.out.2.1.box.2.2.2.1
        have hbl := HS7.out.1.blk.lt
        have hDl7 := HS7.out.2.1.lt
        go_wp2_with fail
        refine (KS.out _ z HS7.out.2.2 HS7.out.1.rd).mono ?_
        rintro e W8 ⟨rfl, H8⟩
        have HSn : Hid (BS w W8 b x d a zs) := HS7.out.1.go H8.out
        clear KS HS7 H8 c0 c1 c2 c3 k0 k1 k2 k3 hbl hDl7
        go_upto_region 11 with fail
        have K11 : Hid (Calls Try.prog 27 #[.int .u16 t, .slice a len cap] W8 (RdP (rd, rc) W8)) := KR.out _ HSn.out.bs
        clear KR
        go_wp2_with fail
        refine K11.out.mono ?_
        rintro e V2 ⟨y, rfl, G2⟩
        clear K11
        have hny := new_below V2 (.cells #[.slice y.p1.a y.p1.n y.p1.c, .slice y.p2.a y.p2.n y.p2.c, .slice y.p3.a y.p3.n y.p3.c, .slice y.p4.a y.p4.n y.p4.c] 29)
        have GS3 : Hid (BS w (V2.alloc (.cells #[.slice y.p1.a y.p1.n y.p1.c, .slice y.p2.a y.p2.n y.p2.c, .slice y.p3.a y.p3.n y.p3.c, .slice y.p4.a y.p4.n y.p4.c] 29)) b x d a zs ∧ DBlk (V2.alloc (.cells #[.slice y.p1.a y.p1.n y.p1.c, .slice y.p2.a y.p2.n y.p2.c, .slice y.p3.a y.p3.n y.p3.c, .slice y.p4.a y.p4.n y.p4.c] 29)) V2.heap.size y ∧ DRd (V2.alloc (.cells #[.slice y.p1.a y.p1.n y.p1.c, .slice y.p2.a y.p2.n y.p2.c, .slice y.p3.a y.p3.n y.p3.c, .slice y.p4.a y.p4.n y.p4.c] 29)) y rd) := ⟨(HSn.out.go G2.out.2).go hny, heap_alloc_new _ _, G2.out.1.rd.below hny⟩
        clear hny G2 HSn
        by_cases hrc : rc = 0
        · have hrc' : (rc != 0) = false := by simp [hrc]
          have KBB := HBB.out hrc
          have KBH : Hid (∀ W y, DRd W y rd → Calls Try.prog 10 #[.int .u16 t, .agg #[.slice y.p1.a y.p1.n y.p1.c, .slice y.p2.a y.p2.n y.p2.c, .slice y.p3.a y.p3.n y.p3.c, .slice y.p4.a y.p4.n y.p4.c]] W (fun e w' => ∃ (s : Sl), e = .returned (.tuple #[.slice s.a s.n s.c, .int .i64 0]) ∧ Hid (s.n = len ∧ Rd w' s.a zs ∧ Below W.heap.size W w'))) := KBB
          clear HBB HRR KBB
          have Hrc : Hid (rc = 0) := hrc
          clear hrc
          go_upto_region 12 with fail
          generalize V2.alloc (.cells #[.slice y.p1.a y.p1.n y.p1.c, .slice y.p2.a y.p2.n y.p2.c, .slice y.p3.a y.p3.n y.p3.c, .slice y.p4.a y.p4.n y.p4.c] 29) = V3 at *
          generalize V2.heap.size = D at *
          have e0 : V3.cell? ⟨D, 0, none⟩ = some (.slice y.p1.a y.p1.n y.p1.c) := GS3.out.2.1.box.1
          have e1 : V3.cell? ⟨D, 1, none⟩ = some (.slice y.p2.a y.p2.n y.p2.c) := GS3.out.2.1.box.2.1
          have e2 : V3.cell? ⟨D, 2, none⟩ = some (.slice y.p3.a y.p3.n y.p3.c) := GS3.out.2.1.box.2.2.1
          have e3 : V3.cell? ⟨D, 3, none⟩ = some (.slice y.p4.a y.p4.n y.p4.c) := GS3.out.2.1.box.2.2.2.1
          have hDl := GS3.out.2.1.lt
          go_wp2_with fail
          refine (KBH.out _ y GS3.out.2.2).mono ?_
          rintro e V4 ⟨s4, rfl, G4⟩
          have GS4 : Hid (BS w V4 b x d a zs) := GS3.out.1.go G4.out.2.2
          have K12 : Hid (Calls Try.prog 12 #[.slice s4.a s4.n s4.c, .slice a len cap] V4 fun e w' => e = .returned (.bool true) ∧ w' = V4) := KSB.out V4 s4 G4.out.1 G4.out.2.1 GS4.out.bs
          clear KSB KBH e0 e1 e2 e3
          go_wp2_with fail
          refine K12.out.mono ?_
          rintro e V5 ⟨rfl, rfl⟩
          go_wp2_with fail
          go_ret
          exact ⟨rfl, GS4.out.bel⟩
        · have hrc' : (rc != 0) = true := by simp [hrc]
          rcases HRR.out hrc with h8 | h8
          · have HBS : Hid (BS w (V2.alloc (.cells #[.slice y.p1.a y.p1.n y.p1.c, .slice y.p2.a y.p2.n y.p2.c, .slice y.p3.a y.p3.n y.p3.c, .slice y.p4.a y.p4.n y.p4.c] 29)) b x d a zs) := GS3.out.1
            subst h8
            clear HRR HBB hrc GS3
            go_wp2_with fail
            go_ret
            exact ⟨rfl, HBS.out.bel⟩
          · have HBS : Hid (BS w (V2.alloc (.cells #[.slice y.p1.a y.p1.n y.p1.c, .slice y.p2.a y.p2.n y.p2.c, .slice y.p3.a y.p3.n y.p3.c, .slice y.p4.a y.p4.n y.p4.c] 29)) b x d a zs) := GS3.out.1
            subst h8
            clear HRR HBB hrc GS3
            go_wp2_with fail
            go_ret
            exact ⟨rfl, HBS.out.bel⟩
      · have hCb : (C == 0) = false := by simp [hC]
        have HSn : Hid (BS w W5 b x d a zs) := HS5.out
        clear HS5 HW5 HV5 KRW KS
        go_upto_region 11 with fail
        have K11 : Hid (Calls Try.prog 27 #[.int .u16 t, .slice a len cap] W5 (RdP (rd, rc) W5)) := KR.out _ HSn.out.bs
        clear KR
        go_wp2_with fail
        refine K11.out.mono ?_
        rintro e V2 ⟨y, rfl, G2⟩
        clear K11
        have hny := new_below V2 (.cells #[.slice y.p1.a y.p1.n y.p1.c, .slice y.p2.a y.p2.n y.p2.c, .slice y.p3.a y.p3.n y.p3.c, .slice y.p4.a y.p4.n y.p4.c] 29)
        have GS3 : Hid (BS w (V2.alloc (.cells #[.slice y.p1.a y.p1.n y.p1.c, .slice y.p2.a y.p2.n y.p2.c, .slice y.p3.a y.p3.n y.p3.c, .slice y.p4.a y.p4.n y.p4.c] 29)) b x d a zs ∧ DBlk (V2.alloc (.cells #[.slice y.p1.a y.p1.n y.p1.c, .slice y.p2.a y.p2.n y.p2.c, .slice y.p3.a y.p3.n y.p3.c, .slice y.p4.a y.p4.n y.p4.c] 29)) V2.heap.size y ∧ DRd (V2.alloc (.cells #[.slice y.p1.a y.p1.n y.p1.c, .slice y.p2.a y.p2.n y.p2.c, .slice y.p3.a y.p3.n y.p3.c, .slice y.p4.a y.p4.n y.p4.c] 29)) y rd) := ⟨(HSn.out.go G2.out.2).go hny, heap_alloc_new _ _, G2.out.1.rd.below hny⟩
        clear hny G2 HSn
        by_cases hrc : rc = 0
        · have hrc' : (rc != 0) = false := by simp [hrc]
          have KBB := HBB.out hrc
          have KBH : Hid (∀ W y, DRd W y rd → Calls Try.prog 10 #[.int .u16 t, .agg #[.slice y.p1.a y.p1.n y.p1.c, .slice y.p2.a y.p2.n y.p2.c, .slice y.p3.a y.p3.n y.p3.c, .slice y.p4.a y.p4.n y.p4.c]] W (fun e w' => ∃ (s : Sl), e = .returned (.tuple #[.slice s.a s.n s.c, .int .i64 0]) ∧ Hid (s.n = len ∧ Rd w' s.a zs ∧ Below W.heap.size W w'))) := KBB
          clear HBB HRR KBB
          have Hrc : Hid (rc = 0) := hrc
          clear hrc
          go_upto_region 12 with fail
          generalize V2.alloc (.cells #[.slice y.p1.a y.p1.n y.p1.c, .slice y.p2.a y.p2.n y.p2.c, .slice y.p3.a y.p3.n y.p3.c, .slice y.p4.a y.p4.n y.p4.c] 29) = V3 at *
          generalize V2.heap.size = D at *
          have e0 : V3.cell? ⟨D, 0, none⟩ = some (.slice y.p1.a y.p1.n y.p1.c) := GS3.out.2.1.box.1
          have e1 : V3.cell? ⟨D, 1, none⟩ = some (.slice y.p2.a y.p2.n y.p2.c) := GS3.out.2.1.box.2.1
          have e2 : V3.cell? ⟨D, 2, none⟩ = some (.slice y.p3.a y.p3.n y.p3.c) := GS3.out.2.1.box.2.2.1
          have e3 : V3.cell? ⟨D, 3, none⟩ = some (.slice y.p4.a y.p4.n y.p4.c) := GS3.out.2.1.box.2.2.2.1
          have hDl := GS3.out.2.1.lt
          go_wp2_with fail
          refine (KBH.out _ y GS3.out.2.2).mono ?_
          rintro e V4 ⟨s4, rfl, G4⟩
          have GS4 : Hid (BS w V4 b x d a zs) := GS3.out.1.go G4.out.2.2
          have K12 : Hid (Calls Try.prog 12 #[.slice s4.a s4.n s4.c, .slice a len cap] V4 fun e w' => e = .returned (.bool true) ∧ w' = V4) := KSB.out V4 s4 G4.out.1 G4.out.2.1 GS4.out.bs
          clear KSB KBH e0 e1 e2 e3
          go_wp2_with fail
          refine K12.out.mono ?_
          rintro e V5 ⟨rfl, rfl⟩
          go_wp2_with fail
          go_ret
          exact ⟨rfl, GS4.out.bel⟩
        · have hrc' : (rc != 0) = true := by simp [hrc]
          rcases HRR.out hrc with h8 | h8
          · have HBS : Hid (BS w (V2.alloc (.cells #[.slice y.p1.a y.p1.n y.p1.c, .slice y.p2.a y.p2.n y.p2.c, .slice y.p3.a y.p3.n y.p3.c, .slice y.p4.a y.p4.n y.p4.c] 29)) b x d a zs) := GS3.out.1
            subst h8
            clear HRR HBB hrc GS3
            go_wp2_with fail
            go_ret
            exact ⟨rfl, HBS.out.bel⟩
          · have HBS : Hid (BS w (V2.alloc (.cells #[.slice y.p1.a y.p1.n y.p1.c, .slice y.p2.a y.p2.n y.p2.c, .slice y.p3.a y.p3.n y.p3.c, .slice y.p4.a y.p4.n y.p4.c] 29)) b x d a zs) := GS3.out.1
            subst h8
            clear HRR HBB hrc GS3
            go_wp2_with fail
            go_ret
            exact ⟨rfl, HBS.out.bel⟩
end Go.Proofs.Ytdeoembjfdbbkaa
/- The walk of the statement on the order of data. -/
namespace Go.Proofs.Ytdeoembjfdbbkaa
open Go.ChangeShapes Go.WideShapes Go.ChangeAt Go.RowKit
set_option linter.unusedVariables false
set_option linter.unusedSimpArgs false

/-- Three data in boxes. -/
structure OS (w W : World) (b : Nat) (x y z : DA) (d e f : Dat) : Prop where
  bx : DBlk W b x
  bz : DBlk W (b + 1) y
  bw : DBlk W (b + 2) z
  rx : DRd W x d
  ry : DRd W y e
  rz : DRd W z f
  bel : Below w.heap.size w W
theorem OS.go {w W W' : World} {b : Nat} {x y z : DA} {d e f : Dat} (h : OS w W b x y z d e f) (hb : Below W.heap.size W W') : OS w W' b x y z d e f :=
  ⟨h.bx.same (hb.block _ h.bx.lt), h.bz.same (hb.block _ h.bz.lt), h.bw.same (hb.block _ h.bw.lt), h.rx.below hb, h.ry.below hb, h.rz.below hb, h.bel.trans (hb.mono h.bel.size)⟩
theorem OS.new (w : World) (x y z : DA) (d e f : Dat) (hx : DRd w x d) (hy : DRd w y e) (hz : DRd w z f) : OS w (((w.alloc (.cells #[.slice x.p1.a x.p1.n x.p1.c, .slice x.p2.a x.p2.n x.p2.c, .slice x.p3.a x.p3.n x.p3.c, .slice x.p4.a x.p4.n x.p4.c] 29)).alloc (.cells #[.slice y.p1.a y.p1.n y.p1.c, .slice y.p2.a y.p2.n y.p2.c, .slice y.p3.a y.p3.n y.p3.c, .slice y.p4.a y.p4.n y.p4.c] 29)).alloc (.cells #[.slice z.p1.a z.p1.n z.p1.c, .slice z.p2.a z.p2.n z.p2.c, .slice z.p3.a z.p3.n z.p3.c, .slice z.p4.a z.p4.n z.p4.c] 29)) w.heap.size x y z d e f := by
  have h := CS.new w x y d e hx hy
  have hz2 : ((w.alloc (.cells #[.slice x.p1.a x.p1.n x.p1.c, .slice x.p2.a x.p2.n x.p2.c, .slice x.p3.a x.p3.n x.p3.c, .slice x.p4.a x.p4.n x.p4.c] 29)).alloc (.cells #[.slice y.p1.a y.p1.n y.p1.c, .slice y.p2.a y.p2.n y.p2.c, .slice y.p3.a y.p3.n y.p3.c, .slice y.p4.a y.p4.n y.p4.c] 29)).heap.size = w.heap.size + 2 := by simp
  have h3 : DBlk (((w.alloc (.cells #[.slice x.p1.a x.p1.n x.p1.c, .slice x.p2.a x.p2.n x.p2.c, .slice x.p3.a x.p3.n x.p3.c, .slice x.p4.a x.p4.n x.p4.c] 29)).alloc (.cells #[.slice y.p1.a y.p1.n y.p1.c, .slice y.p2.a y.p2.n y.p2.c, .slice y.p3.a y.p3.n y.p3.c, .slice y.p4.a y.p4.n y.p4.c] 29)).alloc (.cells #[.slice z.p1.a z.p1.n z.p1.c, .slice z.p2.a z.p2.n z.p2.c, .slice z.p3.a z.p3.n z.p3.c, .slice z.p4.a z.p4.n z.p4.c] 29)) ((w.alloc (.cells #[.slice x.p1.a x.p1.n x.p1.c, .slice x.p2.a x.p2.n x.p2.c, .slice x.p3.a x.p3.n x.p3.c, .slice x.p4.a x.p4.n x.p4.c] 29)).alloc (.cells #[.slice y.p1.a y.p1.n y.p1.c, .slice y.p2.a y.p2.n y.p2.c, .slice y.p3.a y.p3.n y.p3.c, .slice y.p4.a y.p4.n y.p4.c] 29)).heap.size z := heap_alloc_new _ _
  rw [hz2] at h3
  have b3 := new_below ((w.alloc (.cells #[.slice x.p1.a x.p1.n x.p1.c, .slice x.p2.a x.p2.n x.p2.c, .slice x.p3.a x.p3.n x.p3.c, .slice x.p4.a x.p4.n x.p4.c] 29)).alloc (.cells #[.slice y.p1.a y.p1.n y.p1.c, .slice y.p2.a y.p2.n y.p2.c, .slice y.p3.a y.p3.n y.p3.c, .slice y.p4.a y.p4.n y.p4.c] 29)) (.cells #[.slice z.p1.a z.p1.n z.p1.c, .slice z.p2.a z.p2.n z.p2.c, .slice z.p3.a z.p3.n z.p3.c, .slice z.p4.a z.p4.n z.p4.c] 29)
  exact ⟨h.bx.same (b3.block _ h.bx.lt), h.bz.same (b3.block _ h.bz.lt), h3, h.rx.below b3, h.ry.below b3, (hz.below h.bel).below b3, h.bel.trans (b3.mono h.bel.size)⟩
set_option maxRecDepth 100000 in
set_option maxHeartbeats 16000000 in
theorem order_any (t : Nat) (x y z : DA) (d e f : Dat) (w : World) (hx : DRd w x d) (hy : DRd w y e) (hz : DRd w z f) :
    Calls Try.prog 6 #[.int .u16 t, .agg #[.slice x.p1.a x.p1.n x.p1.c, .slice x.p2.a x.p2.n x.p2.c, .slice x.p3.a x.p3.n x.p3.c, .slice x.p4.a x.p4.n x.p4.c], .agg #[.slice y.p1.a y.p1.n y.p1.c, .slice y.p2.a y.p2.n y.p2.c, .slice y.p3.a y.p3.n y.p3.c, .slice y.p4.a y.p4.n y.p4.c], .agg #[.slice z.p1.a z.p1.n z.p1.c, .slice z.p2.a z.p2.n z.p2.c, .slice z.p3.a z.p3.n z.p3.c, .slice z.p4.a z.p4.n z.p4.c]] w fun r w' => r = .returned (.bool true) ∧ Below w.heap.size w w' := by
  have HS1 : Hid (OS w (((w.alloc (.cells #[.slice x.p1.a x.p1.n x.p1.c, .slice x.p2.a x.p2.n x.p2.c, .slice x.p3.a x.p3.n x.p3.c, .slice x.p4.a x.p4.n x.p4.c] 29)).alloc (.cells #[.slice y.p1.a y.p1.n y.p1.c, .slice y.p2.a y.p2.n y.p2.c, .slice y.p3.a y.p3.n y.p3.c, .slice y.p4.a y.p4.n y.p4.c] 29)).alloc (.cells #[.slice z.p1.a z.p1.n z.p1.c, .slice z.p2.a z.p2.n z.p2.c, .slice z.p3.a z.p3.n z.p3.c, .slice z.p4.a z.p4.n z.p4.c] 29)) w.heap.size x y z d e f) := OS.new w x y z d e f hx hy hz
  have KA : Hid (∀ W, Calls Try.prog 31 #[] W fun r w' => r = .returned (.bool true) ∧ Hid (Below W.heap.size W w')) := awake_any
  have KL1 : Hid (∀ W, DRd W x d → Calls Try.prog 8 #[.agg #[.slice x.p1.a x.p1.n x.p1.c, .slice x.p2.a x.p2.n x.p2.c, .slice x.p3.a x.p3.n x.p3.c, .slice x.p4.a x.p4.n x.p4.c]] W (LgPost d W)) := fun W hW => large_any x d W hW
  have KL2 : Hid (∀ W, DRd W y e → Calls Try.prog 8 #[.agg #[.slice y.p1.a y.p1.n y.p1.c, .slice y.p2.a y.p2.n y.p2.c, .slice y.p3.a y.p3.n y.p3.c, .slice y.p4.a y.p4.n y.p4.c]] W (LgPost e W)) := fun W hW => large_any y e W hW
  have KL3 : Hid (∀ W, DRd W z f → Calls Try.prog 8 #[.agg #[.slice z.p1.a z.p1.n z.p1.c, .slice z.p2.a z.p2.n z.p2.c, .slice z.p3.a z.p3.n z.p3.c, .slice z.p4.a z.p4.n z.p4.c]] W (LgPost f W)) := fun W hW => large_any z f W hW
  have KC1 : Hid (Small d → ∀ W, DRd W x d → Calls Try.prog 13 #[.int .u16 t, .agg #[.slice x.p1.a x.p1.n x.p1.c, .slice x.p2.a x.p2.n x.p2.c, .slice x.p3.a x.p3.n x.p3.c, .slice x.p4.a x.p4.n x.p4.c]] W fun r w' => r = .returned (.int .i64 (checkF t d)) ∧ Hid (Below W.heap.size W w')) := fun hs W hW => check_any t x d W hW hs.bd
  have KC2 : Hid (Small e → ∀ W, DRd W y e → Calls Try.prog 13 #[.int .u16 t, .agg #[.slice y.p1.a y.p1.n y.p1.c, .slice y.p2.a y.p2.n y.p2.c, .slice y.p3.a y.p3.n y.p3.c, .slice y.p4.a y.p4.n y.p4.c]] W fun r w' => r = .returned (.int .i64 (checkF t e)) ∧ Hid (Below W.heap.size W w')) := fun hs W hW => check_any t y e W hW hs.bd
  have KC3 : Hid (Small f → ∀ W, DRd W z f → Calls Try.prog 13 #[.int .u16 t, .agg #[.slice z.p1.a z.p1.n z.p1.c, .slice z.p2.a z.p2.n z.p2.c, .slice z.p3.a z.p3.n z.p3.c, .slice z.p4.a z.p4.n z.p4.c]] W fun r w' => r = .returned (.int .i64 (checkF t f)) ∧ Hid (Below W.heap.size W w')) := fun hs W hW => check_any t z f W hW hs.bd
  have K12 : Hid (Small d → Small e → ∀ W, DRd W x d → DRd W y e → Calls Try.prog 23 #[.int .u16 t, .agg #[.slice x.p1.a x.p1.n x.p1.c, .slice x.p2.a x.p2.n x.p2.c, .slice x.p3.a x.p3.n x.p3.c, .slice x.p4.a x.p4.n x.p4.c], .agg #[.slice y.p1.a y.p1.n y.p1.c, .slice y.p2.a y.p2.n y.p2.c, .slice y.p3.a y.p3.n y.p3.c, .slice y.p4.a y.p4.n y.p4.c]] W fun r w' => r = .returned (.int .i64 (compareF t d e)) ∧ Hid (Below W.heap.size W w')) := fun h1 h2 W hW hV => compare5_any t x y d e W hW hV h1.bd h2.bd
  have K23 : Hid (Small e → Small f → ∀ W, DRd W y e → DRd W z f → Calls Try.prog 23 #[.int .u16 t, .agg #[.slice y.p1.a y.p1.n y.p1.c, .slice y.p2.a y.p2.n y.p2.c, .slice y.p3.a y.p3.n y.p3.c, .slice y.p4.a y.p4.n y.p4.c], .agg #[.slice z.p1.a z.p1.n z.p1.c, .slice z.p2.a z.p2.n z.p2.c, .slice z.p3.a z.p3.n z.p3.c, .slice z.p4.a z.p4.n z.p4.c]] W fun r w' => r = .returned (.int .i64 (compareF t e f)) ∧ Hid (Below W.heap.size W w')) := fun h1 h2 W hW hV => compare5_any t y z e f W hW hV h1.bd h2.bd
  have K13 : Hid (Small d → Small f → ∀ W, DRd W x d → DRd W z f → Calls Try.prog 23 #[.int .u16 t, .agg #[.slice x.p1.a x.p1.n x.p1.c, .slice x.p2.a x.p2.n x.p2.c, .slice x.p3.a x.p3.n x.p3.c, .slice x.p4.a x.p4.n x.p4.c], .agg #[.slice z.p1.a z.p1.n z.p1.c, .slice z.p2.a z.p2.n z.p2.c, .slice z.p3.a z.p3.n z.p3.c, .slice z.p4.a z.p4.n z.p4.c]] W fun r w' => r = .returned (.int .i64 (compareF t d f)) ∧ Hid (Below W.heap.size W w')) := fun h1 h2 W hW hV => compare5_any t x z d f W hW hV h1.bd h2.bd
  have K21 : Hid (Small d → Small e → ∀ W, DRd W x d → DRd W y e → Calls Try.prog 23 #[.int .u16 t, .agg #[.slice y.p1.a y.p1.n y.p1.c, .slice y.p2.a y.p2.n y.p2.c, .slice y.p3.a y.p3.n y.p3.c, .slice y.p4.a y.p4.n y.p4.c], .agg #[.slice x.p1.a x.p1.n x.p1.c, .slice x.p2.a x.p2.n x.p2.c, .slice x.p3.a x.p3.n x.p3.c, .slice x.p4.a x.p4.n x.p4.c]] W fun r w' => r = .returned (.int .i64 (- compareF t d e)) ∧ Hid (Below W.heap.size W w')) := fun h1 h2 W hW hV => by rw [← compareF_neg]; exact compare5_any t y x e d W hV hW h2.bd h1.bd
  have KS : Hid (Small d → Small e → checkF t d = 0 → checkF t e = 0 → ∀ W, DRd W x d → DRd W y e → Calls Try.prog 21 #[.int .u16 t, .agg #[.slice x.p1.a x.p1.n x.p1.c, .slice x.p2.a x.p2.n x.p2.c, .slice x.p3.a x.p3.n x.p3.c, .slice x.p4.a x.p4.n x.p4.c], .agg #[.slice y.p1.a y.p1.n y.p1.c, .slice y.p2.a y.p2.n y.p2.c, .slice y.p3.a y.p3.n y.p3.c, .slice y.p4.a y.p4.n y.p4.c]] W fun r w' => r = .returned (.bool (decide (compareF t d e = 0))) ∧ Hid (Below W.heap.size W w')) := fun h1 h2 c1 c2 W hW hV => by
    have := same5_any t x y d e W hW hV h1.bd h2.bd
    have e1 : sameF t d e = decide (compareF t d e = 0) := by unfold sameF; rw [c1, c2]; simp
    rw [e1] at this
    exact this
  have KF : Hid (Small d → checkF t d = 0 → ∀ W, DRd W x d → Calls Try.prog 15 #[.int .u16 t, .agg #[.slice x.p1.a x.p1.n x.p1.c, .slice x.p2.a x.p2.n x.p2.c, .slice x.p3.a x.p3.n x.p3.c, .slice x.p4.a x.p4.n x.p4.c]] W fun r w' => ∃ u : DA, r = .returned (.agg #[.slice u.p1.a u.p1.n u.p1.c, .slice u.p2.a u.p2.n u.p2.c, .slice u.p3.a u.p3.n u.p3.c, .slice u.p4.a u.p4.n u.p4.c]) ∧ Hid (DOwn W.heap.size w' u (foldD t d) ∧ Below W.heap.size W w')) := fun h1 c1 W hW => fold5_any t x d W hW h1.bd (ck_nsz c1)
  have KFF : Hid (Small d → checkF t d = 0 → ∀ W u, DRd W u (foldD t d) → Calls Try.prog 15 #[.int .u16 t, .agg #[.slice u.p1.a u.p1.n u.p1.c, .slice u.p2.a u.p2.n u.p2.c, .slice u.p3.a u.p3.n u.p3.c, .slice u.p4.a u.p4.n u.p4.c]] W fun r w' => ∃ v : DA, r = .returned (.agg #[.slice v.p1.a v.p1.n v.p1.c, .slice v.p2.a v.p2.n v.p2.c, .slice v.p3.a v.p3.n v.p3.c, .slice v.p4.a v.p4.n v.p4.c]) ∧ Hid (DOwn W.heap.size w' v (foldD t d) ∧ Below W.heap.size W w')) := fun h1 c1 W u hW => by
    have := fold5_any t u (foldD t d) W hW (foldD_bd h1.bd) (ck_nsz (t := t) (by rw [foldD_check]; exact c1))
    rw [foldD_fold] at this
    exact this
  have KSF : Hid (Small d → checkF t d = 0 → ∀ W u, DRd W x d → DRd W u (foldD t d) → Calls Try.prog 21 #[.int .u16 t, .agg #[.slice x.p1.a x.p1.n x.p1.c, .slice x.p2.a x.p2.n x.p2.c, .slice x.p3.a x.p3.n x.p3.c, .slice x.p4.a x.p4.n x.p4.c], .agg #[.slice u.p1.a u.p1.n u.p1.c, .slice u.p2.a u.p2.n u.p2.c, .slice u.p3.a u.p3.n u.p3.c, .slice u.p4.a u.p4.n u.p4.c]] W fun r w' => r = .returned (.bool true) ∧ Hid (Below W.heap.size W w')) := fun h1 c1 W u hW hV => by
    have := same5_any t x u d (foldD t d) W hW hV h1.bd (foldD_bd h1.bd)
    rw [same_fold c1] at this
    exact this
  have KSD : Hid (∀ W u v, DRd W v (foldD t d) → DRd W u (foldD t d) → Calls Try.prog 17 #[.agg #[.slice v.p1.a v.p1.n v.p1.c, .slice v.p2.a v.p2.n v.p2.c, .slice v.p3.a v.p3.n v.p3.c, .slice v.p4.a v.p4.n v.p4.c], .agg #[.slice u.p1.a u.p1.n u.p1.c, .slice u.p2.a u.p2.n u.p2.c, .slice u.p3.a u.p3.n u.p3.c, .slice u.p4.a u.p4.n u.p4.c]] W fun r w' => r = .returned (.bool true) ∧ Hid (Below W.heap.size W w')) := fun W u v h1 h2 => samedata_yes v u _ W h1 h2
  have HR : Hid ((compareF t d e = -1 ∨ compareF t d e = 0 ∨ compareF t d e = 1) ∧ (compareF t e f = -1 ∨ compareF t e f = 0 ∨ compareF t e f = 1) ∧ (compareF t d f = -1 ∨ compareF t d f = 0 ∨ compareF t d f = 1)) := ⟨compareF_range t d e, compareF_range t e f, compareF_range t d f⟩
  have HT : Hid (checkF t d = 0 → checkF t e = 0 → checkF t f = 0 → (compareF t d e ≤ 0 → compareF t e f ≤ 0 → compareF t d f ≤ 0) ∧ (compareF t d e < 0 → compareF t e f ≤ 0 → compareF t d f < 0)) := fun c1 c2 c3 => ⟨compareF_trans c1 c2 c3, compareF_strict c1 c2 c3⟩
  clear hx hy hz
  generalize compareF t d e = ab at *
  generalize compareF t e f = bc at *
  generalize compareF t d f = ac at *
  generalize checkF t d = C1 at *
  generalize checkF t e = C2 at *
  generalize checkF t f = C3 at *
  generalize foldD t d = FD at *
  go_enter Try.func6, Try.ntmps6
  go_upto_region 1 with fail
  generalize (((w.alloc (.cells #[.slice x.p1.a x.p1.n x.p1.c, .slice x.p2.a x.p2.n x.p2.c, .slice x.p3.a x.p3.n x.p3.c, .slice x.p4.a x.p4.n x.p4.c] 29)).alloc (.cells #[.slice y.p1.a y.p1.n y.p1.c, .slice y.p2.a y.p2.n y.p2.c, .slice y.p3.a y.p3.n y.p3.c, .slice y.p4.a y.p4.n y.p4.c] 29)).alloc (.cells #[.slice z.p1.a z.p1.n z.p1.c, .slice z.p2.a z.p2.n z.p2.c, .slice z.p3.a z.p3.n z.p3.c, .slice z.p4.a z.p4.n z.p4.c] 29)) = W1 at *
  obtain ⟨b, hb⟩ : ∃ b, b = w.heap.size := ⟨_, rfl⟩
  rw [← hb] at HS1 ⊢
  have Hb : Hid (b = w.heap.size) := hb
  clear hb
  go_wp2_with fail
  refine (KA.out _).mono ?_
  rintro r W2 ⟨rfl, H2⟩
  have HS2 : Hid (OS w W2 b x y z d e f) := HS1.out.go H2.out
  clear HS1 H2 KA
  have cx0 : W2.cell? ⟨b, 0, none⟩ = some (.slice x.p1.a x.p1.n x.p1.c) := HS2.out.bx.box.1
  have cx1 : W2.cell? ⟨b, 1, none⟩ = some (.slice x.p2.a x.p2.n x.p2.c) := HS2.out.bx.box.2.1
  have cx2 : W2.cell? ⟨b, 2, none⟩ = some (.slice x.p3.a x.p3.n x.p3.c) := HS2.out.bx.box.2.2.1
  have cx3 : W2.cell? ⟨b, 3, none⟩ = some (.slice x.p4.a x.p4.n x.p4.c) := HS2.out.bx.box.2.2.2.1
  have cy0 : W2.cell? ⟨b + 1, 0, none⟩ = some (.slice y.p1.a y.p1.n y.p1.c) := HS2.out.bz.box.1
  have cy1 : W2.cell? ⟨b + 1, 1, none⟩ = some (.slice y.p2.a y.p2.n y.p2.c) := HS2.out.bz.box.2.1
  have cy2 : W2.cell? ⟨b + 1, 2, none⟩ = some (.slice y.p3.a y.p3.n y.p3.c) := HS2.out.bz.box.2.2.1
  have cy3 : W2.cell? ⟨b + 1, 3, none⟩ = some (.slice y.p4.a y.p4.n y.p4.c) := HS2.out.bz.box.2.2.2.1
  have cz0 : W2.cell? ⟨b + 2, 0, none⟩ = some (.slice z.p1.a z.p1.n z.p1.c) := HS2.out.bw.box.1
  have cz1 : W2.cell? ⟨b + 2, 1, none⟩ = some (.slice z.p2.a z.p2.n z.p2.c) := HS2.out.bw.box.2.1
  have cz2 : W2.cell? ⟨b + 2, 2, none⟩ = some (.slice z.p3.a z.p3.n z.p3.c) := HS2.out.bw.box.2.2.1
  have cz3 : W2.cell? ⟨b + 2, 3, none⟩ = some (.slice z.p4.a z.p4.n z.p4.c) := HS2.out.bw.box.2.2.2.1
  have cl1 := HS2.out.bx.lt
  have cl2 := HS2.out.bz.lt
  have cl3 := HS2.out.bw.lt
  go_wp2_with fail
  refine (KL1.out _ HS2.out.rx).mono ?_
  rintro r W3 ⟨bl, rfl, hs1, hb1⟩
  have HS3 : Hid (OS w W3 b x y z d e f) := HS2.out.go hb1
  clear HS2 KL1 hb1
  clear cx0 cx1 cx2 cx3 cy0 cy1 cy2 cy3 cz0 cz1 cz2 cz3 cl1 cl2 cl3
  cases bl with
  | true =>
    clear hs1
    go_wp2_with fail
    go_ret
    exact ⟨rfl, HS3.out.bel⟩
  | false =>
    have sm1 := hs1 rfl
    clear hs1
    have cx0 : W3.cell? ⟨b, 0, none⟩ = some (.slice x.p1.a x.p1.n x.p1.c) := HS3.out.bx.box.1
    have cx1 : W3.cell? ⟨b, 1, none⟩ = some (.slice x.p2.a x.p2.n x.p2.c) := HS3.out.bx.box.2.1
    have cx2 : W3.cell? ⟨b, 2, none⟩ = some (.slice x.p3.a x.p3.n x.p3.c) := HS3.out.bx.box.2.2.1
    have cx3 : W3.cell? ⟨b, 3, none⟩ = some (.slice x.p4.a x.p4.n x.p4.c) := HS3.out.bx.box.2.2.2.1
    have cy0 : W3.cell? ⟨b + 1, 0, none⟩ = some (.slice y.p1.a y.p1.n y.p1.c) := HS3.out.bz.box.1
    have cy1 : W3.cell? ⟨b + 1, 1, none⟩ = some (.slice y.p2.a y.p2.n y.p2.c) := HS3.out.bz.box.2.1
    have cy2 : W3.cell? ⟨b + 1, 2, none⟩ = some (.slice y.p3.a y.p3.n y.p3.c) := HS3.out.bz.box.2.2.1
    have cy3 : W3.cell? ⟨b + 1, 3, none⟩ = some (.slice y.p4.a y.p4.n y.p4.c) := HS3.out.bz.box.2.2.2.1
    have cz0 : W3.cell? ⟨b + 2, 0, none⟩ = some (.slice z.p1.a z.p1.n z.p1.c) := HS3.out.bw.box.1
    have cz1 : W3.cell? ⟨b + 2, 1, none⟩ = some (.slice z.p2.a z.p2.n z.p2.c) := HS3.out.bw.box.2.1
    have cz2 : W3.cell? ⟨b + 2, 2, none⟩ = some (.slice z.p3.a z.p3.n z.p3.c) := HS3.out.bw.box.2.2.1
    have cz3 : W3.cell? ⟨b + 2, 3, none⟩ = some (.slice z.p4.a z.p4.n z.p4.c) := HS3.out.bw.box.2.2.2.1
    have cl1 := HS3.out.bx.lt
    have cl2 := HS3.out.bz.lt
    have cl3 := HS3.out.bw.lt
    go_wp2_with fail
    refine (KL2.out _ HS3.out.ry).mono ?_
    rintro r W4 ⟨bl, rfl, hs2, hb2⟩
    have HS4 : Hid (OS w W4 b x y z d e f) := HS3.out.go hb2
    clear HS3 KL2 hb2
    clear cx0 cx1 cx2 cx3 cy0 cy1 cy2 cy3 cz0 cz1 cz2 cz3 cl1 cl2 cl3
    cases bl with
    | true =>
      clear hs2
      go_wp2_with fail
      go_ret
      exact ⟨rfl, HS4.out.bel⟩
    | false =>
      have sm2 := hs2 rfl
      clear hs2
      have cx0 : W4.cell? ⟨b, 0, none⟩ = some (.slice x.p1.a x.p1.n x.p1.c) := HS4.out.bx.box.1
      have cx1 : W4.cell? ⟨b, 1, none⟩ = some (.slice x.p2.a x.p2.n x.p2.c) := HS4.out.bx.box.2.1
      have cx2 : W4.cell? ⟨b, 2, none⟩ = some (.slice x.p3.a x.p3.n x.p3.c) := HS4.out.bx.box.2.2.1
      have cx3 : W4.cell? ⟨b, 3, none⟩ = some (.slice x.p4.a x.p4.n x.p4.c) := HS4.out.bx.box.2.2.2.1
      have cy0 : W4.cell? ⟨b + 1, 0, none⟩ = some (.slice y.p1.a y.p1.n y.p1.c) := HS4.out.bz.box.1
      have cy1 : W4.cell? ⟨b + 1, 1, none⟩ = some (.slice y.p2.a y.p2.n y.p2.c) := HS4.out.bz.box.2.1
      have cy2 : W4.cell? ⟨b + 1, 2, none⟩ = some (.slice y.p3.a y.p3.n y.p3.c) := HS4.out.bz.box.2.2.1
      have cy3 : W4.cell? ⟨b + 1, 3, none⟩ = some (.slice y.p4.a y.p4.n y.p4.c) := HS4.out.bz.box.2.2.2.1
      have cz0 : W4.cell? ⟨b + 2, 0, none⟩ = some (.slice z.p1.a z.p1.n z.p1.c) := HS4.out.bw.box.1
      have cz1 : W4.cell? ⟨b + 2, 1, none⟩ = some (.slice z.p2.a z.p2.n z.p2.c) := HS4.out.bw.box.2.1
      have cz2 : W4.cell? ⟨b + 2, 2, none⟩ = some (.slice z.p3.a z.p3.n z.p3.c) := HS4.out.bw.box.2.2.1
      have cz3 : W4.cell? ⟨b + 2, 3, none⟩ = some (.slice z.p4.a z.p4.n z.p4.c) := HS4.out.bw.box.2.2.2.1
      have cl1 := HS4.out.bx.lt
      have cl2 := HS4.out.bz.lt
      have cl3 := HS4.out.bw.lt
      go_wp2_with fail
      refine (KL3.out _ HS4.out.rz).mono ?_
      rintro r W5 ⟨bl, rfl, hs3, hb3⟩
      have HS5 : Hid (OS w W5 b x y z d e f) := HS4.out.go hb3
      clear HS4 KL3 hb3
      clear cx0 cx1 cx2 cx3 cy0 cy1 cy2 cy3 cz0 cz1 cz2 cz3 cl1 cl2 cl3
      cases bl with
      | true =>
        clear hs3
        go_wp2_with fail
        go_ret
        exact ⟨rfl, HS5.out.bel⟩
      | false =>
        have sm3 := hs3 rfl
        clear hs3
        have cx0 : W5.cell? ⟨b, 0, none⟩ = some (.slice x.p1.a x.p1.n x.p1.c) := HS5.out.bx.box.1
        have cx1 : W5.cell? ⟨b, 1, none⟩ = some (.slice x.p2.a x.p2.n x.p2.c) := HS5.out.bx.box.2.1
        have cx2 : W5.cell? ⟨b, 2, none⟩ = some (.slice x.p3.a x.p3.n x.p3.c) := HS5.out.bx.box.2.2.1
        have cx3 : W5.cell? ⟨b, 3, none⟩ = some (.slice x.p4.a x.p4.n x.p4.c) := HS5.out.bx.box.2.2.2.1
        have cy0 : W5.cell? ⟨b + 1, 0, none⟩ = some (.slice y.p1.a y.p1.n y.p1.c) := HS5.out.bz.box.1
        have cy1 : W5.cell? ⟨b + 1, 1, none⟩ = some (.slice y.p2.a y.p2.n y.p2.c) := HS5.out.bz.box.2.1
        have cy2 : W5.cell? ⟨b + 1, 2, none⟩ = some (.slice y.p3.a y.p3.n y.p3.c) := HS5.out.bz.box.2.2.1
        have cy3 : W5.cell? ⟨b + 1, 3, none⟩ = some (.slice y.p4.a y.p4.n y.p4.c) := HS5.out.bz.box.2.2.2.1
        have cz0 : W5.cell? ⟨b + 2, 0, none⟩ = some (.slice z.p1.a z.p1.n z.p1.c) := HS5.out.bw.box.1
        have cz1 : W5.cell? ⟨b + 2, 1, none⟩ = some (.slice z.p2.a z.p2.n z.p2.c) := HS5.out.bw.box.2.1
        have cz2 : W5.cell? ⟨b + 2, 2, none⟩ = some (.slice z.p3.a z.p3.n z.p3.c) := HS5.out.bw.box.2.2.1
        have cz3 : W5.cell? ⟨b + 2, 3, none⟩ = some (.slice z.p4.a z.p4.n z.p4.c) := HS5.out.bw.box.2.2.2.1
        have cl1 := HS5.out.bx.lt
        have cl2 := HS5.out.bz.lt
        have cl3 := HS5.out.bw.lt
        go_wp2_with fail
        refine (KC1.out sm1 _ HS5.out.rx).mono ?_
        rintro r W6 ⟨rfl, hb1⟩
        have HS6 : Hid (OS w W6 b x y z d e f) := HS5.out.go hb1.out
        clear HS5 KC1 hb1
        clear cx0 cx1 cx2 cx3 cy0 cy1 cy2 cy3 cz0 cz1 cz2 cz3 cl1 cl2 cl3
        by_cases hC1 : C1 = 0
        · have hCb1 : (C1 != 0) = false := by simp [hC1]
          have HC1 : Hid (C1 = 0) := hC1
          clear hC1
          have cx0 : W6.cell? ⟨b, 0, none⟩ = some (.slice x.p1.a x.p1.n x.p1.c) := HS6.out.bx.box.1
          have cx1 : W6.cell? ⟨b, 1, none⟩ = some (.slice x.p2.a x.p2.n x.p2.c) := HS6.out.bx.box.2.1
          have cx2 : W6.cell? ⟨b, 2, none⟩ = some (.slice x.p3.a x.p3.n x.p3.c) := HS6.out.bx.box.2.2.1
          have cx3 : W6.cell? ⟨b, 3, none⟩ = some (.slice x.p4.a x.p4.n x.p4.c) := HS6.out.bx.box.2.2.2.1
          have cy0 : W6.cell? ⟨b + 1, 0, none⟩ = some (.slice y.p1.a y.p1.n y.p1.c) := HS6.out.bz.box.1
          have cy1 : W6.cell? ⟨b + 1, 1, none⟩ = some (.slice y.p2.a y.p2.n y.p2.c) := HS6.out.bz.box.2.1
          have cy2 : W6.cell? ⟨b + 1, 2, none⟩ = some (.slice y.p3.a y.p3.n y.p3.c) := HS6.out.bz.box.2.2.1
          have cy3 : W6.cell? ⟨b + 1, 3, none⟩ = some (.slice y.p4.a y.p4.n y.p4.c) := HS6.out.bz.box.2.2.2.1
          have cz0 : W6.cell? ⟨b + 2, 0, none⟩ = some (.slice z.p1.a z.p1.n z.p1.c) := HS6.out.bw.box.1
          have cz1 : W6.cell? ⟨b + 2, 1, none⟩ = some (.slice z.p2.a z.p2.n z.p2.c) := HS6.out.bw.box.2.1
          have cz2 : W6.cell? ⟨b + 2, 2, none⟩ = some (.slice z.p3.a z.p3.n z.p3.c) := HS6.out.bw.box.2.2.1
          have cz3 : W6.cell? ⟨b + 2, 3, none⟩ = some (.slice z.p4.a z.p4.n z.p4.c) := HS6.out.bw.box.2.2.2.1
          have cl1 := HS6.out.bx.lt
          have cl2 := HS6.out.bz.lt
          have cl3 := HS6.out.bw.lt
          go_wp2_with fail
          refine (KC2.out sm2 _ HS6.out.ry).mono ?_
          rintro r W7 ⟨rfl, hb2⟩
          have HS7 : Hid (OS w W7 b x y z d e f) := HS6.out.go hb2.out
          clear HS6 KC2 hb2
          clear cx0 cx1 cx2 cx3 cy0 cy1 cy2 cy3 cz0 cz1 cz2 cz3 cl1 cl2 cl3
          by_cases hC2 : C2 = 0
          · have hCb2 : (C2 != 0) = false := by simp [hC2]
            have HC2 : Hid (C2 = 0) := hC2
            clear hC2
            have cx0 : W7.cell? ⟨b, 0, none⟩ = some (.slice x.p1.a x.p1.n x.p1.c) := HS7.out.bx.box.1
            have cx1 : W7.cell? ⟨b, 1, none⟩ = some (.slice x.p2.a x.p2.n x.p2.c) := HS7.out.bx.box.2.1
            have cx2 : W7.cell? ⟨b, 2, none⟩ = some (.slice x.p3.a x.p3.n x.p3.c) := HS7.out.bx.box.2.2.1
            have cx3 : W7.cell? ⟨b, 3, none⟩ = some (.slice x.p4.a x.p4.n x.p4.c) := HS7.out.bx.box.2.2.2.1
            have cy0 : W7.cell? ⟨b + 1, 0, none⟩ = some (.slice y.p1.a y.p1.n y.p1.c) := HS7.out.bz.box.1
            have cy1 : W7.cell? ⟨b + 1, 1, none⟩ = some (.slice y.p2.a y.p2.n y.p2.c) := HS7.out.bz.box.2.1
            have cy2 : W7.cell? ⟨b + 1, 2, none⟩ = some (.slice y.p3.a y.p3.n y.p3.c) := HS7.out.bz.box.2.2.1
            have cy3 : W7.cell? ⟨b + 1, 3, none⟩ = some (.slice y.p4.a y.p4.n y.p4.c) := HS7.out.bz.box.2.2.2.1
            have cz0 : W7.cell? ⟨b + 2, 0, none⟩ = some (.slice z.p1.a z.p1.n z.p1.c) := HS7.out.bw.box.1
            have cz1 : W7.cell? ⟨b + 2, 1, none⟩ = some (.slice z.p2.a z.p2.n z.p2.c) := HS7.out.bw.box.2.1
            have cz2 : W7.cell? ⟨b + 2, 2, none⟩ = some (.slice z.p3.a z.p3.n z.p3.c) := HS7.out.bw.box.2.2.1
            have cz3 : W7.cell? ⟨b + 2, 3, none⟩ = some (.slice z.p4.a z.p4.n z.p4.c) := HS7.out.bw.box.2.2.2.1
            have cl1 := HS7.out.bx.lt
            have cl2 := HS7.out.bz.lt
            have cl3 := HS7.out.bw.lt
            go_wp2_with fail
            refine (KC3.out sm3 _ HS7.out.rz).mono ?_
            rintro r W8 ⟨rfl, hb3⟩
            have HS8 : Hid (OS w W8 b x y z d e f) := HS7.out.go hb3.out
            clear HS7 KC3 hb3
            clear cx0 cx1 cx2 cx3 cy0 cy1 cy2 cy3 cz0 cz1 cz2 cz3 cl1 cl2 cl3
            by_cases hC3 : C3 = 0
            · have hCb3 : (C3 != 0) = false := by simp [hC3]
              have HC3 : Hid (C3 = 0) := hC3
              clear hC3
              have M12 : Hid (∀ W, DRd W x d → DRd W y e → Calls Try.prog 23 #[.int .u16 t, .agg #[.slice x.p1.a x.p1.n x.p1.c, .slice x.p2.a x.p2.n x.p2.c, .slice x.p3.a x.p3.n x.p3.c, .slice x.p4.a x.p4.n x.p4.c], .agg #[.slice y.p1.a y.p1.n y.p1.c, .slice y.p2.a y.p2.n y.p2.c, .slice y.p3.a y.p3.n y.p3.c, .slice y.p4.a y.p4.n y.p4.c]] W fun r w' => r = .returned (.int .i64 ab) ∧ Hid (Below W.heap.size W w')) := K12.out sm1 sm2
              have M23 : Hid (∀ W, DRd W y e → DRd W z f → Calls Try.prog 23 #[.int .u16 t, .agg #[.slice y.p1.a y.p1.n y.p1.c, .slice y.p2.a y.p2.n y.p2.c, .slice y.p3.a y.p3.n y.p3.c, .slice y.p4.a y.p4.n y.p4.c], .agg #[.slice z.p1.a z.p1.n z.p1.c, .slice z.p2.a z.p2.n z.p2.c, .slice z.p3.a z.p3.n z.p3.c, .slice z.p4.a z.p4.n z.p4.c]] W fun r w' => r = .returned (.int .i64 bc) ∧ Hid (Below W.heap.size W w')) := K23.out sm2 sm3
              have M13 : Hid (∀ W, DRd W x d → DRd W z f → Calls Try.prog 23 #[.int .u16 t, .agg #[.slice x.p1.a x.p1.n x.p1.c, .slice x.p2.a x.p2.n x.p2.c, .slice x.p3.a x.p3.n x.p3.c, .slice x.p4.a x.p4.n x.p4.c], .agg #[.slice z.p1.a z.p1.n z.p1.c, .slice z.p2.a z.p2.n z.p2.c, .slice z.p3.a z.p3.n z.p3.c, .slice z.p4.a z.p4.n z.p4.c]] W fun r w' => r = .returned (.int .i64 ac) ∧ Hid (Below W.heap.size W w')) := K13.out sm1 sm3
              have M21 : Hid (∀ W, DRd W x d → DRd W y e → Calls Try.prog 23 #[.int .u16 t, .agg #[.slice y.p1.a y.p1.n y.p1.c, .slice y.p2.a y.p2.n y.p2.c, .slice y.p3.a y.p3.n y.p3.c, .slice y.p4.a y.p4.n y.p4.c], .agg #[.slice x.p1.a x.p1.n x.p1.c, .slice x.p2.a x.p2.n x.p2.c, .slice x.p3.a x.p3.n x.p3.c, .slice x.p4.a x.p4.n x.p4.c]] W fun r w' => r = .returned (.int .i64 (- ab)) ∧ Hid (Below W.heap.size W w')) := K21.out sm1 sm2
              have MS : Hid (∀ W, DRd W x d → DRd W y e → Calls Try.prog 21 #[.int .u16 t, .agg #[.slice x.p1.a x.p1.n x.p1.c, .slice x.p2.a x.p2.n x.p2.c, .slice x.p3.a x.p3.n x.p3.c, .slice x.p4.a x.p4.n x.p4.c], .agg #[.slice y.p1.a y.p1.n y.p1.c, .slice y.p2.a y.p2.n y.p2.c, .slice y.p3.a y.p3.n y.p3.c, .slice y.p4.a y.p4.n y.p4.c]] W fun r w' => r = .returned (.bool (decide (ab = 0))) ∧ Hid (Below W.heap.size W w')) := KS.out sm1 sm2 HC1.out HC2.out
              have MF : Hid (∀ W, DRd W x d → Calls Try.prog 15 #[.int .u16 t, .agg #[.slice x.p1.a x.p1.n x.p1.c, .slice x.p2.a x.p2.n x.p2.c, .slice x.p3.a x.p3.n x.p3.c, .slice x.p4.a x.p4.n x.p4.c]] W fun r w' => ∃ u : DA, r = .returned (.agg #[.slice u.p1.a u.p1.n u.p1.c, .slice u.p2.a u.p2.n u.p2.c, .slice u.p3.a u.p3.n u.p3.c, .slice u.p4.a u.p4.n u.p4.c]) ∧ Hid (DOwn W.heap.size w' u FD ∧ Below W.heap.size W w')) := KF.out sm1 HC1.out
              have MFF : Hid (∀ W u, DRd W u FD → Calls Try.prog 15 #[.int .u16 t, .agg #[.slice u.p1.a u.p1.n u.p1.c, .slice u.p2.a u.p2.n u.p2.c, .slice u.p3.a u.p3.n u.p3.c, .slice u.p4.a u.p4.n u.p4.c]] W fun r w' => ∃ v : DA, r = .returned (.agg #[.slice v.p1.a v.p1.n v.p1.c, .slice v.p2.a v.p2.n v.p2.c, .slice v.p3.a v.p3.n v.p3.c, .slice v.p4.a v.p4.n v.p4.c]) ∧ Hid (DOwn W.heap.size w' v FD ∧ Below W.heap.size W w')) := KFF.out sm1 HC1.out
              have MSF : Hid (∀ W u, DRd W x d → DRd W u FD → Calls Try.prog 21 #[.int .u16 t, .agg #[.slice x.p1.a x.p1.n x.p1.c, .slice x.p2.a x.p2.n x.p2.c, .slice x.p3.a x.p3.n x.p3.c, .slice x.p4.a x.p4.n x.p4.c], .agg #[.slice u.p1.a u.p1.n u.p1.c, .slice u.p2.a u.p2.n u.p2.c, .slice u.p3.a u.p3.n u.p3.c, .slice u.p4.a u.p4.n u.p4.c]] W fun r w' => r = .returned (.bool true) ∧ Hid (Below W.heap.size W w')) := KSF.out sm1 HC1.out
              have MT : Hid ((ab ≤ 0 → bc ≤ 0 → ac ≤ 0) ∧ (ab < 0 → bc ≤ 0 → ac < 0)) := HT.out HC1.out HC2.out HC3.out
              clear K12 K23 K13 K21 KS KF KFF KSF HT sm1 sm2 sm3 HC1 HC2 HC3
              have cx0 : W8.cell? ⟨b, 0, none⟩ = some (.slice x.p1.a x.p1.n x.p1.c) := HS8.out.bx.box.1
              have cx1 : W8.cell? ⟨b, 1, none⟩ = some (.slice x.p2.a x.p2.n x.p2.c) := HS8.out.bx.box.2.1
              have cx2 : W8.cell? ⟨b, 2, none⟩ = some (.slice x.p3.a x.p3.n x.p3.c) := HS8.out.bx.box.2.2.1
              have cx3 : W8.cell? ⟨b, 3, none⟩ = some (.slice x.p4.a x.p4.n x.p4.c) := HS8.out.bx.box.2.2.2.1
              have cy0 : W8.cell? ⟨b + 1, 0, none⟩ = some (.slice y.p1.a y.p1.n y.p1.c) := HS8.out.bz.box.1
              have cy1 : W8.cell? ⟨b + 1, 1, none⟩ = some (.slice y.p2.a y.p2.n y.p2.c) := HS8.out.bz.box.2.1
              have cy2 : W8.cell? ⟨b + 1, 2, none⟩ = some (.slice y.p3.a y.p3.n y.p3.c) := HS8.out.bz.box.2.2.1
              have cy3 : W8.cell? ⟨b + 1, 3, none⟩ = some (.slice y.p4.a y.p4.n y.p4.c) := HS8.out.bz.box.2.2.2.1
              have cz0 : W8.cell? ⟨b + 2, 0, none⟩ = some (.slice z.p1.a z.p1.n z.p1.c) := HS8.out.bw.box.1
              have cz1 : W8.cell? ⟨b + 2, 1, none⟩ = some (.slice z.p2.a z.p2.n z.p2.c) := HS8.out.bw.box.2.1
              have cz2 : W8.cell? ⟨b + 2, 2, none⟩ = some (.slice z.p3.a z.p3.n z.p3.c) := HS8.out.bw.box.2.2.1
              have cz3 : W8.cell? ⟨b + 2, 3, none⟩ = some (.slice z.p4.a z.p4.n z.p4.c) := HS8.out.bw.box.2.2.2.1
              have cl1 := HS8.out.bx.lt
              have cl2 := HS8.out.bz.lt
              have cl3 := HS8.out.bw.lt
              go_wp2_with fail
              go_region_held3 (fun W => W.cell? ⟨b, 0, none⟩ = some (.slice x.p1.a x.p1.n x.p1.c) ∧ W.cell? ⟨b, 1, none⟩ = some (.slice x.p2.a x.p2.n x.p2.c) ∧ W.cell? ⟨b, 2, none⟩ = some (.slice x.p3.a x.p3.n x.p3.c) ∧ W.cell? ⟨b, 3, none⟩ = some (.slice x.p4.a x.p4.n x.p4.c) ∧ W.cell? ⟨b + 1, 0, none⟩ = some (.slice y.p1.a y.p1.n y.p1.c) ∧ W.cell? ⟨b + 1, 1, none⟩ = some (.slice y.p2.a y.p2.n y.p2.c) ∧ W.cell? ⟨b + 1, 2, none⟩ = some (.slice y.p3.a y.p3.n y.p3.c) ∧ W.cell? ⟨b + 1, 3, none⟩ = some (.slice y.p4.a y.p4.n y.p4.c) ∧ W.cell? ⟨b + 2, 0, none⟩ = some (.slice z.p1.a z.p1.n z.p1.c) ∧ W.cell? ⟨b + 2, 1, none⟩ = some (.slice z.p2.a z.p2.n z.p2.c) ∧ W.cell? ⟨b + 2, 2, none⟩ = some (.slice z.p3.a z.p3.n z.p3.c) ∧ W.cell? ⟨b + 2, 3, none⟩ = some (.slice z.p4.a z.p4.n z.p4.c)) (exact ⟨by go_keep, by go_keep, by go_keep, by go_keep, by go_keep, by go_keep, by go_keep, by go_keep, by go_keep, by go_keep, by go_keep, by go_keep⟩) (first
                | (go_at_call 23; refine (M13.out _ HS10.out.rx HS10.out.rz).mono ?_; rintro r W11 ⟨rfl, HH5⟩; have HS11 : Hid (OS w W11 b x y z d e f) := (HS10.out).go HH5.out; have gx0 : W11.cell? ⟨b, 0, none⟩ = some (.slice x.p1.a x.p1.n x.p1.c) := HS11.out.bx.box.1; have gx1 : W11.cell? ⟨b, 1, none⟩ = some (.slice x.p2.a x.p2.n x.p2.c) := HS11.out.bx.box.2.1; have gx2 : W11.cell? ⟨b, 2, none⟩ = some (.slice x.p3.a x.p3.n x.p3.c) := HS11.out.bx.box.2.2.1; have gx3 : W11.cell? ⟨b, 3, none⟩ = some (.slice x.p4.a x.p4.n x.p4.c) := HS11.out.bx.box.2.2.2.1; have gy0 : W11.cell? ⟨b + 1, 0, none⟩ = some (.slice y.p1.a y.p1.n y.p1.c) := HS11.out.bz.box.1; have gy1 : W11.cell? ⟨b + 1, 1, none⟩ = some (.slice y.p2.a y.p2.n y.p2.c) := HS11.out.bz.box.2.1; have gy2 : W11.cell? ⟨b + 1, 2, none⟩ = some (.slice y.p3.a y.p3.n y.p3.c) := HS11.out.bz.box.2.2.1; have gy3 : W11.cell? ⟨b + 1, 3, none⟩ = some (.slice y.p4.a y.p4.n y.p4.c) := HS11.out.bz.box.2.2.2.1; have gz0 : W11.cell? ⟨b + 2, 0, none⟩ = some (.slice z.p1.a z.p1.n z.p1.c) := HS11.out.bw.box.1; have gz1 : W11.cell? ⟨b + 2, 1, none⟩ = some (.slice z.p2.a z.p2.n z.p2.c) := HS11.out.bw.box.2.1; have gz2 : W11.cell? ⟨b + 2, 2, none⟩ = some (.slice z.p3.a z.p3.n z.p3.c) := HS11.out.bw.box.2.2.1; have gz3 : W11.cell? ⟨b + 2, 3, none⟩ = some (.slice z.p4.a z.p4.n z.p4.c) := HS11.out.bw.box.2.2.2.1; have gl1 := HS11.out.bx.lt; have gl2 := HS11.out.bz.lt; have gl3 := HS11.out.bw.lt)
                | (go_at_call 23; refine (M23.out _ HS9.out.ry HS9.out.rz).mono ?_; rintro r W10 ⟨rfl, HH4⟩; have HS10 : Hid (OS w W10 b x y z d e f) := (HS9.out).go HH4.out; have fx0 : W10.cell? ⟨b, 0, none⟩ = some (.slice x.p1.a x.p1.n x.p1.c) := HS10.out.bx.box.1; have fx1 : W10.cell? ⟨b, 1, none⟩ = some (.slice x.p2.a x.p2.n x.p2.c) := HS10.out.bx.box.2.1; have fx2 : W10.cell? ⟨b, 2, none⟩ = some (.slice x.p3.a x.p3.n x.p3.c) := HS10.out.bx.box.2.2.1; have fx3 : W10.cell? ⟨b, 3, none⟩ = some (.slice x.p4.a x.p4.n x.p4.c) := HS10.out.bx.box.2.2.2.1; have fy0 : W10.cell? ⟨b + 1, 0, none⟩ = some (.slice y.p1.a y.p1.n y.p1.c) := HS10.out.bz.box.1; have fy1 : W10.cell? ⟨b + 1, 1, none⟩ = some (.slice y.p2.a y.p2.n y.p2.c) := HS10.out.bz.box.2.1; have fy2 : W10.cell? ⟨b + 1, 2, none⟩ = some (.slice y.p3.a y.p3.n y.p3.c) := HS10.out.bz.box.2.2.1; have fy3 : W10.cell? ⟨b + 1, 3, none⟩ = some (.slice y.p4.a y.p4.n y.p4.c) := HS10.out.bz.box.2.2.2.1; have fz0 : W10.cell? ⟨b + 2, 0, none⟩ = some (.slice z.p1.a z.p1.n z.p1.c) := HS10.out.bw.box.1; have fz1 : W10.cell? ⟨b + 2, 1, none⟩ = some (.slice z.p2.a z.p2.n z.p2.c) := HS10.out.bw.box.2.1; have fz2 : W10.cell? ⟨b + 2, 2, none⟩ = some (.slice z.p3.a z.p3.n z.p3.c) := HS10.out.bw.box.2.2.1; have fz3 : W10.cell? ⟨b + 2, 3, none⟩ = some (.slice z.p4.a z.p4.n z.p4.c) := HS10.out.bw.box.2.2.2.1; have fl1 := HS10.out.bx.lt; have fl2 := HS10.out.bz.lt; have fl3 := HS10.out.bw.lt)
                | (go_at_call 23; refine (M12.out _ (HS8.out.go (Below.refl _ _).drew).rx (HS8.out.go (Below.refl _ _).drew).ry).mono ?_; rintro r W9 ⟨rfl, HH3⟩; have HS9 : Hid (OS w W9 b x y z d e f) := ((HS8.out.go (Below.refl _ _).drew)).go HH3.out; have ex0 : W9.cell? ⟨b, 0, none⟩ = some (.slice x.p1.a x.p1.n x.p1.c) := HS9.out.bx.box.1; have ex1 : W9.cell? ⟨b, 1, none⟩ = some (.slice x.p2.a x.p2.n x.p2.c) := HS9.out.bx.box.2.1; have ex2 : W9.cell? ⟨b, 2, none⟩ = some (.slice x.p3.a x.p3.n x.p3.c) := HS9.out.bx.box.2.2.1; have ex3 : W9.cell? ⟨b, 3, none⟩ = some (.slice x.p4.a x.p4.n x.p4.c) := HS9.out.bx.box.2.2.2.1; have ey0 : W9.cell? ⟨b + 1, 0, none⟩ = some (.slice y.p1.a y.p1.n y.p1.c) := HS9.out.bz.box.1; have ey1 : W9.cell? ⟨b + 1, 1, none⟩ = some (.slice y.p2.a y.p2.n y.p2.c) := HS9.out.bz.box.2.1; have ey2 : W9.cell? ⟨b + 1, 2, none⟩ = some (.slice y.p3.a y.p3.n y.p3.c) := HS9.out.bz.box.2.2.1; have ey3 : W9.cell? ⟨b + 1, 3, none⟩ = some (.slice y.p4.a y.p4.n y.p4.c) := HS9.out.bz.box.2.2.2.1; have ez0 : W9.cell? ⟨b + 2, 0, none⟩ = some (.slice z.p1.a z.p1.n z.p1.c) := HS9.out.bw.box.1; have ez1 : W9.cell? ⟨b + 2, 1, none⟩ = some (.slice z.p2.a z.p2.n z.p2.c) := HS9.out.bw.box.2.1; have ez2 : W9.cell? ⟨b + 2, 2, none⟩ = some (.slice z.p3.a z.p3.n z.p3.c) := HS9.out.bw.box.2.2.1; have ez3 : W9.cell? ⟨b + 2, 3, none⟩ = some (.slice z.p4.a z.p4.n z.p4.c) := HS9.out.bw.box.2.2.2.1; have el1 := HS9.out.bx.lt; have el2 := HS9.out.bz.lt; have el3 := HS9.out.bw.lt))
              clear cx0 cx1 cx2 cx3 cy0 cy1 cy2 cy3 cz0 cz1 cz2 cz3 cl1 cl2 cl3
              clear M12 M23 M13 HS8 HS9 HS10 HH3 HH4
              clear ex0 ex1 ex2 ex3 ey0 ey1 ey2 ey3 ez0 ez1 ez2 ez3 el1 el2 el3
              clear fx0 fx1 fx2 fx3 fy0 fy1 fy2 fy3 fz0 fz1 fz2 fz3 fl1 fl2 fl3
              go_upto_region 5 with fail
              go_cut [103] from 56 to 103 (fun s103 wx => s103 = .bool false ∧ Hid (OS w wx b x y z d e f))
              case first =>
                obtain ⟨r1, r2, r3⟩ := HR.out
                obtain ⟨m1, m2⟩ := MT.out
                have HM : Hid (OS w W11 b x y z d e f) := HS11.out
                rcases r1 with rfl | rfl | rfl <;> rcases r2 with rfl | rfl | rfl <;> rcases r3 with rfl | rfl | rfl
                all_goals first
                  | (exfalso; omega)
                  | (clear m1 m2 MT HR; go_wp2_with (first | (go_at_call 23; refine (M21.out _ HS11.out.rx HS11.out.ry).mono ?_; rintro r W12 ⟨rfl, H12⟩; have HS12 : Hid (OS w W12 b x y z d e f) := HS11.out.go H12.out; have hx0 : W12.cell? ⟨b, 0, none⟩ = some (.slice x.p1.a x.p1.n x.p1.c) := HS12.out.bx.box.1; have hx1 : W12.cell? ⟨b, 1, none⟩ = some (.slice x.p2.a x.p2.n x.p2.c) := HS12.out.bx.box.2.1; have hx2 : W12.cell? ⟨b, 2, none⟩ = some (.slice x.p3.a x.p3.n x.p3.c) := HS12.out.bx.box.2.2.1; have hx3 : W12.cell? ⟨b, 3, none⟩ = some (.slice x.p4.a x.p4.n x.p4.c) := HS12.out.bx.box.2.2.2.1; have hy0 : W12.cell? ⟨b + 1, 0, none⟩ = some (.slice y.p1.a y.p1.n y.p1.c) := HS12.out.bz.box.1; have hy1 : W12.cell? ⟨b + 1, 1, none⟩ = some (.slice y.p2.a y.p2.n y.p2.c) := HS12.out.bz.box.2.1; have hy2 : W12.cell? ⟨b + 1, 2, none⟩ = some (.slice y.p3.a y.p3.n y.p3.c) := HS12.out.bz.box.2.2.1; have hy3 : W12.cell? ⟨b + 1, 3, none⟩ = some (.slice y.p4.a y.p4.n y.p4.c) := HS12.out.bz.box.2.2.2.1; have hz0 : W12.cell? ⟨b + 2, 0, none⟩ = some (.slice z.p1.a z.p1.n z.p1.c) := HS12.out.bw.box.1; have hz1 : W12.cell? ⟨b + 2, 1, none⟩ = some (.slice z.p2.a z.p2.n z.p2.c) := HS12.out.bw.box.2.1; have hz2 : W12.cell? ⟨b + 2, 2, none⟩ = some (.slice z.p3.a z.p3.n z.p3.c) := HS12.out.bw.box.2.2.1; have hz3 : W12.cell? ⟨b + 2, 3, none⟩ = some (.slice z.p4.a z.p4.n z.p4.c) := HS12.out.bw.box.2.2.2.1; have hl1 := HS12.out.bx.lt; have hl2 := HS12.out.bz.lt; have hl3 := HS12.out.bw.lt) | (go_at_call 21; refine (MS.out _ HS12.out.rx HS12.out.ry).mono ?_; rintro r W13 ⟨rfl, H13⟩; have HS13 : Hid (OS w W13 b x y z d e f) := HS12.out.go H13.out)); go_meet; exact ⟨rfl, HS13⟩)
              case rest =>
                obtain ⟨rfl, HS14⟩ := hcut
                clear HS11 MT HR M21 MS HH5
                clear gx0 gx1 gx2 gx3 gy0 gy1 gy2 gy3 gz0 gz1 gz2 gz3 gl1 gl2 gl3
                have cx0 : wc.cell? ⟨b, 0, none⟩ = some (.slice x.p1.a x.p1.n x.p1.c) := HS14.out.bx.box.1
                have cx1 : wc.cell? ⟨b, 1, none⟩ = some (.slice x.p2.a x.p2.n x.p2.c) := HS14.out.bx.box.2.1
                have cx2 : wc.cell? ⟨b, 2, none⟩ = some (.slice x.p3.a x.p3.n x.p3.c) := HS14.out.bx.box.2.2.1
                have cx3 : wc.cell? ⟨b, 3, none⟩ = some (.slice x.p4.a x.p4.n x.p4.c) := HS14.out.bx.box.2.2.2.1
                have cy0 : wc.cell? ⟨b + 1, 0, none⟩ = some (.slice y.p1.a y.p1.n y.p1.c) := HS14.out.bz.box.1
                have cy1 : wc.cell? ⟨b + 1, 1, none⟩ = some (.slice y.p2.a y.p2.n y.p2.c) := HS14.out.bz.box.2.1
                have cy2 : wc.cell? ⟨b + 1, 2, none⟩ = some (.slice y.p3.a y.p3.n y.p3.c) := HS14.out.bz.box.2.2.1
                have cy3 : wc.cell? ⟨b + 1, 3, none⟩ = some (.slice y.p4.a y.p4.n y.p4.c) := HS14.out.bz.box.2.2.2.1
                have cz0 : wc.cell? ⟨b + 2, 0, none⟩ = some (.slice z.p1.a z.p1.n z.p1.c) := HS14.out.bw.box.1
                have cz1 : wc.cell? ⟨b + 2, 1, none⟩ = some (.slice z.p2.a z.p2.n z.p2.c) := HS14.out.bw.box.2.1
                have cz2 : wc.cell? ⟨b + 2, 2, none⟩ = some (.slice z.p3.a z.p3.n z.p3.c) := HS14.out.bw.box.2.2.1
                have cz3 : wc.cell? ⟨b + 2, 3, none⟩ = some (.slice z.p4.a z.p4.n z.p4.c) := HS14.out.bw.box.2.2.2.1
                have cl1 := HS14.out.bx.lt
                have cl2 := HS14.out.bz.lt
                have cl3 := HS14.out.bw.lt
                go_wp2_with fail
                refine (MF.out _ HS14.out.rx).mono ?_
                rintro r W15 ⟨u, rfl, H15⟩
                have hnu := new_below W15 (.cells #[.slice u.p1.a u.p1.n u.p1.c, .slice u.p2.a u.p2.n u.p2.c, .slice u.p3.a u.p3.n u.p3.c, .slice u.p4.a u.p4.n u.p4.c] 29)
                have HS16 : Hid (OS w (W15.alloc (.cells #[.slice u.p1.a u.p1.n u.p1.c, .slice u.p2.a u.p2.n u.p2.c, .slice u.p3.a u.p3.n u.p3.c, .slice u.p4.a u.p4.n u.p4.c] 29)) b x y z d e f ∧ DBlk (W15.alloc (.cells #[.slice u.p1.a u.p1.n u.p1.c, .slice u.p2.a u.p2.n u.p2.c, .slice u.p3.a u.p3.n u.p3.c, .slice u.p4.a u.p4.n u.p4.c] 29)) W15.heap.size u ∧ DRd (W15.alloc (.cells #[.slice u.p1.a u.p1.n u.p1.c, .slice u.p2.a u.p2.n u.p2.c, .slice u.p3.a u.p3.n u.p3.c, .slice u.p4.a u.p4.n u.p4.c] 29)) u FD) := ⟨(HS14.out.go H15.out.2).go hnu, heap_alloc_new _ _, H15.out.1.rd.below hnu⟩
                clear hnu H15 HS14 MF
                clear cx0 cx1 cx2 cx3 cy0 cy1 cy2 cy3 cz0 cz1 cz2 cz3 cl1 cl2 cl3
                go_upto_region 8 with fail
                generalize W15.alloc (.cells #[.slice u.p1.a u.p1.n u.p1.c, .slice u.p2.a u.p2.n u.p2.c, .slice u.p3.a u.p3.n u.p3.c, .slice u.p4.a u.p4.n u.p4.c] 29) = W16 at *
                generalize W15.heap.size = D at *
                have c0 : W16.cell? ⟨b, 0, none⟩ = some (.slice x.p1.a x.p1.n x.p1.c) := HS16.out.1.bx.box.1
                have c1 : W16.cell? ⟨b, 1, none⟩ = some (.slice x.p2.a x.p2.n x.p2.c) := HS16.out.1.bx.box.2.1
                have c2 : W16.cell? ⟨b, 2, none⟩ = some (.slice x.p3.a x.p3.n x.p3.c) := HS16.out.1.bx.box.2.2.1
                have c3 : W16.cell? ⟨b, 3, none⟩ = some (.slice x.p4.a x.p4.n x.p4.c) := HS16.out.1.bx.box.2.2.2.1
                have k0 : W16.cell? ⟨D, 0, none⟩ = some (.slice u.p1.a u.p1.n u.p1.c) := HS16.out.2.1.box.1
                have k1 : W16.cell? ⟨D, 1, none⟩ = some (.slice u.p2.a u.p2.n u.p2.c) := HS16.out.2.1.box.2.1
                have k2 : W16.cell? ⟨D, 2, none⟩ = some (.slice u.p3.a u.p3.n u.p3.c) := HS16.out.2.1.box.2.2.1
                have k3 : W16.cell? ⟨D, 3, none⟩ = some (.slice u.p4.a u.p4.n u.p4.c) := HS16.out.2.1.box.2.2.2.1
                have hbl := HS16.out.1.bx.lt
                have hDl := HS16.out.2.1.lt
                go_region_held3 (fun W => W.cell? ⟨b, 0, none⟩ = some (.slice x.p1.a x.p1.n x.p1.c) ∧ W.cell? ⟨b, 1, none⟩ = some (.slice x.p2.a x.p2.n x.p2.c) ∧ W.cell? ⟨b, 2, none⟩ = some (.slice x.p3.a x.p3.n x.p3.c) ∧ W.cell? ⟨b, 3, none⟩ = some (.slice x.p4.a x.p4.n x.p4.c) ∧ W.cell? ⟨D, 0, none⟩ = some (.slice u.p1.a u.p1.n u.p1.c) ∧ W.cell? ⟨D, 1, none⟩ = some (.slice u.p2.a u.p2.n u.p2.c) ∧ W.cell? ⟨D, 2, none⟩ = some (.slice u.p3.a u.p3.n u.p3.c) ∧ W.cell? ⟨D, 3, none⟩ = some (.slice u.p4.a u.p4.n u.p4.c)) (exact ⟨by go_keep, by go_keep, by go_keep, by go_keep, by go_keep, by go_keep, by go_keep, by go_keep⟩) (first
                  | (go_at_call 17; refine (KSD.out _ u v H18.out.1.rd HS18.out.2.2).mono ?_; rintro r W19 ⟨rfl, H19⟩; have HS19 : Hid (OS w W19 b x y z d e f ∧ DBlk W19 D u ∧ DRd W19 u FD) := ⟨(HS18.out.1).go H19.out, (HS18.out.2.1).same (H19.out.block D (HS18.out.2.1).lt), (HS18.out.2.2).below H19.out⟩; have i0 : W19.cell? ⟨b, 0, none⟩ = some (.slice x.p1.a x.p1.n x.p1.c) := HS19.out.1.bx.box.1; have i1 : W19.cell? ⟨b, 1, none⟩ = some (.slice x.p2.a x.p2.n x.p2.c) := HS19.out.1.bx.box.2.1; have i2 : W19.cell? ⟨b, 2, none⟩ = some (.slice x.p3.a x.p3.n x.p3.c) := HS19.out.1.bx.box.2.2.1; have i3 : W19.cell? ⟨b, 3, none⟩ = some (.slice x.p4.a x.p4.n x.p4.c) := HS19.out.1.bx.box.2.2.2.1; have j0 : W19.cell? ⟨D, 0, none⟩ = some (.slice u.p1.a u.p1.n u.p1.c) := HS19.out.2.1.box.1; have j1 : W19.cell? ⟨D, 1, none⟩ = some (.slice u.p2.a u.p2.n u.p2.c) := HS19.out.2.1.box.2.1; have j2 : W19.cell? ⟨D, 2, none⟩ = some (.slice u.p3.a u.p3.n u.p3.c) := HS19.out.2.1.box.2.2.1; have j3 : W19.cell? ⟨D, 3, none⟩ = some (.slice u.p4.a u.p4.n u.p4.c) := HS19.out.2.1.box.2.2.2.1; have il := HS19.out.1.bx.lt; have jl := HS19.out.2.1.lt)
                  | (go_at_call 15; refine (MFF.out _ u HS17.out.2.2).mono ?_; rintro r W18 ⟨v, rfl, H18⟩; have HS18 : Hid (OS w W18 b x y z d e f ∧ DBlk W18 D u ∧ DRd W18 u FD) := ⟨(HS17.out.1).go H18.out.2, (HS17.out.2.1).same (H18.out.2.block D (HS17.out.2.1).lt), (HS17.out.2.2).below H18.out.2⟩; have g0 : W18.cell? ⟨b, 0, none⟩ = some (.slice x.p1.a x.p1.n x.p1.c) := HS18.out.1.bx.box.1; have g1 : W18.cell? ⟨b, 1, none⟩ = some (.slice x.p2.a x.p2.n x.p2.c) := HS18.out.1.bx.box.2.1; have g2 : W18.cell? ⟨b, 2, none⟩ = some (.slice x.p3.a x.p3.n x.p3.c) := HS18.out.1.bx.box.2.2.1; have g3 : W18.cell? ⟨b, 3, none⟩ = some (.slice x.p4.a x.p4.n x.p4.c) := HS18.out.1.bx.box.2.2.2.1; have h0 : W18.cell? ⟨D, 0, none⟩ = some (.slice u.p1.a u.p1.n u.p1.c) := HS18.out.2.1.box.1; have h1 : W18.cell? ⟨D, 1, none⟩ = some (.slice u.p2.a u.p2.n u.p2.c) := HS18.out.2.1.box.2.1; have h2 : W18.cell? ⟨D, 2, none⟩ = some (.slice u.p3.a u.p3.n u.p3.c) := HS18.out.2.1.box.2.2.1; have h3 : W18.cell? ⟨D, 3, none⟩ = some (.slice u.p4.a u.p4.n u.p4.c) := HS18.out.2.1.box.2.2.2.1; have gl := HS18.out.1.bx.lt; have hl := HS18.out.2.1.lt)
                  | (go_at_call 21; refine (MSF.out _ u (HS16.out.1.go (Below.refl _ _).drew).rx (HS16.out.2.2.below (Below.refl _ _).drew)).mono ?_; rintro r W17 ⟨rfl, H17⟩; have HS17 : Hid (OS w W17 b x y z d e f ∧ DBlk W17 D u ∧ DRd W17 u FD) := ⟨(HS16.out.1.go (Below.refl _ _).drew).go H17.out, (show DBlk W16.drew D u from HS16.out.2.1).same (H17.out.block D hDl), (HS16.out.2.2.below (Below.refl _ _).drew).below H17.out⟩; have e0 : W17.cell? ⟨b, 0, none⟩ = some (.slice x.p1.a x.p1.n x.p1.c) := HS17.out.1.bx.box.1; have e1 : W17.cell? ⟨b, 1, none⟩ = some (.slice x.p2.a x.p2.n x.p2.c) := HS17.out.1.bx.box.2.1; have e2 : W17.cell? ⟨b, 2, none⟩ = some (.slice x.p3.a x.p3.n x.p3.c) := HS17.out.1.bx.box.2.2.1; have e3 : W17.cell? ⟨b, 3, none⟩ = some (.slice x.p4.a x.p4.n x.p4.c) := HS17.out.1.bx.box.2.2.2.1; have f0 : W17.cell? ⟨D, 0, none⟩ = some (.slice u.p1.a u.p1.n u.p1.c) := HS17.out.2.1.box.1; have f1 : W17.cell? ⟨D, 1, none⟩ = some (.slice u.p2.a u.p2.n u.p2.c) := HS17.out.2.1.box.2.1; have f2 : W17.cell? ⟨D, 2, none⟩ = some (.slice u.p3.a u.p3.n u.p3.c) := HS17.out.2.1.box.2.2.1; have f3 : W17.cell? ⟨D, 3, none⟩ = some (.slice u.p4.a u.p4.n u.p4.c) := HS17.out.2.1.box.2.2.2.1; have el := HS17.out.1.bx.lt; have fl := HS17.out.2.1.lt))
                all_goals
                  go_wp2_with fail
                  go_ret
                  exact ⟨rfl, HS19.out.1.bel⟩
            · have hCb3 : (C3 != 0) = true := by simp [hC3]
              clear hC3
              go_wp2_with fail
              go_ret
              exact ⟨rfl, HS8.out.bel⟩
          · have hCb2 : (C2 != 0) = true := by simp [hC2]
            clear hC2
            go_wp2_with fail
            go_ret
            exact ⟨rfl, HS7.out.bel⟩
        · have hCb1 : (C1 != 0) = true := by simp [hC1]
          clear hC1
          go_wp2_with fail
          go_ret
          exact ⟨rfl, HS6.out.bel⟩
end Go.Proofs.Ytdeoembjfdbbkaa
