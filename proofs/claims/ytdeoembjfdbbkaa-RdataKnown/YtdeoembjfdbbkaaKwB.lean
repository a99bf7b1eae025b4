/- The walk of the examples of the chapter on data. -/
import Derived.Test.YtdeoembjfdbbkaaPck
namespace Go.Proofs.Ytdeoembjfdbbkaa
open Go.ChangeShapes Go.WideShapes Go.ChangeAt Go.RowKit
set_option linter.unusedVariables false
set_option linter.unusedSimpArgs false

theorem nil_drd (W : World) : DRd W nilDA nilD := ⟨nil_nrd W, nil_urd W, nil_trd W, nil_brd W⟩
theorem raw_new (W : World) (zs : List Int) (n : Nat) (hn : zs.length = n) (hm : n ≤ 1000) (hb : ∀ z ∈ zs, 0 ≤ z ∧ z ≤ 255) : DRd (W.alloc (.cells (zs.map (Value.int .u8)).toArray 5)) ⟨⟨none, 0, 0⟩, ⟨none, 0, 0⟩, ⟨none, 0, 0⟩, ⟨some ⟨W.heap.size, 0, none⟩, n, n⟩⟩ ⟨[], [], [], zs⟩ := ⟨nil_nrd _, nil_urd _, nil_trd _, new_b W zs n hn hm hb⟩
theorem txs_new (W : World) (ss : List ByteArray) (n : Nat) (hn : ss.length = n) (hm : n ≤ 1000) (hb : ∀ x ∈ ss, x.size ≤ 9223372036854775807) : DRd (W.alloc (.cells (tv ss).toArray 9)) ⟨⟨none, 0, 0⟩, ⟨none, 0, 0⟩, ⟨some ⟨W.heap.size, 0, none⟩, n, n⟩, ⟨none, 0, 0⟩⟩ ⟨[], [], ss, []⟩ := ⟨nil_nrd _, nil_urd _, new_t W ss n hn hm hb, nil_brd _⟩
theorem caa_new (W V : World) (us : List Nat) (ss : List ByteArray) (m n : Nat) (hV : V = W.alloc (.cells (uv us).toArray 54)) (hm : us.length = m) (hm2 : m ≤ 1000) (hu : ∀ x ∈ us, x ≤ 4294967295) (hn : ss.length = n) (hn2 : n ≤ 1000) (hb : ∀ x ∈ ss, x.size ≤ 9223372036854775807) : DRd (V.alloc (.cells (tv ss).toArray 9)) ⟨⟨none, 0, 0⟩, ⟨some ⟨W.heap.size, 0, none⟩, m, m⟩, ⟨some ⟨V.heap.size, 0, none⟩, n, n⟩, ⟨none, 0, 0⟩⟩ ⟨[], us, ss, []⟩ := by
  subst hV
  exact ⟨nil_nrd _, (new_u W us m hm hm2 hu).below (new_below _ _), new_t _ ss n hn hn2 hb, nil_brd _⟩
theorem nm_new (W V : World) (ss : List ByteArray) (n : Nat) (hV : V = W.alloc (.cells (tv ss).toArray 9)) (hn : ss.length = n) (hn2 : n ≤ 1000) (hb : ∀ x ∈ ss, x.size ≤ 9223372036854775807) : NRd (V.alloc (.cells #[.slice (some ⟨W.heap.size, 0, none⟩) n n] 53)) ⟨some ⟨V.heap.size, 0, none⟩, 1, 1⟩ [ss] := by
  subst hV
  exact new_n1 _ ⟨some ⟨W.heap.size, 0, none⟩, n, n⟩ ss (new_t W ss n hn hn2 hb)
/-- What is carried along: bytes that were told, and the box of what was read. -/
structure KnS (w W : World) (a : Option Addr) : Prop where
  bel : Below w.heap.size w W
  rd : Rd W a [1, 2, 3, 4]
theorem KnS.go {w W W' : World} {a : Option Addr} (h : KnS w W a) (hb : Below W.heap.size W W') : KnS w W' a := ⟨h.bel.trans (hb.mono h.bel.size), h.rd.below hb⟩
theorem KnS.al {w W : World} {a : Option Addr} (h : KnS w W a) (o : Obj) : KnS w (W.alloc o) a := h.go (new_below _ _)
structure KnT (w W : World) (a : Option Addr) (D : Nat) (x : DA) : Prop where
  s : KnS w W a
  blk : DBlk W D x
  raw : BRd W x.p4 [7, 7]
theorem KnT.go {w W W' : World} {a : Option Addr} {D : Nat} {x : DA} (h : KnT w W a D x) (hb : Below W.heap.size W W') : KnT w W' a D x := ⟨h.s.go hb, h.blk.same (hb.block D h.blk.lt), h.raw.below hb⟩
theorem KnT.al {w W : World} {a : Option Addr} {D : Nat} {x : DA} (h : KnT w W a D x) (o : Obj) : KnT w (W.alloc o) a D x := h.go (new_below _ _)
theorem rd16 : readF 16 [] = (nilD, 8) := by
  have h := readF_at 16 [] (by simp) (by decide) (by simp)
  have e1 : (pread (fs 16) [] ([] : List Int).length).2 = some ([] : List Int).length := by decide +kernel
  have e2 : checkF 16 (pread (fs 16) [] ([] : List Int).length).1 = 7 := by decide +kernel
  rw [h, if_pos e1, e2]
  rfl
theorem rd15 : readF 15 [0, 10] = (nilD, 8) := by
  have h := readF_at 15 [0, 10] (by decide) (by decide) (by decide)
  have e1 : (pread (fs 15) [0, 10] ([0, 10] : List Int).length).2 ≠ some ([0, 10] : List Int).length := by decide +kernel
  rw [h, if_neg e1]
theorem rd99 : readF 99 [7, 7] = (⟨[], [], [], [7, 7]⟩, 0) := readF_write 99 ⟨[], [], [], [7, 7]⟩ _ (by decide +kernel) (by decide +kernel) (by decide)
set_option maxRecDepth 100000 in
set_option maxHeartbeats 16000000 in
theorem known_any (w : World) : Calls Try.prog 7 #[] w fun e w' => e = .returned (.bool true) ∧ Below w.heap.size w w' := by
  have h0 : DRd (w.alloc (.cells #[.int .u8 1, .int .u8 2, .int .u8 3, .int .u8 4] 5)) ⟨⟨none, 0, 0⟩, ⟨none, 0, 0⟩, ⟨none, 0, 0⟩, ⟨some ⟨w.heap.size, 0, none⟩, 4, 4⟩⟩ ⟨[], [], [], [1, 2, 3, 4]⟩ := raw_new w [1, 2, 3, 4] 4 rfl (by omega) (by decide)
  have K0 : Hid (Calls Try.prog 10 #[.int .u16 1, .agg #[.slice none 0 0, .slice none 0 0, .slice none 0 0, .slice (some ⟨w.heap.size, 0, none⟩) 4 4]] (w.alloc (.cells #[.int .u8 1, .int .u8 2, .int .u8 3, .int .u8 4] 5)) fun e w' => ∃ s : Sl, e = .returned (.tuple #[.slice s.a s.n s.c, .int .i64 0]) ∧ Hid (s.n = 4 ∧ KnS w w' s.a)) := by
    have hk := bytes5_any 1 _ _ _ h0 ⟨by decide, by decide, by decide, by decide +kernel, by decide⟩
    have e1 : checkF 1 ⟨[], [], [], [1, 2, 3, 4]⟩ = 0 := by decide +kernel
    have e2 : writeF 1 ⟨[], [], [], [1, 2, 3, 4]⟩ = [1, 2, 3, 4] := by decide +kernel
    rw [e1, e2] at hk
    refine Calls.mono hk ?_
    rintro e w' ⟨s, rfl, H⟩
    obtain ⟨_, _, _, q4, _, q6⟩ := H.out
    exact ⟨s, rfl, (q4 rfl).1, (new_below _ _).trans (q6.mono (new_below _ _).size), (q4 rfl).2⟩
  clear h0
  go_enter Try.func7, Try.ntmps7
  go_wp2_with fail
  refine K0.out.mono ?_
  rintro e W1 ⟨s, rfl, H1⟩
  have HS1 : Hid (KnS w W1 s.a) := H1.out.2
  have hsn : s.n = 4 := H1.out.1
  clear K0 H1
  obtain ⟨sa, sn, sc⟩ := s
  simp only at hsn HS1 ⊢
  subst hsn
  have hd : DRd (W1.alloc (.cells #[.int .u8 1, .int .u8 2, .int .u8 3] 5)) ⟨⟨none, 0, 0⟩, ⟨none, 0, 0⟩, ⟨none, 0, 0⟩, ⟨some ⟨W1.heap.size, 0, none⟩, 3, 3⟩⟩ ⟨[], [], [], [1, 2, 3]⟩ := raw_new W1 [1, 2, 3] 3 rfl (by omega) (by decide)
  have KK : Hid (Calls Try.prog 13 #[.int .u16 1, .agg #[.slice none 0 0, .slice none 0 0, .slice none 0 0, .slice (some ⟨W1.heap.size, 0, none⟩) 3 3]] (W1.alloc (.cells #[.int .u8 1, .int .u8 2, .int .u8 3] 5)) fun e w' => e = .returned (.int .i64 7) ∧ Hid (KnS w w' sa)) := by
    have hk := check_any 1 _ _ _ hd ⟨by decide, by decide, by decide, by decide +kernel, by decide⟩
    have e1 : checkF 1 ⟨[], [], [], [1, 2, 3]⟩ = 7 := by decide +kernel
    rw [e1] at hk
    refine Calls.mono hk ?_
    rintro e w' ⟨rfl, H⟩
    exact ⟨rfl, (HS1.out.al _).go H.out⟩
  clear hd
  go_wp2_with fail
  refine KK.out.mono ?_
  rintro e W2 ⟨rfl, HS2⟩
  clear KK HS1
  have hd : DRd W2 nilDA nilD := nil_drd _
  have KK : Hid (Calls Try.prog 13 #[.int .u16 2, .agg #[.slice none 0 0, .slice none 0 0, .slice none 0 0, .slice none 0 0]] W2 fun e w' => e = .returned (.int .i64 7) ∧ Hid (KnS w w' sa)) := by
    have hk := check_any 2 _ _ _ hd ⟨by decide, by decide, by decide, by decide +kernel, by decide⟩
    have e1 : checkF 2 nilD = 7 := by decide +kernel
    rw [e1] at hk
    refine Calls.mono hk ?_
    rintro e w' ⟨rfl, H⟩
    exact ⟨rfl, HS2.out.go H.out⟩
  clear hd
  go_wp2_with fail
  refine KK.out.mono ?_
  rintro e W3 ⟨rfl, HS3⟩
  clear KK HS2
  have hd : DRd W3 nilDA nilD := nil_drd _
  have KK : Hid (Calls Try.prog 13 #[.int .u16 255, .agg #[.slice none 0 0, .slice none 0 0, .slice none 0 0, .slice none 0 0]] W3 fun e w' => e = .returned (.int .i64 6) ∧ Hid (KnS w w' sa)) := by
    have hk := check_any 255 _ _ _ hd ⟨by decide, by decide, by decide, by decide +kernel, by decide⟩
    have e1 : checkF 255 nilD = 6 := by decide +kernel
    rw [e1] at hk
    refine Calls.mono hk ?_
    rintro e w' ⟨rfl, H⟩
    exact ⟨rfl, HS3.out.go H.out⟩
  clear hd
  go_wp2_with fail
  refine KK.out.mono ?_
  rintro e W4 ⟨rfl, HS4⟩
  clear KK HS3
  have hd : DRd W4 nilDA nilD := nil_drd _
  have KK : Hid (Calls Try.prog 13 #[.int .u16 16, .agg #[.slice none 0 0, .slice none 0 0, .slice none 0 0, .slice none 0 0]] W4 fun e w' => e = .returned (.int .i64 7) ∧ Hid (KnS w w' sa)) := by
    have hk := check_any 16 _ _ _ hd ⟨by decide, by decide, by decide, by decide +kernel, by decide⟩
    have e1 : checkF 16 nilD = 7 := by decide +kernel
    rw [e1] at hk
    refine Calls.mono hk ?_
    rintro e w' ⟨rfl, H⟩
    exact ⟨rfl, HS4.out.go H.out⟩
  clear hd
  go_wp2_with fail
  refine KK.out.mono ?_
  rintro e W5 ⟨rfl, HS5⟩
  clear KK HS4
  have hd : DRd (W5.alloc (.cells #[.string ⟨#[]⟩] 9)) ⟨⟨none, 0, 0⟩, ⟨none, 0, 0⟩, ⟨some ⟨W5.heap.size, 0, none⟩, 1, 1⟩, ⟨none, 0, 0⟩⟩ ⟨[], [], [⟨#[]⟩], []⟩ := txs_new W5 [⟨#[]⟩] 1 rfl (by omega) (by decide)
  have KK : Hid (Calls Try.prog 13 #[.int .u16 16, .agg #[.slice none 0 0, .slice none 0 0, .slice (some ⟨W5.heap.size, 0, none⟩) 1 1, .slice none 0 0]] (W5.alloc (.cells #[.string ⟨#[]⟩] 9)) fun e w' => e = .returned (.int .i64 0) ∧ Hid (KnS w w' sa)) := by
    have hk := check_any 16 _ _ _ hd ⟨by decide, by decide, by decide, by decide +kernel, by decide⟩
    have e1 : checkF 16 ⟨[], [], [⟨#[]⟩], []⟩ = 0 := by decide +kernel
    rw [e1] at hk
    refine Calls.mono hk ?_
    rintro e w' ⟨rfl, H⟩
    exact ⟨rfl, (HS5.out.al _).go H.out⟩
  clear hd
  go_wp2_with fail
  refine KK.out.mono ?_
  rintro e W6 ⟨rfl, HS6⟩
  clear KK HS5
  have hd : DRd W6 nilDA nilD := nil_drd _
  have KK : Hid (Calls Try.prog 13 #[.int .u16 0, .agg #[.slice none 0 0, .slice none 0 0, .slice none 0 0, .slice none 0 0]] W6 fun e w' => e = .returned (.int .i64 6) ∧ Hid (KnS w w' sa)) := by
    have hk := check_any 0 _ _ _ hd ⟨by decide, by decide, by decide, by decide +kernel, by decide⟩
    have e1 : checkF 0 nilD = 6 := by decide +kernel
    rw [e1] at hk
    refine Calls.mono hk ?_
    rintro e w' ⟨rfl, H⟩
    exact ⟨rfl, HS6.out.go H.out⟩
  clear hd
  go_wp2_with fail
  refine KK.out.mono ?_
  rintro e W7 ⟨rfl, HS7⟩
  clear KK HS6
  have hd : BRd W7 ⟨none, 0, 0⟩ [] := nil_brd _
  have KK : Hid (Calls Try.prog 27 #[.int .u16 16, .slice none 0 0] W7 fun e w' => ∃ u : DA, e = .returned (.tuple #[.agg #[.slice u.p1.a u.p1.n u.p1.c, .slice u.p2.a u.p2.n u.p2.c, .slice u.p3.a u.p3.n u.p3.c, .slice u.p4.a u.p4.n u.p4.c], .int .i64 8]) ∧ Hid (KnS w w' sa)) := by
    have hk := read5_any 16 _ _ _ _ _ hd.rd hd.len hd.cap hd.nil
    rw [rd16] at hk
    refine Calls.mono hk ?_
    rintro e w' ⟨u, rfl, H⟩
    exact ⟨u, rfl, HS7.out.go H.out.2⟩
  clear hd
  go_wp2_with fail
  refine KK.out.mono ?_
  rintro e V8 ⟨u7, rfl, GG⟩
  have HS8 : Hid (KnS w (V8.alloc (.cells #[.slice u7.p1.a u7.p1.n u7.p1.c, .slice u7.p2.a u7.p2.n u7.p2.c, .slice u7.p3.a u7.p3.n u7.p3.c, .slice u7.p4.a u7.p4.n u7.p4.c] 29)) sa) := GG.out.al _
  clear KK GG HS7
  go_upto_region 4 with fail
  generalize V8.alloc (.cells #[.slice u7.p1.a u7.p1.n u7.p1.c, .slice u7.p2.a u7.p2.n u7.p2.c, .slice u7.p3.a u7.p3.n u7.p3.c, .slice u7.p4.a u7.p4.n u7.p4.c] 29) = W8 at *
  have hd : BRd (W8.alloc (.cells #[.int .u8 0, .int .u8 10] 5)) ⟨some ⟨W8.heap.size, 0, none⟩, 2, 2⟩ [0, 10] := new_b W8 [0, 10] 2 rfl (by omega) (by decide)
  have KK : Hid (Calls Try.prog 27 #[.int .u16 15, .slice (some ⟨W8.heap.size, 0, none⟩) 2 2] (W8.alloc (.cells #[.int .u8 0, .int .u8 10] 5)) fun e w' => ∃ u : DA, e = .returned (.tuple #[.agg #[.slice u.p1.a u.p1.n u.p1.c, .slice u.p2.a u.p2.n u.p2.c, .slice u.p3.a u.p3.n u.p3.c, .slice u.p4.a u.p4.n u.p4.c], .int .i64 8]) ∧ Hid (KnS w w' sa)) := by
    have hk := read5_any 15 _ _ _ _ _ hd.rd hd.len hd.cap hd.nil
    rw [rd15] at hk
    refine Calls.mono hk ?_
    rintro e w' ⟨u, rfl, H⟩
    exact ⟨u, rfl, (HS8.out.al _).go H.out.2⟩
  clear hd
  go_wp2_with fail
  refine KK.out.mono ?_
  rintro e V9 ⟨u8, rfl, GG⟩
  have HS9 : Hid (KnS w (V9.alloc (.cells #[.slice u8.p1.a u8.p1.n u8.p1.c, .slice u8.p2.a u8.p2.n u8.p2.c, .slice u8.p3.a u8.p3.n u8.p3.c, .slice u8.p4.a u8.p4.n u8.p4.c] 29)) sa) := GG.out.al _
  clear KK GG HS8
  go_upto_region 5 with fail
  generalize V9.alloc (.cells #[.slice u8.p1.a u8.p1.n u8.p1.c, .slice u8.p2.a u8.p2.n u8.p2.c, .slice u8.p3.a u8.p3.n u8.p3.c, .slice u8.p4.a u8.p4.n u8.p4.c] 29) = W9 at *
  have hd : BRd (W9.alloc (.cells #[.int .u8 7, .int .u8 7] 5)) ⟨some ⟨W9.heap.size, 0, none⟩, 2, 2⟩ [7, 7] := new_b W9 [7, 7] 2 rfl (by omega) (by decide)
  have KK : Hid (Calls Try.prog 27 #[.int .u16 99, .slice (some ⟨W9.heap.size, 0, none⟩) 2 2] (W9.alloc (.cells #[.int .u8 7, .int .u8 7] 5)) fun e w' => ∃ u : DA, e = .returned (.tuple #[.agg #[.slice u.p1.a u.p1.n u.p1.c, .slice u.p2.a u.p2.n u.p2.c, .slice u.p3.a u.p3.n u.p3.c, .slice u.p4.a u.p4.n u.p4.c], .int .i64 0]) ∧ Hid (KnS w w' sa ∧ BRd w' u.p4 [7, 7])) := by
    have hk := read5_any 99 _ _ _ _ _ hd.rd hd.len hd.cap hd.nil
    rw [rd99] at hk
    refine Calls.mono hk ?_
    rintro e w' ⟨u, rfl, H⟩
    exact ⟨u, rfl, (HS9.out.al _).go H.out.2, H.out.1.2.2.2.rd⟩
  clear hd
  go_wp2_with fail
  refine KK.out.mono ?_
  rintro e V10 ⟨u9, rfl, GG⟩
  have HS10 : Hid (KnT w (V10.alloc (.cells #[.slice u9.p1.a u9.p1.n u9.p1.c, .slice u9.p2.a u9.p2.n u9.p2.c, .slice u9.p3.a u9.p3.n u9.p3.c, .slice u9.p4.a u9.p4.n u9.p4.c] 29)) sa V10.heap.size u9) := ⟨GG.out.1.al _, heap_alloc_new _ _, GG.out.2.below (new_below _ _)⟩
  clear KK GG HS9
  go_upto_region 6 with fail
  generalize V10.alloc (.cells #[.slice u9.p1.a u9.p1.n u9.p1.c, .slice u9.p2.a u9.p2.n u9.p2.c, .slice u9.p3.a u9.p3.n u9.p3.c, .slice u9.p4.a u9.p4.n u9.p4.c] 29) = W10 at *
  generalize V10.heap.size = D at *
  obtain ⟨x, hx⟩ : ∃ x : DA, x = u9 := ⟨_, rfl⟩
  rw [← hx] at HS10
  clear hx
  have a1 : NRd ((W10.alloc (.cells #[.string ⟨#[65]⟩] 9)).alloc (.cells #[.slice (some ⟨W10.heap.size, 0, none⟩) 1 1] 53)) ⟨some ⟨W10.heap.size + 1, 0, none⟩, 1, 1⟩ [[⟨#[65]⟩]] := by
    have := nm_new W10 _ [⟨#[65]⟩] 1 rfl rfl (by omega) (by decide)
    have e : (W10.alloc (.cells (tv [⟨#[65]⟩]).toArray 9)).heap.size = W10.heap.size + 1 := by simp
    rw [e] at this
    exact this
  have ez : ((W10.alloc (.cells #[.string ⟨#[65]⟩] 9)).alloc (.cells #[.slice (some ⟨W10.heap.size, 0, none⟩) 1 1] 53)).heap.size = W10.heap.size + 1 + 1 := by simp
  have a2 : NRd ((((W10.alloc (.cells #[.string ⟨#[65]⟩] 9)).alloc (.cells #[.slice (some ⟨W10.heap.size, 0, none⟩) 1 1] 53)).alloc (.cells #[.string ⟨#[97]⟩] 9)).alloc (.cells #[.slice (some ⟨W10.heap.size + 1 + 1, 0, none⟩) 1 1] 53)) ⟨some ⟨W10.heap.size + 1 + 1 + 1, 0, none⟩, 1, 1⟩ [[⟨#[97]⟩]] := by
    have := nm_new ((W10.alloc (.cells #[.string ⟨#[65]⟩] 9)).alloc (.cells #[.slice (some ⟨W10.heap.size, 0, none⟩) 1 1] 53)) _ [⟨#[97]⟩] 1 rfl rfl (by omega) (by decide)
    have e : (((W10.alloc (.cells #[.string ⟨#[65]⟩] 9)).alloc (.cells #[.slice (some ⟨W10.heap.size, 0, none⟩) 1 1] 53)).alloc (.cells (tv [⟨#[97]⟩]).toArray 9)).heap.size = W10.heap.size + 1 + 1 + 1 := by simp
    rw [e, ez] at this
    exact this
  have hd1 : DRd ((((W10.alloc (.cells #[.string ⟨#[65]⟩] 9)).alloc (.cells #[.slice (some ⟨W10.heap.size, 0, none⟩) 1 1] 53)).alloc (.cells #[.string ⟨#[97]⟩] 9)).alloc (.cells #[.slice (some ⟨W10.heap.size + 1 + 1, 0, none⟩) 1 1] 53)) ⟨⟨some ⟨W10.heap.size + 1, 0, none⟩, 1, 1⟩, ⟨none, 0, 0⟩, ⟨none, 0, 0⟩, ⟨none, 0, 0⟩⟩ ⟨[[⟨#[65]⟩]], [], [], []⟩ := ⟨(a1.below (new_below _ _)).below (new_below _ _), nil_urd _, nil_trd _, nil_brd _⟩
  have hd2 : DRd ((((W10.alloc (.cells #[.string ⟨#[65]⟩] 9)).alloc (.cells #[.slice (some ⟨W10.heap.size, 0, none⟩) 1 1] 53)).alloc (.cells #[.string ⟨#[97]⟩] 9)).alloc (.cells #[.slice (some ⟨W10.heap.size + 1 + 1, 0, none⟩) 1 1] 53)) ⟨⟨some ⟨W10.heap.size + 1 + 1 + 1, 0, none⟩, 1, 1⟩, ⟨none, 0, 0⟩, ⟨none, 0, 0⟩, ⟨none, 0, 0⟩⟩ ⟨[[⟨#[97]⟩]], [], [], []⟩ := ⟨a2, nil_urd _, nil_trd _, nil_brd _⟩
  have KK : Hid (Calls Try.prog 21 #[.int .u16 2, .agg #[.slice (some ⟨W10.heap.size + 1, 0, none⟩) 1 1, .slice none 0 0, .slice none 0 0, .slice none 0 0], .agg #[.slice (some ⟨W10.heap.size + 1 + 1 + 1, 0, none⟩) 1 1, .slice none 0 0, .slice none 0 0, .slice none 0 0]] ((((W10.alloc (.cells #[.string ⟨#[65]⟩] 9)).alloc (.cells #[.slice (some ⟨W10.heap.size, 0, none⟩) 1 1] 53)).alloc (.cells #[.string ⟨#[97]⟩] 9)).alloc (.cells #[.slice (some ⟨W10.heap.size + 1 + 1, 0, none⟩) 1 1] 53)) fun e w' => e = .returned (.bool true) ∧ Hid (KnT w w' sa D x)) := by
    have hk := same5_any 2 _ _ _ _ _ hd1 hd2 ⟨by decide, by decide, by decide, by decide +kernel, by decide⟩ ⟨by decide, by decide, by decide, by decide +kernel, by decide⟩
    have e1 : sameF 2 ⟨[[⟨#[65]⟩]], [], [], []⟩ ⟨[[⟨#[97]⟩]], [], [], []⟩ = true := by decide +kernel
    rw [e1] at hk
    refine Calls.mono hk ?_
    rintro e w' ⟨rfl, H⟩
    exact ⟨rfl, ((((HS10.out.al _).al _).al _).al _).go H.out⟩
  clear hd1 hd2
  go_wp2_with fail
  clear a1 a2 ez
  refine KK.out.mono ?_
  rintro e W11 ⟨rfl, HS11⟩
  clear KK HS10
  have hd1 : DRd ((W11.alloc (.cells #[.string ⟨#[65]⟩] 9)).alloc (.cells #[.string ⟨#[97]⟩] 9)) ⟨⟨none, 0, 0⟩, ⟨none, 0, 0⟩, ⟨some ⟨W11.heap.size, 0, none⟩, 1, 1⟩, ⟨none, 0, 0⟩⟩ ⟨[], [], [⟨#[65]⟩], []⟩ := (txs_new W11 [⟨#[65]⟩] 1 rfl (by omega) (by decide)).below (new_below _ _)
  have hd2 : DRd ((W11.alloc (.cells #[.string ⟨#[65]⟩] 9)).alloc (.cells #[.string ⟨#[97]⟩] 9)) ⟨⟨none, 0, 0⟩, ⟨none, 0, 0⟩, ⟨some ⟨W11.heap.size + 1, 0, none⟩, 1, 1⟩, ⟨none, 0, 0⟩⟩ ⟨[], [], [⟨#[97]⟩], []⟩ := by
    have := txs_new (W11.alloc (.cells #[.string ⟨#[65]⟩] 9)) [⟨#[97]⟩] 1 rfl (by omega) (by decide)
    have e : (W11.alloc (.cells #[.string ⟨#[65]⟩] 9)).heap.size = W11.heap.size + 1 := by simp
    rw [e] at this
    exact this
  have KK : Hid (Calls Try.prog 21 #[.int .u16 16, .agg #[.slice none 0 0, .slice none 0 0, .slice (some ⟨W11.heap.size, 0, none⟩) 1 1, .slice none 0 0], .agg #[.slice none 0 0, .slice none 0 0, .slice (some ⟨W11.heap.size + 1, 0, none⟩) 1 1, .slice none 0 0]] ((W11.alloc (.cells #[.string ⟨#[65]⟩] 9)).alloc (.cells #[.string ⟨#[97]⟩] 9)) fun e w' => e = .returned (.bool false) ∧ Hid (KnT w w' sa D x)) := by
    have hk := same5_any 16 _ _ _ _ _ hd1 hd2 ⟨by decide, by decide, by decide, by decide +kernel, by decide⟩ ⟨by decide, by decide, by decide, by decide +kernel, by decide⟩
    have e1 : sameF 16 ⟨[], [], [⟨#[65]⟩], []⟩ ⟨[], [], [⟨#[97]⟩], []⟩ = false := by decide +kernel
    rw [e1] at hk
    refine Calls.mono hk ?_
    rintro e w' ⟨rfl, H⟩
    exact ⟨rfl, ((HS11.out.al _).al _).go H.out⟩
  clear hd1 hd2
  go_wp2_with fail
  refine KK.out.mono ?_
  rintro e W12 ⟨rfl, HS12⟩
  clear KK HS11
  have hd1 : DRd ((W12.alloc (.cells #[.int .u8 1, .int .u8 2, .int .u8 3, .int .u8 4] 5)).alloc (.cells #[.int .u8 1, .int .u8 2, .int .u8 3, .int .u8 5] 5)) ⟨⟨none, 0, 0⟩, ⟨none, 0, 0⟩, ⟨none, 0, 0⟩, ⟨some ⟨W12.heap.size, 0, none⟩, 4, 4⟩⟩ ⟨[], [], [], [1, 2, 3, 4]⟩ := (raw_new W12 [1, 2, 3, 4] 4 rfl (by omega) (by decide)).below (new_below _ _)
  have hd2 : DRd ((W12.alloc (.cells #[.int .u8 1, .int .u8 2, .int .u8 3, .int .u8 4] 5)).alloc (.cells #[.int .u8 1, .int .u8 2, .int .u8 3, .int .u8 5] 5)) ⟨⟨none, 0, 0⟩, ⟨none, 0, 0⟩, ⟨none, 0, 0⟩, ⟨some ⟨W12.heap.size + 1, 0, none⟩, 4, 4⟩⟩ ⟨[], [], [], [1, 2, 3, 5]⟩ := by
    have := raw_new (W12.alloc (.cells #[.int .u8 1, .int .u8 2, .int .u8 3, .int .u8 4] 5)) [1, 2, 3, 5] 4 rfl (by omega) (by decide)
    have e : (W12.alloc (.cells #[.int .u8 1, .int .u8 2, .int .u8 3, .int .u8 4] 5)).heap.size = W12.heap.size + 1 := by simp
    rw [e] at this
    exact this
  have KK : Hid (Calls Try.prog 23 #[.int .u16 1, .agg #[.slice none 0 0, .slice none 0 0, .slice none 0 0, .slice (some ⟨W12.heap.size, 0, none⟩) 4 4], .agg #[.slice none 0 0, .slice none 0 0, .slice none 0 0, .slice (some ⟨W12.heap.size + 1, 0, none⟩) 4 4]] ((W12.alloc (.cells #[.int .u8 1, .int .u8 2, .int .u8 3, .int .u8 4] 5)).alloc (.cells #[.int .u8 1, .int .u8 2, .int .u8 3, .int .u8 5] 5)) fun e w' => e = .returned (.int .i64 (-1)) ∧ Hid (KnT w w' sa D x)) := by
    have hk := compare5_any 1 _ _ _ _ _ hd1 hd2 ⟨by decide, by decide, by decide, by decide +kernel, by decide⟩ ⟨by decide, by decide, by decide, by decide +kernel, by decide⟩
    have e1 : compareF 1 ⟨[], [], [], [1, 2, 3, 4]⟩ ⟨[], [], [], [1, 2, 3, 5]⟩ = -1 := by decide +kernel
    rw [e1] at hk
    refine Calls.mono hk ?_
    rintro e w' ⟨rfl, H⟩
    exact ⟨rfl, ((HS12.out.al _).al _).go H.out⟩
  clear hd1 hd2
  go_wp2_with fail
  refine KK.out.mono ?_
  rintro e W13 ⟨rfl, HS13⟩
  clear KK HS12
  have hd : DRd ((W13.alloc (.cells #[.int .u32 0] 54)).alloc (.cells #[.string ⟨#[105, 115, 115, 117, 101]⟩, .string ⟨#[120]⟩] 9)) ⟨⟨none, 0, 0⟩, ⟨some ⟨W13.heap.size, 0, none⟩, 1, 1⟩, ⟨some ⟨W13.heap.size + 1, 0, none⟩, 2, 2⟩, ⟨none, 0, 0⟩⟩ ⟨[], [0], [⟨#[105, 115, 115, 117, 101]⟩, ⟨#[120]⟩], []⟩ := by
    have := caa_new W13 _ [0] [⟨#[105, 115, 115, 117, 101]⟩, ⟨#[120]⟩] 1 2 rfl rfl (by omega) (by decide) rfl (by omega) (by decide)
    have e : (W13.alloc (.cells (uv [0]).toArray 54)).heap.size = W13.heap.size + 1 := by simp
    rw [e] at this
    exact this
  have KK : Hid (Calls Try.prog 13 #[.int .u16 257, .agg #[.slice none 0 0, .slice (some ⟨W13.heap.size, 0, none⟩) 1 1, .slice (some ⟨W13.heap.size + 1, 0, none⟩) 2 2, .slice none 0 0]] ((W13.alloc (.cells #[.int .u32 0] 54)).alloc (.cells #[.string ⟨#[105, 115, 115, 117, 101]⟩, .string ⟨#[120]⟩] 9)) fun e w' => e = .returned (.int .i64 0) ∧ Hid (KnT w w' sa D x)) := by
    have hk := check_any 257 _ _ _ hd ⟨by decide, by decide, by decide, by decide +kernel, by decide⟩
    have e1 : checkF 257 ⟨[], [0], [⟨#[105, 115, 115, 117, 101]⟩, ⟨#[120]⟩], []⟩ = 0 := by decide +kernel
    rw [e1] at hk
    refine Calls.mono hk ?_
    rintro e w' ⟨rfl, H⟩
    exact ⟨rfl, ((HS13.out.al _).al _).go H.out⟩
  clear hd
  go_wp2_with fail
  refine KK.out.mono ?_
  rintro e W14 ⟨rfl, HS14⟩
  clear KK HS13
  have hd : DRd ((W14.alloc (.cells #[.int .u32 0] 54)).alloc (.cells #[.string ⟨#[105, 115, 45, 115, 117, 101]⟩, .string ⟨#[120]⟩] 9)) ⟨⟨none, 0, 0⟩, ⟨some ⟨W14.heap.size, 0, none⟩, 1, 1⟩, ⟨some ⟨W14.heap.size + 1, 0, none⟩, 2, 2⟩, ⟨none, 0, 0⟩⟩ ⟨[], [0], [⟨#[105, 115, 45, 115, 117, 101]⟩, ⟨#[120]⟩], []⟩ := by
    have := caa_new W14 _ [0] [⟨#[105, 115, 45, 115, 117, 101]⟩, ⟨#[120]⟩] 1 2 rfl rfl (by omega) (by decide) rfl (by omega) (by decide)
    have e : (W14.alloc (.cells (uv [0]).toArray 54)).heap.size = W14.heap.size + 1 := by simp
    rw [e] at this
    exact this
  have KK : Hid (Calls Try.prog 13 #[.int .u16 257, .agg #[.slice none 0 0, .slice (some ⟨W14.heap.size, 0, none⟩) 1 1, .slice (some ⟨W14.heap.size + 1, 0, none⟩) 2 2, .slice none 0 0]] ((W14.alloc (.cells #[.int .u32 0] 54)).alloc (.cells #[.string ⟨#[105, 115, 45, 115, 117, 101]⟩, .string ⟨#[120]⟩] 9)) fun e w' => e = .returned (.int .i64 7) ∧ Hid (KnT w w' sa D x)) := by
    have hk := check_any 257 _ _ _ hd ⟨by decide, by decide, by decide, by decide +kernel, by decide⟩
    have e1 : checkF 257 ⟨[], [0], [⟨#[105, 115, 45, 115, 117, 101]⟩, ⟨#[120]⟩], []⟩ = 7 := by decide +kernel
    rw [e1] at hk
    refine Calls.mono hk ?_
    rintro e w' ⟨rfl, H⟩
    exact ⟨rfl, ((HS14.out.al _).al _).go H.out⟩
  clear hd
  go_wp2_with fail
  refine KK.out.mono ?_
  rintro e W15 ⟨rfl, HS15⟩
  clear KK HS14
  have hd : DRd (((W15.alloc (.cells #[.int .u32 65536] 54)).alloc (.cells #[] 9)).alloc (.cells #[.slice (some ⟨W15.heap.size + 1, 0, none⟩) 0 0] 53)) ⟨⟨some ⟨W15.heap.size + 1 + 1, 0, none⟩, 1, 1⟩, ⟨some ⟨W15.heap.size, 0, none⟩, 1, 1⟩, ⟨none, 0, 0⟩, ⟨none, 0, 0⟩⟩ ⟨[[]], [65536], [], []⟩ := by
    have a1 := nm_new (W15.alloc (.cells #[.int .u32 65536] 54)) _ [] 0 rfl rfl (by omega) (by simp)
    have e : (W15.alloc (.cells #[.int .u32 65536] 54)).heap.size = W15.heap.size + 1 := by simp
    have e2 : ((W15.alloc (.cells #[.int .u32 65536] 54)).alloc (.cells (tv []).toArray 9)).heap.size = W15.heap.size + 1 + 1 := by simp
    rw [e2, e] at a1
    have a2 := new_u W15 [65536] 1 rfl (by omega) (by decide)
    exact ⟨a1, (a2.below (new_below _ _)).below (new_below _ _), nil_trd _, nil_brd _⟩
  have KK : Hid (Calls Try.prog 13 #[.int .u16 15, .agg #[.slice (some ⟨W15.heap.size + 1 + 1, 0, none⟩) 1 1, .slice (some ⟨W15.heap.size, 0, none⟩) 1 1, .slice none 0 0, .slice none 0 0]] (((W15.alloc (.cells #[.int .u32 65536] 54)).alloc (.cells #[] 9)).alloc (.cells #[.slice (some ⟨W15.heap.size + 1, 0, none⟩) 0 0] 53)) fun e w' => e = .returned (.int .i64 7) ∧ Hid (KnT w w' sa D x)) := by
    have hk := check_any 15 _ _ _ hd ⟨by decide, by decide, by decide, by decide +kernel, by decide⟩
    have e1 : checkF 15 ⟨[[]], [65536], [], []⟩ = 7 := by decide +kernel
    rw [e1] at hk
    refine Calls.mono hk ?_
    rintro e w' ⟨rfl, H⟩
    exact ⟨rfl, (((HS15.out.al _).al _).al _).go H.out⟩
  clear hd
  go_wp2_with fail
  refine KK.out.mono ?_
  rintro e W16 ⟨rfl, HS16⟩
  clear KK HS15
  go_wp2_with fail
  refine (awake_any _).mono ?_
  rintro e W17 ⟨rfl, H17⟩
  have HS17 : Hid (KnT w W17 sa D x) := HS16.out.go H17.out
  clear HS16 H17
  have hcv : (convert 27 9 (.slice sa 4 sc)).run Try.prog W17 = .ok (.string ⟨#[1, 2, 3, 4]⟩) W17 := conv_rd sa 4 sc [1, 2, 3, 4] W17 HS17.out.s.rd rfl
  obtain ⟨x1, x2, x3, ⟨a4, n4, c4⟩⟩ := x
  have hn4 : n4 = 2 := HS17.out.raw.len.symm
  subst hn4
  have d3 : W17.cell? ⟨D, 3, none⟩ = some (.slice a4 2 c4) := HS17.out.blk.box.2.2.2.1
  have hDl := HS17.out.blk.lt
  have h7 := new_b W17 [7, 7] 2 rfl (by omega) (by decide)
  have K12 : Hid (Calls Try.prog 12 #[.slice a4 2 c4, .slice (some ⟨W17.heap.size, 0, none⟩) 2 2] (W17.alloc (.cells #[.int .u8 7, .int .u8 7] 5)) fun e w' => e = .returned (.bool true) ∧ w' = (W17.alloc (.cells #[.int .u8 7, .int .u8 7] 5))) := same_yes a4 (some ⟨W17.heap.size, 0, none⟩) 2 c4 2 [7, 7] _ (HS17.out.raw.rd.below (new_below _ _)) h7.rd rfl
  have HB18 : Hid (Below w.heap.size w (W17.alloc (.cells #[.int .u8 7, .int .u8 7] 5))) := (HS17.out.al _).s.bel
  clear h7 HS17
  go_wp2_with fail
  refine K12.out.mono ?_
  rintro e W18 ⟨rfl, hW18⟩
  subst hW18
  clear K12
  go_wp2_with (first | (go_at_call 19; refine (sqz_yes _).mono ?_; rintro e W19 ⟨rfl, h19⟩; subst h19) | (go_at_call 19; refine (sqz_no _).mono ?_; rintro e W19 ⟨rfl, h19⟩; subst h19))
  go_ret
  exact ⟨rfl, HB18.out⟩
end Go.Proofs.Ytdeoembjfdbbkaa
