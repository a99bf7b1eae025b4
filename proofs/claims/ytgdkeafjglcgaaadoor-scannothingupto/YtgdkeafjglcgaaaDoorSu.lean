/- An entry's text is written: writeEntry. -/
import Derived.Test.YtgdkeafjglcgaaaDoorSs
namespace Go.Proofs.YtgdkeafjglcgaaaDoor
open Go.ChangeShapes Go.WideShapes Go.ChangeAt Go.RowKit
set_option linter.unusedVariables false
set_option linter.unusedSimpArgs false


theorem take_txt {ws : List Wd} {j : Nat} (h : j < ws.length) : wsTxt (ws.take (j + 1)) = wsTxt (ws.take j) ++ ((if j = 0 then [] else [32]) ++ wtxt ws[j]) := by
  rw [List.take_succ_eq_append_getElem h, wsTxt_snoc]
  congr 2
  cases j with
  | zero => simp
  | succ j => cases ws with
    | nil => simp at h
    | cons a ws => simp
theorem good_size {v : Wd} (h : goodW v = true) : 0 < (wtx v).size := by
  obtain ⟨c, r, e, _⟩ := goodW_first h
  rw [wtx_size, ← wtxt_len, e]; simp
set_option maxRecDepth 100000 in
set_option maxHeartbeats 4000000 in
theorem write23_true (B b : Nat) (l : List UInt8) (xa : Option Addr) (m xc : Nat) (ln : Int) (ws : List Wd) (w : World) (h : GS B w b (Lib.byteCells l)) (hB : B ≤ b) (hx : ∀ W, Below B w W → WRd W ⟨xa, m, xc⟩ ws) (h64 : ws.length ≤ 64) (hg : ∀ v ∈ ws, goodW v = true) (hsz : ∀ v ∈ ws, wsz v ≤ 65536) (hl : l.length ≤ 1000000) :
    Calls Tryd.prog 21 #[.pointer (some ⟨b, 0, none⟩), .agg #[.int .i64 ln, .bool true, .slice xa m xc]] w fun e w' => e = .returned (.tuple #[]) ∧ Hid (GS B w' b (Lib.byteCells (l ++ enTxt ⟨ln, true, ws⟩)) ∧ Below B w w') := by
  obtain ⟨hm0, hmc0, hmc2, _⟩ := hx w (Below.refl _ _)
  simp only at hm0 hmc0 hmc2
  have hm : ws.length = m := hm0.symm
  have hmc : m ≤ xc := by omega
  clear hm0 hmc0
  have HX : Hid (∀ W, Below B w W → RdW W xa ws) := fun W hW => (hx W hW).2.2.2
  have HGD : Hid (∀ v ∈ ws, goodW v = true) := hg
  have HSZ : Hid (∀ v ∈ ws, wsz v ≤ 65536) := hsz
  have HTL : Hid (∀ j, (wsTxt (ws.take j)).length ≤ 4194368) := fun j => by
    have := wsTxt_le (ws := ws.take j) (fun v hv => hsz v (List.mem_of_mem_take hv))
    have h2 : (ws.take j).length ≤ ws.length := by simp; omega
    omega
  have hbw : B ≤ w.heap.size := Nat.le_of_lt (Nat.lt_of_le_of_lt hB h.lt)
  have HG0 := Lib.hid (h.go (alp_below w (.cells #[.int .i64 ln, .bool true, .slice xa m xc] 34)))
  have HBX : Hid ((w.alloc (.cells #[.int .i64 ln, .bool true, .slice xa m xc] 34)).heap[w.heap.size]? = some (.cells #[.int .i64 ln, .bool true, .slice xa m xc] 34 (0, 0))) := heap_alloc_new _ _
  have HB0 : Hid (Below B w (w.alloc (.cells #[.int .i64 ln, .bool true, .slice xa m xc] 34))) := (Below.refl _ _).alloc hbw _
  obtain ⟨L1, hL1⟩ : ∃ L, L = l ++ [32] := ⟨_, rfl⟩
  have HL1 : Hid (L1 = l ++ [32]) := hL1
  have hL1b : L1.length ≤ 1000001 := by rw [hL1]; simp; omega
  have HEN : Hid (l ++ enTxt ⟨ln, true, ws⟩ = L1 ++ wsTxt ws ++ [10]) := (by show _ = _; rw [hL1]; simp [enTxt])
  rw [HEN.out]
  clear h hx hg hsz hL1 h64 HEN
  have K43 : Hid (Calls Tryd.prog 35 #[.pointer (some ⟨b, 0, none⟩), .int .u8 32] (w.alloc (.cells #[.int .i64 ln, .bool true, .slice xa m xc] 34)) fun e w' => e = .returned .nilIface ∧ Hid (GS B w' b (Lib.byteCells (l ++ [32])) ∧ Below B (w.alloc (.cells #[.int .i64 ln, .bool true, .slice xa m xc] 34)) w' ∧ Oth (w.alloc (.cells #[.int .i64 ln, .bool true, .slice xa m xc] 34)) w')) := wbyteL B b _ 32 _ HG0.out hB (by omega)
  go_enter Tryd.func21, Tryd.ntmps21
  go_wp2_with fail
  refine K43.out.mono ?_
  rintro e w1 ⟨rfl, H1⟩
  have HG1 : Hid (GS B w1 b (Lib.byteCells L1) ∧ Below B w w1) := ⟨(by rw [HL1.out]; exact H1.out.1), HB0.out.trans H1.out.2.1⟩
  have hbx1 := box_stays HBX.out H1.out.2.2 (by decide) (by decide)
  have y2 : w1.cell? ⟨w.heap.size, 2, none⟩ = some (.slice xa m xc) := cell_of hbx1 rfl
  have yl := blk_lt hbx1
  clear H1 hbx1 K43 HBX HG0 HB0
  go_wp2_with fail
  go_loopw [13] (fun y wr => ∃ j : Nat, j ≤ m ∧ y = .int .i64 (j : Int) ∧ Hid (GS B wr b (Lib.byteCells (L1 ++ wsTxt (ws.take j))) ∧ Below B w wr)) (fun y _ => m - (intOf y).toNat)
  case atStart => exact ⟨0, Nat.zero_le _, rfl, (by simpa [wsTxt] using HG1.out.1), HG1.out.2⟩
  case round =>
    obtain ⟨j, hj, rfl, HV⟩ := hrel
    by_cases hjl : j < m
    · have hjl' : (j : Int) < (m : Int) := by omega
      have hjw : j < ws.length := by omega
      obtain ⟨b2, o2, e2, hb2, d0, d1⟩ := (HX.out wr HV.out.2).at j hjw
      subst e2
      have hvz := HSZ.out ws[j] (List.getElem_mem hjw)
      have HTS := Lib.hid (take_txt hjw)
      have htx := good_size (HGD.out ws[j] (List.getElem_mem hjw))
      obtain ⟨v, hv⟩ : ∃ v, v = ws[j] := ⟨_, rfl⟩
      rw [← hv] at d0 d1 hvz HTS htx
      clear hv
      have hvs := wsz_sz v
      have K40 := Lib.hid (fun W => wtext40 v W (by omega))
      have HWT : Hid ((wtx v).data.toList = wtxt v) := (by show _ = _; simp [wtx])
      have htz : (wtx v).size ≤ 65536 := by rw [wtx_size]; exact hvz
      generalize wtx v = tx at *
      have HGQ : Hid (GS B (wr.alloc (.cells #[.string v.1, .bool v.2] 44)) b (Lib.byteCells (L1 ++ wsTxt (ws.take j))) ∧ Below B w (wr.alloc (.cells #[.string v.1, .bool v.2] 44))) := ⟨HV.out.1.go (alp_below _ _), HV.out.2.trans ((alp_below _ _).mono (Nat.le_of_lt (Nat.lt_of_le_of_lt hB HV.out.1.lt)))⟩
      have HBQ : Hid ((wr.alloc (.cells #[.string v.1, .bool v.2] 44)).heap[wr.heap.size]? = some (.cells #[.string v.1, .bool v.2] 44 (0, 0))) := heap_alloc_new _ _
      by_cases hj0 : j = 0
      · subst hj0
        simp only [if_true] at HTS
        simp only [Nat.zero_mul, Nat.add_zero] at d0 d1
        go_wp2_with fail
        generalize wr.alloc (.cells #[.string v.1, .bool v.2] 44) = wq at *
        refine (K40.out _).mono ?_
        rintro e w4 ⟨rfl, H4⟩
        have HG4 := Lib.hid (HGQ.out.1.go H4.out)
        have HB4 : Hid (Below B w w4) := HGQ.out.2.trans (H4.out.mono (Nat.le_of_lt (Nat.lt_of_le_of_lt hB HGQ.out.1.lt)))
        have K35 := Lib.hid (wstrL B b _ tx w4 HG4.out hB htx (by simp only [List.length_append, List.length_cons, List.length_nil]; have := HTL.out 0; omega))
        go_wp2_with fail
        refine K35.out.mono ?_
        rintro e w5 ⟨rfl, H5⟩
        have HG5 : Hid (GS B w5 b (Lib.byteCells (L1 ++ wsTxt (ws.take (0 + 1))))) := (by
          show GS _ _ _ _
          have := H5.out.1
          rw [HWT.out] at this
          rw [HTS.out]
          simpa  using this)
        have HB5 : Hid (Below B w w5) := HB4.out.trans H5.out.2
        clear H5 K35 H4 K40
        go_wp2_with fail
        go_round
        case rel => exact ⟨0 + 1, by omega, by go_num, HG5.out, HB5.out⟩
        case measure => simp [intOf]; omega
      · have hj0' : (0 : Int) < (j : Int) := by omega
        simp only [if_neg hj0] at HTS
        have K43 : Hid (Calls Tryd.prog 35 #[.pointer (some ⟨b, 0, none⟩), .int .u8 32] (wr.alloc (.cells #[.string v.1, .bool v.2] 44)) fun e w' => e = .returned .nilIface ∧ Hid (GS B w' b (Lib.byteCells (L1 ++ wsTxt (ws.take j) ++ [32])) ∧ Below B (wr.alloc (.cells #[.string v.1, .bool v.2] 44)) w' ∧ Oth (wr.alloc (.cells #[.string v.1, .bool v.2] 44)) w')) := wbyteL B b _ 32 _ HGQ.out.1 hB (by simp only [List.length_append]; have := HTL.out j; omega)
        go_wp2_with fail
        generalize wr.alloc (.cells #[.string v.1, .bool v.2] 44) = wq at *
        refine K43.out.mono ?_
        rintro e w3 ⟨rfl, H3⟩
        have HG3 : Hid (GS B w3 b (Lib.byteCells (L1 ++ wsTxt (ws.take j) ++ [32])) ∧ Below B w w3) := ⟨H3.out.1, HGQ.out.2.trans H3.out.2.1⟩
        have hbx3 := box_stays HBQ.out H3.out.2.2 (by decide) (by decide)
        have z0 : w3.cell? ⟨wr.heap.size, 0, none⟩ = some (.string v.1) := cell_of hbx3 rfl
        have z1 : w3.cell? ⟨wr.heap.size, 1, none⟩ = some (.bool v.2) := cell_of hbx3 rfl
        have zl := blk_lt hbx3
        clear H3 hbx3 K43
        go_wp2_with fail
        refine (K40.out _).mono ?_
        rintro e w4 ⟨rfl, H4⟩
        have HG4 := Lib.hid (HG3.out.1.go H4.out)
        have HB4 : Hid (Below B w w4) := HG3.out.2.trans (H4.out.mono (Nat.le_of_lt (Nat.lt_of_le_of_lt hB HG3.out.1.lt)))
        have K35 := Lib.hid (wstrL B b _ tx w4 HG4.out hB htx (by simp only [List.length_append, List.length_cons, List.length_nil]; have := HTL.out j; omega))
        go_wp2_with fail
        refine K35.out.mono ?_
        rintro e w5 ⟨rfl, H5⟩
        have HG5 : Hid (GS B w5 b (Lib.byteCells (L1 ++ wsTxt (ws.take (j + 1))))) := (by
          show GS _ _ _ _
          have := H5.out.1
          rw [HWT.out] at this
          rw [HTS.out]
          simpa [List.append_assoc] using this)
        have HB5 : Hid (Below B w w5) := HB4.out.trans H5.out.2
        clear H5 K35 H4 K40
        go_wp2_with fail
        go_round
        case rel => exact ⟨j + 1, by omega, by go_num, HG5.out, HB5.out⟩
        case measure => simp [intOf]; omega
    · have hge : ¬ (j : Int) < (m : Int) := by omega
      have HGE : Hid (GS B wr b (Lib.byteCells (L1 ++ wsTxt ws))) := (by show GS _ _ _ _; have := HV.out.1; rw [List.take_of_length_le (by omega)] at this; exact this)
      have hwl := HTL.out j
      rw [List.take_of_length_le (by omega)] at hwl
      have K43 : Hid (Calls Tryd.prog 35 #[.pointer (some ⟨b, 0, none⟩), .int .u8 10] wr fun e w' => e = .returned .nilIface ∧ Hid (GS B w' b (Lib.byteCells (L1 ++ wsTxt ws ++ [10])) ∧ Below B wr w' ∧ Oth wr w')) := wbyteL B b _ 10 _ HGE.out hB (by simp only [List.length_append]; omega)
      go_wp2_with fail
      refine K43.out.mono ?_
      rintro e w3 ⟨rfl, H3⟩
      go_wp2_with fail
      go_end0
      exact ⟨rfl, H3.out.1, HV.out.2.trans H3.out.2.1⟩
set_option maxRecDepth 100000 in
set_option maxHeartbeats 4000000 in
theorem write23_false (B b : Nat) (l : List UInt8) (xa : Option Addr) (m xc : Nat) (ln : Int) (ws : List Wd) (w : World) (h : GS B w b (Lib.byteCells l)) (hB : B ≤ b) (hx : ∀ W, Below B w W → WRd W ⟨xa, m, xc⟩ ws) (h64 : ws.length ≤ 64) (hg : ∀ v ∈ ws, goodW v = true) (hsz : ∀ v ∈ ws, wsz v ≤ 65536) (hl : l.length ≤ 1000000) :
    Calls Tryd.prog 21 #[.pointer (some ⟨b, 0, none⟩), .agg #[.int .i64 ln, .bool false, .slice xa m xc]] w fun e w' => e = .returned (.tuple #[]) ∧ Hid (GS B w' b (Lib.byteCells (l ++ enTxt ⟨ln, false, ws⟩)) ∧ Below B w w') := by
  obtain ⟨hm0, hmc0, hmc2, _⟩ := hx w (Below.refl _ _)
  simp only at hm0 hmc0 hmc2
  have hm : ws.length = m := hm0.symm
  have hmc : m ≤ xc := by omega
  clear hm0 hmc0
  have HX : Hid (∀ W, Below B w W → RdW W xa ws) := fun W hW => (hx W hW).2.2.2
  have HGD : Hid (∀ v ∈ ws, goodW v = true) := hg
  have HSZ : Hid (∀ v ∈ ws, wsz v ≤ 65536) := hsz
  have HTL : Hid (∀ j, (wsTxt (ws.take j)).length ≤ 4194368) := fun j => by
    have := wsTxt_le (ws := ws.take j) (fun v hv => hsz v (List.mem_of_mem_take hv))
    have h2 : (ws.take j).length ≤ ws.length := by simp; omega
    omega
  have hbw : B ≤ w.heap.size := Nat.le_of_lt (Nat.lt_of_le_of_lt hB h.lt)
  have HG0 := Lib.hid (h.go (alp_below w (.cells #[.int .i64 ln, .bool false, .slice xa m xc] 34)))
  have HBX : Hid ((w.alloc (.cells #[.int .i64 ln, .bool false, .slice xa m xc] 34)).heap[w.heap.size]? = some (.cells #[.int .i64 ln, .bool false, .slice xa m xc] 34 (0, 0))) := heap_alloc_new _ _
  have HB0 : Hid (Below B w (w.alloc (.cells #[.int .i64 ln, .bool false, .slice xa m xc] 34))) := (Below.refl _ _).alloc hbw _
  obtain ⟨L1, hL1⟩ : ∃ L, L = l ++ ([] : List UInt8) := ⟨_, rfl⟩
  have HL1 : Hid (L1 = l ++ ([] : List UInt8)) := hL1
  have hL1b : L1.length ≤ 1000001 := by rw [hL1]; simp; omega
  have HEN : Hid (l ++ enTxt ⟨ln, false, ws⟩ = L1 ++ wsTxt ws ++ [10]) := (by show _ = _; rw [hL1]; simp [enTxt])
  rw [HEN.out]
  clear h hx hg hsz hL1 h64 HEN
  go_enter Tryd.func21, Tryd.ntmps21
  go_wp2_with fail
  have HG1 : Hid (GS B (w.alloc (.cells #[.int .i64 ln, .bool false, .slice xa m xc] 34)) b (Lib.byteCells L1) ∧ Below B w (w.alloc (.cells #[.int .i64 ln, .bool false, .slice xa m xc] 34))) := ⟨(by rw [HL1.out, List.append_nil]; exact HG0.out), HB0.out⟩
  generalize w.alloc (.cells #[.int .i64 ln, .bool false, .slice xa m xc] 34) = wy at *
  go_loopw [13] (fun y wr => ∃ j : Nat, j ≤ m ∧ y = .int .i64 (j : Int) ∧ Hid (GS B wr b (Lib.byteCells (L1 ++ wsTxt (ws.take j))) ∧ Below B w wr)) (fun y _ => m - (intOf y).toNat)
  case atStart => exact ⟨0, Nat.zero_le _, rfl, (by simpa [wsTxt] using HG1.out.1), HG1.out.2⟩
  case round =>
    obtain ⟨j, hj, rfl, HV⟩ := hrel
    by_cases hjl : j < m
    · have hjl' : (j : Int) < (m : Int) := by omega
      have hjw : j < ws.length := by omega
      obtain ⟨b2, o2, e2, hb2, d0, d1⟩ := (HX.out wr HV.out.2).at j hjw
      subst e2
      have hvz := HSZ.out ws[j] (List.getElem_mem hjw)
      have HTS := Lib.hid (take_txt hjw)
      have htx := good_size (HGD.out ws[j] (List.getElem_mem hjw))
      obtain ⟨v, hv⟩ : ∃ v, v = ws[j] := ⟨_, rfl⟩
      rw [← hv] at d0 d1 hvz HTS htx
      clear hv
      have hvs := wsz_sz v
      have K40 := Lib.hid (fun W => wtext40 v W (by omega))
      have HWT : Hid ((wtx v).data.toList = wtxt v) := (by show _ = _; simp [wtx])
      have htz : (wtx v).size ≤ 65536 := by rw [wtx_size]; exact hvz
      generalize wtx v = tx at *
      have HGQ : Hid (GS B (wr.alloc (.cells #[.string v.1, .bool v.2] 44)) b (Lib.byteCells (L1 ++ wsTxt (ws.take j))) ∧ Below B w (wr.alloc (.cells #[.string v.1, .bool v.2] 44))) := ⟨HV.out.1.go (alp_below _ _), HV.out.2.trans ((alp_below _ _).mono (Nat.le_of_lt (Nat.lt_of_le_of_lt hB HV.out.1.lt)))⟩
      have HBQ : Hid ((wr.alloc (.cells #[.string v.1, .bool v.2] 44)).heap[wr.heap.size]? = some (.cells #[.string v.1, .bool v.2] 44 (0, 0))) := heap_alloc_new _ _
      by_cases hj0 : j = 0
      · subst hj0
        simp only [if_true] at HTS
        simp only [Nat.zero_mul, Nat.add_zero] at d0 d1
        go_wp2_with fail
        generalize wr.alloc (.cells #[.string v.1, .bool v.2] 44) = wq at *
        refine (K40.out _).mono ?_
        rintro e w4 ⟨rfl, H4⟩
        have HG4 := Lib.hid (HGQ.out.1.go H4.out)
        have HB4 : Hid (Below B w w4) := HGQ.out.2.trans (H4.out.mono (Nat.le_of_lt (Nat.lt_of_le_of_lt hB HGQ.out.1.lt)))
        have K35 := Lib.hid (wstrL B b _ tx w4 HG4.out hB htx (by simp only [List.length_append, List.length_cons, List.length_nil]; have := HTL.out 0; omega))
        go_wp2_with fail
        refine K35.out.mono ?_
        rintro e w5 ⟨rfl, H5⟩
        have HG5 : Hid (GS B w5 b (Lib.byteCells (L1 ++ wsTxt (ws.take (0 + 1))))) := (by
          show GS _ _ _ _
          have := H5.out.1
          rw [HWT.out] at this
          rw [HTS.out]
          simpa  using this)
        have HB5 : Hid (Below B w w5) := HB4.out.trans H5.out.2
        clear H5 K35 H4 K40
        go_wp2_with fail
        go_round
        case rel => exact ⟨0 + 1, by omega, by go_num, HG5.out, HB5.out⟩
        case measure => simp [intOf]; omega
      · have hj0' : (0 : Int) < (j : Int) := by omega
        simp only [if_neg hj0] at HTS
        have K43 : Hid (Calls Tryd.prog 35 #[.pointer (some ⟨b, 0, none⟩), .int .u8 32] (wr.alloc (.cells #[.string v.1, .bool v.2] 44)) fun e w' => e = .returned .nilIface ∧ Hid (GS B w' b (Lib.byteCells (L1 ++ wsTxt (ws.take j) ++ [32])) ∧ Below B (wr.alloc (.cells #[.string v.1, .bool v.2] 44)) w' ∧ Oth (wr.alloc (.cells #[.string v.1, .bool v.2] 44)) w')) := wbyteL B b _ 32 _ HGQ.out.1 hB (by simp only [List.length_append]; have := HTL.out j; omega)
        go_wp2_with fail
        generalize wr.alloc (.cells #[.string v.1, .bool v.2] 44) = wq at *
        refine K43.out.mono ?_
        rintro e w3 ⟨rfl, H3⟩
        have HG3 : Hid (GS B w3 b (Lib.byteCells (L1 ++ wsTxt (ws.take j) ++ [32])) ∧ Below B w w3) := ⟨H3.out.1, HGQ.out.2.trans H3.out.2.1⟩
        have hbx3 := box_stays HBQ.out H3.out.2.2 (by decide) (by decide)
        have z0 : w3.cell? ⟨wr.heap.size, 0, none⟩ = some (.string v.1) := cell_of hbx3 rfl
        have z1 : w3.cell? ⟨wr.heap.size, 1, none⟩ = some (.bool v.2) := cell_of hbx3 rfl
        have zl := blk_lt hbx3
        clear H3 hbx3 K43
        go_wp2_with fail
        refine (K40.out _).mono ?_
        rintro e w4 ⟨rfl, H4⟩
        have HG4 := Lib.hid (HG3.out.1.go H4.out)
        have HB4 : Hid (Below B w w4) := HG3.out.2.trans (H4.out.mono (Nat.le_of_lt (Nat.lt_of_le_of_lt hB HG3.out.1.lt)))
        have K35 := Lib.hid (wstrL B b _ tx w4 HG4.out hB htx (by simp only [List.length_append, List.length_cons, List.length_nil]; have := HTL.out j; omega))
        go_wp2_with fail
        refine K35.out.mono ?_
        rintro e w5 ⟨rfl, H5⟩
        have HG5 : Hid (GS B w5 b (Lib.byteCells (L1 ++ wsTxt (ws.take (j + 1))))) := (by
          show GS _ _ _ _
          have := H5.out.1
          rw [HWT.out] at this
          rw [HTS.out]
          simpa [List.append_assoc] using this)
        have HB5 : Hid (Below B w w5) := HB4.out.trans H5.out.2
        clear H5 K35 H4 K40
        go_wp2_with fail
        go_round
        case rel => exact ⟨j + 1, by omega, by go_num, HG5.out, HB5.out⟩
        case measure => simp [intOf]; omega
    · have hge : ¬ (j : Int) < (m : Int) := by omega
      have HGE : Hid (GS B wr b (Lib.byteCells (L1 ++ wsTxt ws))) := (by show GS _ _ _ _; have := HV.out.1; rw [List.take_of_length_le (by omega)] at this; exact this)
      have hwl := HTL.out j
      rw [List.take_of_length_le (by omega)] at hwl
      have K43 : Hid (Calls Tryd.prog 35 #[.pointer (some ⟨b, 0, none⟩), .int .u8 10] wr fun e w' => e = .returned .nilIface ∧ Hid (GS B w' b (Lib.byteCells (L1 ++ wsTxt ws ++ [10])) ∧ Below B wr w' ∧ Oth wr w')) := wbyteL B b _ 10 _ HGE.out hB (by simp only [List.length_append]; omega)
      go_wp2_with fail
      refine K43.out.mono ?_
      rintro e w3 ⟨rfl, H3⟩
      go_wp2_with fail
      go_end0
      exact ⟨rfl, H3.out.1, HV.out.2.trans H3.out.2.1⟩
theorem write23 (B b : Nat) (l : List UInt8) (x : Sl) (en : En) (w : World) (h : GS B w b (Lib.byteCells l)) (hB : B ≤ b) (hx : ∀ W, Below B w W → WRd W x en.ws) (h64 : en.ws.length ≤ 64) (hg : ∀ v ∈ en.ws, goodW v = true) (hsz : ∀ v ∈ en.ws, wsz v ≤ 65536) (hl : l.length ≤ 1000000) :
    Calls Tryd.prog 21 #[.pointer (some ⟨b, 0, none⟩), .agg #[.int .i64 en.line, .bool en.blank, .slice x.a x.n x.c]] w fun e w' => e = .returned (.tuple #[]) ∧ Hid (GS B w' b (Lib.byteCells (l ++ enTxt en)) ∧ Below B w w') := by
  obtain ⟨ln, bl, ws⟩ := en
  obtain ⟨xa, m, xc⟩ := x
  cases bl
  · exact write23_false B b l xa m xc ln ws w h hB hx h64 hg hsz hl
  · exact write23_true B b l xa m xc ln ws w h hB hx h64 hg hsz hl
end Go.Proofs.YtgdkeafjglcgaaaDoor
