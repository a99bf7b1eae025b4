/- ScanKnown: its walk. -/
import Derived.Test.YtgdkeafjglcgaaaTe
import Derived.Test.YtgdkeafjglcgaaaShr
namespace Go.Proofs.Ytgdkeafjglcgaaa
open Go.ChangeShapes Go.WideShapes Go.ChangeAt Go.RowKit
set_option linter.unusedVariables false
set_option linter.unusedSimpArgs false

def kA : List Wd := [(⟨#[97]⟩, false), (⟨#[98]⟩, false), (⟨#[99]⟩, false), (⟨#[100]⟩, false)]
def kB : List Wd := [(⟨#[97]⟩, false), (⟨#[98, 59, 99]⟩, true), (⟨#[]⟩, true)]
def kC : List Wd := [(⟨#[92, 59]⟩, false), (⟨#[97, 92, 59, 98]⟩, false)]
theorem tkA : ([⟨#[97]⟩, ⟨#[98]⟩, ⟨#[99]⟩, ⟨#[100]⟩] : List ByteArray).map tW = kA := by kernel_rfl
theorem tkB : ([⟨#[97]⟩, ⟨#[34, 98, 59, 99, 34]⟩, ⟨#[34, 34]⟩] : List ByteArray).map tW = kB := by kernel_rfl
theorem tkC : ([⟨#[92, 59]⟩, ⟨#[97, 92, 59, 98]⟩] : List ByteArray).map tW = kC := by kernel_rfl
theorem ekA : entsF [97, 32, 40, 98, 10, 99, 41, 32, 100] = .ok [⟨1, false, kA⟩] := by kernel_rfl
theorem ekB : entsF [97, 32, 34, 98, 59, 99, 34, 32, 34, 34] = .ok [⟨1, false, kB⟩] := by kernel_rfl
theorem ekC : entsF [92, 59, 32, 97, 92, 59, 98] = .ok [⟨1, false, kC⟩] := by kernel_rfl
theorem ekD : entsF [59, 120] = .ok [] := by kernel_rfl
theorem ekE : entsF [] = .ok [] := by kernel_rfl
def kS : List ByteArray := [⟨#[97, 34, 98]⟩, ⟨#[34, 97]⟩, ⟨#[40, 97]⟩, ⟨#[97, 41]⟩, ⟨#[34, 97, 34, 98]⟩, ⟨#[92]⟩, ⟨#[34, 97, 10, 98, 34]⟩]
theorem ekS : ∀ s ∈ kS, entsF s.data.toList = .er 230 1 := by
  intro s hs
  simp only [kS, List.mem_cons, List.not_mem_nil, or_false] at hs
  rcases hs with rfl | rfl | rfl | rfl | rfl | rfl | rfl <;> kernel_rfl
theorem ekR : entsF ([120, 10] ++ Lib.repeatL [97, 32] 65) = .er 3 2 := by kernel_rfl
theorem ekL : entsF (Lib.repeatL [97] 65537) = .er 3 0 := by
  unfold entsF
  rw [if_pos]
  rw [Lib.repeatL_length]
  show 65536 < 65537 * 1
  omega
theorem jk : joinErr [⟨0, false, []⟩] = 230 := by kernel_rfl
theorem lk1 : linesF [97, 10] = 1 := by kernel_rfl
theorem lk2 : linesF [97, 10, 98] = 2 := by kernel_rfl
theorem lk3 : linesF [] = 0 := by kernel_rfl
theorem le_nil (w : World) : LE w ⟨none, 0, 0⟩ [] := ⟨rfl, Nat.le_refl _, by simp, .inl rfl⟩
set_option maxRecDepth 100000 in
set_option maxHeartbeats 8000000 in
theorem knownL (w : World) : Calls Try.prog 5 #[] w fun e w' => e = .returned (.bool true) ∧ Below w.heap.size w w' := by
  have KA : Hid (∀ W, Calls Try.prog 15 #[.slice (some ⟨W.heap.size, 0, none⟩) 4 4] (W.alloc (.cells #[.string ⟨#[97]⟩, .string ⟨#[98]⟩, .string ⟨#[99]⟩, .string ⟨#[100]⟩] 9)) (TP W 4 kA)) := fun W => by
    have := t15_new W [⟨#[97]⟩, ⟨#[98]⟩, ⟨#[99]⟩, ⟨#[100]⟩] 4 rfl (by omega) (by simp; decide)
    rw [tkA] at this
    exact this
  have KB : Hid (∀ W, Calls Try.prog 15 #[.slice (some ⟨W.heap.size, 0, none⟩) 3 3] (W.alloc (.cells #[.string ⟨#[97]⟩, .string ⟨#[34, 98, 59, 99, 34]⟩, .string ⟨#[34, 34]⟩] 9)) (TP W 3 kB)) := fun W => by
    have := t15_new W [⟨#[97]⟩, ⟨#[34, 98, 59, 99, 34]⟩, ⟨#[34, 34]⟩] 3 rfl (by omega) (by simp; decide)
    rw [tkB] at this
    exact this
  have KC : Hid (∀ W, Calls Try.prog 15 #[.slice (some ⟨W.heap.size, 0, none⟩) 2 2] (W.alloc (.cells #[.string ⟨#[92, 59]⟩, .string ⟨#[97, 92, 59, 98]⟩] 9)) (TP W 2 kC)) := fun W => by
    have := t15_new W [⟨#[92, 59]⟩, ⟨#[97, 92, 59, 98]⟩] 2 rfl (by omega) (by simp; decide)
    rw [tkC] at this
    exact this
  have KR : Hid (∀ (W : World) (n : Nat) (ao : Option Addr) (cc : Nat) (ws : List Wd) (s : ByteArray), WRd W ⟨ao, n, cc⟩ ws → entsF s.data.toList = .ok [⟨1, false, ws⟩] → Calls Try.prog 14 #[.string s, .slice (some ⟨W.heap.size, 0, none⟩) 1 1] (W.alloc (.cells #[.int .i64 1, .bool false, .slice ao n cc] 25)) fun e w' => e = .returned (.bool true) ∧ Hid (Below W.heap.size W w')) := fun W n ao cc ws s h he => by
    refine (reads14 s ⟨some ⟨W.heap.size, 0, none⟩, 1, 1⟩ _ _ (le_new W [(⟨ao, n, cc⟩, ⟨1, false, ws⟩)] (by simp; exact h) (by simp)) he).mono ?_
    rintro e w' ⟨rfl, H⟩
    exact ⟨rfl, (alp_below _ _).trans (H.out.mono (alp_below _ _).size)⟩
  have KN : Hid (∀ (W : World) (s : ByteArray), entsF s.data.toList = .ok [] → Calls Try.prog 14 #[.string s, .slice none 0 0] W fun e w' => e = .returned (.bool true) ∧ Hid (Below W.heap.size W w')) := fun W s he => reads14 s ⟨none, 0, 0⟩ [] W (le_nil W) he
  go_enter Try.func5, Try.ntmps5
  go_wp2_with fail
  refine (KA.out _).mono ?_
  rintro e w1 ⟨ao1, cc1, rfl, H1⟩
  go_wp2_with fail
  refine (KR.out w1 4 ao1 cc1 kA _ H1.out.1 ekA).mono ?_
  rintro e w2 ⟨rfl, H2⟩
  have HB2 : Hid (Below w.heap.size w w2) := H1.out.2.trans (H2.out.mono H1.out.2.size)
  clear H1 H2 KA
  go_wp2_with fail
  refine (KB.out _).mono ?_
  rintro e w1 ⟨ao1, cc1, rfl, H1⟩
  go_wp2_with fail
  refine (KR.out w1 3 ao1 cc1 kB _ H1.out.1 ekB).mono ?_
  rintro e w3 ⟨rfl, H3⟩
  have HB3 : Hid (Below w.heap.size w w3) := HB2.out.trans ((H1.out.2.trans (H3.out.mono H1.out.2.size)).mono HB2.out.size)
  clear H1 H3 KB HB2
  go_wp2_with fail
  refine (KC.out _).mono ?_
  rintro e w1 ⟨ao1, cc1, rfl, H1⟩
  go_wp2_with fail
  refine (KR.out w1 2 ao1 cc1 kC _ H1.out.1 ekC).mono ?_
  rintro e w4 ⟨rfl, H4⟩
  have HB4 : Hid (Below w.heap.size w w4) := HB3.out.trans ((H1.out.2.trans (H4.out.mono H1.out.2.size)).mono HB3.out.size)
  clear H1 H4 KC HB3 KR
  go_wp2_with fail
  refine (KN.out _ _ ekD).mono ?_
  rintro e w5 ⟨rfl, H5⟩
  have HB5 : Hid (Below w.heap.size w w5) := HB4.out.trans (H5.out.mono HB4.out.size)
  clear H5 HB4
  go_wp2_with fail
  refine (KN.out _ _ ekE).mono ?_
  rintro e w6 ⟨rfl, H6⟩
  have HB6 : Hid (Below w.heap.size w w6) := HB5.out.trans (H6.out.mono HB5.out.size)
  clear H6 HB5 KN
  have HRS : Hid (RdS (w6.alloc (.cells #[.string ⟨#[97, 34, 98]⟩, .string ⟨#[34, 97]⟩, .string ⟨#[40, 97]⟩, .string ⟨#[97, 41]⟩, .string ⟨#[34, 97, 34, 98]⟩, .string ⟨#[92]⟩, .string ⟨#[34, 97, 10, 98, 34]⟩] 9)) (some ⟨w6.heap.size, 0, none⟩) kS) := rds_new w6 kS
  have HB7 : Hid (Below w.heap.size w (w6.alloc (.cells #[.string ⟨#[97, 34, 98]⟩, .string ⟨#[34, 97]⟩, .string ⟨#[40, 97]⟩, .string ⟨#[97, 41]⟩, .string ⟨#[34, 97, 34, 98]⟩, .string ⟨#[92]⟩, .string ⟨#[34, 97, 10, 98, 34]⟩] 9))) := HB6.out.trans ((alp_below _ _).mono HB6.out.size)
  have hq1 : ∀ W, (binOp .neq 36 (.agg #[.int .i64 230, .int .i64 1]) (.agg #[.int .i64 230, .int .i64 1])).run Try.prog W = .ok (.bool false) W := fun W => by rw [neqF]; rfl
  go_wp2_with fail
  generalize w6.alloc (.cells #[.string ⟨#[97, 34, 98]⟩, .string ⟨#[34, 97]⟩, .string ⟨#[40, 97]⟩, .string ⟨#[97, 41]⟩, .string ⟨#[34, 97, 34, 98]⟩, .string ⟨#[92]⟩, .string ⟨#[34, 97, 10, 98, 34]⟩] 9) = w7 at *
  go_loopw [40] (fun y wr => ∃ k : Nat, k ≤ 7 ∧ y = .int .i64 (k : Int) ∧ Hid (Below w7.heap.size w7 wr)) (fun y _ => 7 - (intOf y).toNat)
  case atStart => exact ⟨0, Nat.zero_le _, rfl, Below.refl _ _⟩
  case round =>
    obtain ⟨k, hk, rfl, HV⟩ := hrel
    by_cases hlt : k < 7
    · have hlt' : (k : Int) < 7 := by omega
      have hkl : k < kS.length := hlt
      obtain ⟨b, o, e0, hbb, c0⟩ := HRS.out.at k hkl
      injection e0 with e0
      injection e0 with e1 e2 _
      subst e1 e2
      have d0 : wr.cell? ⟨w6.heap.size, 0 + k, none⟩ = some (.string kS[k]) := (HV.out.cell (p := ⟨w6.heap.size, 0 + k, none⟩) hbb).trans c0
      rw [Nat.zero_add] at d0
      have hbw := Nat.lt_of_lt_of_le hbb HV.out.size
      have K12 : Hid (Calls Try.prog 12 #[.string kS[k]] wr (EnP wr (.er 230 1))) := (by
        have := entries12 kS[k] wr
        rw [ekS _ (List.getElem_mem hkl)] at this
        exact this)
      generalize kS[k] = s at *
      clear c0
      go_wp2_with fail
      refine K12.out.mono ?_
      rintro e w8 ⟨v, a, b, rfl, H8⟩
      obtain ⟨rfl, rfl, rfl, hbl⟩ := H8.out
      have HB8 : Hid (Below w7.heap.size w7 (w8.alloc (.cells #[.int .i64 230, .int .i64 1] 36))) := HV.out.trans ((hbl.trans ((alp_below _ _).mono hbl.size)).mono HV.out.size)
      clear H8 hbl K12
      go_wp2_with fail
      go_round
      case rel => exact ⟨k + 1, by omega, by go_num, HB8.out⟩
      case measure => simp [intOf]; omega
    · have hge : ¬ (k : Int) < 7 := by omega
      have HBW : Hid (Below w.heap.size w wr) := HB7.out.trans (HV.out.mono HB7.out.size)
      have K16 : Hid (Calls Try.prog 16 #[.string ⟨#[97, 32]⟩, .int .i64 65] wr fun e w' => e = .returned (.string ⟨(Lib.repeatL [97, 32] 65).toArray⟩) ∧ Below wr.heap.size wr w') := Try.strings_Repeat_main ⟨#[97, 32]⟩ 65 wr (by omega) (by omega) (by show 2 * 65 ≤ _; omega) (by show 0 < 2; omega)
      have HTA : Hid ((⟨(Lib.repeatL [97, 32] 65).toArray⟩ : ByteArray).size = 130 ∧ (⟨#[120, 10]⟩ ++ (⟨(Lib.repeatL [97, 32] 65).toArray⟩ : ByteArray)).data.toList = [120, 10] ++ Lib.repeatL [97, 32] 65) := ⟨by kernel_rfl, by simp⟩
      generalize (⟨(Lib.repeatL [97, 32] 65).toArray⟩ : ByteArray) = tA at *
      have hta : tA.size = 130 := HTA.out.1
      have KEA : Hid (∀ W, Calls Try.prog 12 #[.string (⟨#[120, 10]⟩ ++ tA)] W (EnP W (.er 3 2))) := fun W => by
        have := entries12 (⟨#[120, 10]⟩ ++ tA) W
        rw [HTA.out.2, ekR] at this
        exact this
      have K17 : Hid (∀ W : World, Calls Try.prog 16 #[.string ⟨#[97]⟩, .int .i64 65537] W fun e w' => e = .returned (.string ⟨(Lib.repeatL [97] 65537).toArray⟩) ∧ Below W.heap.size W w') := fun W => Try.strings_Repeat_main ⟨#[97]⟩ 65537 W (by omega) (by omega) (by show 1 * 65537 ≤ _; omega) (by show 0 < 1; omega)
      have KEB : Hid (∀ W, Calls Try.prog 12 #[.string ⟨(Lib.repeatL [97] 65537).toArray⟩] W (EnP W (.er 3 0))) := fun W => by
        have := entries12 ⟨(Lib.repeatL [97] 65537).toArray⟩ W
        simp only at this
        rw [ekL] at this
        exact this
      generalize (⟨(Lib.repeatL [97] 65537).toArray⟩ : ByteArray) = tB at *
      clear HV HB7 HRS hq1 HTA
      go_wp2_with fail
      refine K16.out.mono ?_
      rintro e w9 ⟨rfl, hb9⟩
      have HB9 : Hid (Below w.heap.size w w9) := HBW.out.trans (hb9.mono HBW.out.size)
      clear hb9 K16 HBW
      go_wp2_with fail
      refine (KEA.out _).mono ?_
      rintro e w10 ⟨v, a, b, rfl, H10⟩
      obtain ⟨rfl, rfl, rfl, hbl⟩ := H10.out
      have HB11 : Hid (Below w.heap.size w (w10.alloc (.cells #[.int .i64 3, .int .i64 2] 36))) := HB9.out.trans ((hbl.trans ((alp_below _ _).mono hbl.size)).mono HB9.out.size)
      have HF11 : Hid ((w10.alloc (.cells #[.int .i64 3, .int .i64 2] 36)).heap[w10.heap.size]? = some (.cells #[.int .i64 3, .int .i64 2] 36 (0, 0))) := heap_alloc_new _ _
      clear H10 hbl KEA HB9
      go_wp2_with fail
      generalize w10.alloc (.cells #[.int .i64 3, .int .i64 2] 36) = w11 at *
      generalize w10.heap.size = b11 at *
      refine (K17.out _).mono ?_
      rintro e w12 ⟨rfl, hb12⟩
      have HB12 : Hid (Below w11.heap.size w11 w12) := hb12
      clear hb12 K17
      go_wp2_with fail
      refine (KEB.out _).mono ?_
      rintro e w13 ⟨v, a, b, rfl, H13⟩
      obtain ⟨rfl, rfl, rfl, hbl⟩ := H13.out
      have HB14 : Hid (Below w11.heap.size w11 (w13.alloc (.cells #[.int .i64 3, .int .i64 0] 36))) := HB12.out.trans ((hbl.trans ((alp_below _ _).mono hbl.size)).mono HB12.out.size)
      have HF14 : Hid ((w13.alloc (.cells #[.int .i64 3, .int .i64 0] 36)).heap[w13.heap.size]? = some (.cells #[.int .i64 3, .int .i64 0] 36 (0, 0))) := heap_alloc_new _ _
      have K7 : Hid (Calls Try.prog 7 #[.slice (some ⟨(w13.alloc (.cells #[.int .i64 3, .int .i64 0] 36)).heap.size, 0, none⟩) 1 1] ((w13.alloc (.cells #[.int .i64 3, .int .i64 0] 36)).alloc (.cells #[.int .i64 0, .bool false, .slice none 0 0] 25)) (JnP ((w13.alloc (.cells #[.int .i64 3, .int .i64 0] 36)).alloc (.cells #[.int .i64 0, .bool false, .slice none 0 0] 25)) [⟨0, false, []⟩])) := join7 ⟨some ⟨(w13.alloc (.cells #[.int .i64 3, .int .i64 0] 36)).heap.size, 0, none⟩, 1, 1⟩ _ _ (le_new _ [(⟨none, 0, 0⟩, ⟨0, false, []⟩)] (by simp; exact ⟨rfl, Nat.le_refl _, by simp, .inl rfl⟩) (by simp)) (by simp)
      have HB15 : Hid (Below (w13.alloc (.cells #[.int .i64 3, .int .i64 0] 36)).heap.size (w13.alloc (.cells #[.int .i64 3, .int .i64 0] 36)) ((w13.alloc (.cells #[.int .i64 3, .int .i64 0] 36)).alloc (.cells #[.int .i64 0, .bool false, .slice none 0 0] 25))) := alp_below _ _
      have hsz14 : (w13.alloc (.cells #[.int .i64 3, .int .i64 0] 36)).heap.size = w13.heap.size + 1 := by simp
      rw [hsz14] at K7
      clear H13 hbl KEB HB12
      go_wp2_with fail
      refine K7.out.mono ?_
      rintro e w16 ⟨t16, z16, rfl, H16⟩
      obtain rfl : z16 = 230 := by rw [H16.out.2.1]; exact jk
      have HB16 : Hid (Below (w13.alloc (.cells #[.int .i64 3, .int .i64 0] 36)).heap.size (w13.alloc (.cells #[.int .i64 3, .int .i64 0] 36)) w16) := HB15.out.trans (H16.out.2.2.mono HB15.out.size)
      have KL1 : Hid (∀ W, Calls Try.prog 13 #[.string ⟨#[97, 10]⟩] W fun e w' => e = .returned (.int .i64 1) ∧ w' = W) := fun W => lines13 ⟨#[97, 10]⟩ W (by show 2 ≤ _; omega)
      have KL2 : Hid (∀ W, Calls Try.prog 13 #[.string ⟨#[97, 10, 98]⟩] W fun e w' => e = .returned (.int .i64 2) ∧ w' = W) := fun W => lines13 ⟨#[97, 10, 98]⟩ W (by show 3 ≤ _; omega)
      have KL3 : Hid (∀ W, Calls Try.prog 13 #[.string ⟨#[]⟩] W fun e w' => e = .returned (.int .i64 0) ∧ w' = W) := fun W => lines13 ⟨#[]⟩ W (by show 0 ≤ _; omega)
      clear H16 K7 HB15
      go_wp2_with fail
      refine (KL1.out _).mono ?_
      rintro e w17 ⟨rfl, rfl⟩
      go_wp2_with fail
      refine (KL2.out _).mono ?_
      rintro e w18 ⟨rfl, rfl⟩
      go_wp2_with fail
      refine (KL3.out _).mono ?_
      rintro e w19 ⟨rfl, rfl⟩
      have K10 := Lib.hid (awake10 w19)
      clear KL1 KL2 KL3
      go_wp2_with fail
      refine K10.out.mono ?_
      rintro e w20 ⟨rfl, H20⟩
      have HB20 : Hid (Below (w13.alloc (.cells #[.int .i64 3, .int .i64 0] 36)).heap.size (w13.alloc (.cells #[.int .i64 3, .int .i64 0] 36)) w20) := HB16.out.trans (H20.out.mono HB16.out.size)
      have HB21 : Hid (Below w11.heap.size w11 w20) := HB14.out.trans (HB20.out.mono HB14.out.size)
      have h14 : w20.heap[w13.heap.size]? = some (.cells #[.int .i64 3, .int .i64 0] 36 (0, 0)) := (HB20.out.block _ (blk_lt HF14.out)).trans HF14.out
      have h11 : w20.heap[b11]? = some (.cells #[.int .i64 3, .int .i64 2] 36 (0, 0)) := (HB21.out.block _ (blk_lt HF11.out)).trans HF11.out
      have p0 : w20.cell? ⟨b11, 0, none⟩ = some (.int .i64 3) := cell_of h11 rfl
      have p1 : w20.cell? ⟨b11, 1, none⟩ = some (.int .i64 2) := cell_of h11 rfl
      have pl := blk_lt h11
      have q0 : w20.cell? ⟨w13.heap.size, 0, none⟩ = some (.int .i64 3) := cell_of h14 rfl
      have q1 : w20.cell? ⟨w13.heap.size, 1, none⟩ = some (.int .i64 0) := cell_of h14 rfl
      have ql := blk_lt h14
      have r1 : ∀ W, (binOp .eql 36 (.agg #[.int .i64 3, .int .i64 2]) (.agg #[.int .i64 3, .int .i64 2])).run Try.prog W = .ok (.bool true) W := fun W => by rw [eqlF]; rfl
      have r2 : ∀ W, (binOp .eql 36 (.agg #[.int .i64 3, .int .i64 0]) (.agg #[.int .i64 3, .int .i64 0])).run Try.prog W = .ok (.bool true) W := fun W => by rw [eqlF]; rfl
      have HBE : Hid (Below w.heap.size w w20) := HB11.out.trans (HB21.out.mono HB11.out.size)
      clear h11 h14 H20 K10 HB20 HB16 HB14 HF14 HF11 HB11 HB21
      go_wp2_with fail
      go_ret
      exact ⟨rfl, HBE.out⟩
end Go.Proofs.Ytgdkeafjglcgaaa
