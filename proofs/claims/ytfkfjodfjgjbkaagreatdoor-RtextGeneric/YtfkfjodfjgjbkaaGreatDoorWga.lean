/- Texts laid together: Qq Qr Qt Qu Qs. -/
import Derived.Test.YtfkfjodfjgjbkaaGreatDoorWbb
import Derived.BigQuiet
/- Words of a count and digits that don't agree. -/
namespace Go.Proofs.YtfkfjodfjgjbkaaGreatDoor
open Go.ChangeShapes Go.WideShapes Go.ChangeAt Go.RowKit
set_option linter.unusedVariables false
set_option linter.unusedSimpArgs false

set_option maxRecDepth 100000 in
set_option maxHeartbeats 4000000 in
theorem hashed_no (t : Nat) (b o : Nat) (num : ByteArray) (qn : Bool) (ps : List Wd) (c : Nat) (w : World) (hw : RdW w (some ⟨b, o, none⟩) ((num, qn) :: ps)) (hc : ps.length + 1 ≤ c) (h63 : c ≤ 9223372036854775807) (m : Nat) (hns : num.size ≤ 1000000) (hm : xnum (nums num) (2 ^ 32) = some m)
    (n : Nat) (hn : (catL ps).length = 2 * n) (hs : (catL ps).length ≤ 131070) (ho : ∀ k, k < n → okp (nums ⟨(catL ps).toArray⟩) k) (hmn : m ≠ n) :
    Calls Tryz.prog 88 #[.int .u16 (t : Int), .slice (some ⟨b, o, none⟩) (ps.length + 1) c] w fun e w' => e = .returned (.tuple #[.agg #[.slice none 0 0, .slice none 0 0, .slice none 0 0, .slice none 0 0], .bool false]) ∧ Hid (Below w.heap.size w w') := by
  obtain ⟨b', o', e', hb, c1, c2, -⟩ := hw.head
  injection e' with e'
  injection e' with e1 e2
  subst e1; subst e2
  have HW : Hid (RdW w (some ⟨b, o, none⟩) ((num, qn) :: ps)) := hw
  have HZ : Hid (Below w.heap.size w (nilB w) ∧ DBlk (nilB w) w.heap.size nilDA) := ⟨new_below _ _, heap_alloc_new _ _⟩
  have hs0 : (nilB w).heap.size = w.heap.size + 1 := by simp [nilB]
  have HG0 : Hid (G2 (w.heap.size + 1) ((nilB w).alloc (.cells #[.pointer none, .slice none 0 0] 81)) (w.heap.size + 1) [] ∧ Below (w.heap.size + 1) (nilB w) ((nilB w).alloc (.cells #[.pointer none, .slice none 0 0] 81))) := by
    have h1 : BB ((nilB w).alloc (.cells #[.pointer none, .slice none 0 0] 81)) (nilB w).heap.size (.pointer none) (.slice none 0 0) := heap_alloc_new _ _
    have h2 := new_below (nilB w) (.cells #[.pointer none, .slice none 0 0] 81)
    rw [hs0] at h1 h2
    exact ⟨.inl ⟨h1, rfl⟩, h2⟩
  have KN : Hid (∀ W, Calls Tryz.prog 96 #[.string num, .int .i64 32] W fun e w' => e = .returned (.tuple #[.int .u32 (m : Int), .bool true]) ∧ Hid (Below W.heap.size W w')) := fun W => num_yes 32 (.inr rfl) num (by omega) m hm W
  have hm32 := (xnum_some hm).2
  have hp32 : (2 : Nat) ^ 32 = 4294967296 := by decide
  rw [hp32] at hm32
  have hn2 : n ≤ 65535 := by omega
  have hsz : (⟨(catL ps).toArray⟩ : ByteArray).size = (catL ps).length := by simp [ByteArray.size]
  have KU : Hid (∀ W, Calls Tryz.prog 115 #[.string ⟨(catL ps).toArray⟩] W fun e w' => ∃ ao ys, e = .returned (.tuple #[.slice ao n ys.length, .int .i64 0]) ∧ Hid (OwnA W.heap.size w' ao n ys ∧ ys.take n = prs (nums ⟨(catL ps).toArray⟩) n ∧ Below W.heap.size W w')) := fun W =>
    (unhex_even ⟨(catL ps).toArray⟩ n W (by rw [hsz]; exact hn) (by rw [hsz]; exact hs)).mono (by
      rintro e w' (⟨⟨k, hk, hno⟩, -⟩ | ⟨-, ao, ys, he, h1, h2, h3⟩)
      · exact absurd (ho k hk) hno
      · exact ⟨ao, ys, he, h1, h2, h3⟩)
  have HS : Hid ((catL ps).length ≤ 131070) := hs
  clear hw ho hm hn hs hsz
  have hmn1 : ((m : Int) != (n : Int)) = true := by rw [bne_iff_ne]; omega
  obtain ⟨N, hN⟩ : ∃ N, ps.length = N := ⟨_, rfl⟩
  have HN : Hid (ps.length = N) := hN
  rw [hN] at hc ⊢
  clear hN
  generalize hL : (⟨(catL ps).toArray⟩ : ByteArray) = Lh at *
  generalize hzs : prs (nums Lh) n = zs at *
  by_cases hc1 : c = 1
  · have hN0 : N = 0 := by omega
    subst hc1; subst hN0
    go_enter Tryz.func88, Tryz.ntmps88
    go_wp2_with fail
    go_loopw [21] (fun y wr => ∃ k : Nat, k ≤ 0 ∧ y = .int .i64 k ∧ Hid (G2 (w.heap.size + 1) wr (w.heap.size + 1) (Lib.byteCells (catL (ps.take k))) ∧ Below (w.heap.size + 1) (nilB w) wr)) (fun y _ => 0 - (intOf y).toNat)
    case atStart => exact ⟨0, Nat.zero_le _, rfl, HG0.out⟩
    case round =>
      obtain ⟨k, hk, rfl, HR⟩ := hrel
      have HBW : Hid (Below w.heap.size w wr) := HZ.out.1.trans (HR.out.2.mono (by omega))
      by_cases hlt : k < 0
      · exact absurd hlt (by omega)
      · have hge : ¬ (k : Int) < (0 : Int) := by omega
        have hkn : k = 0 := by omega
        subst hkn
        have hall : ps.take 0 = ps := List.take_of_length_le (by rw [HN.out]; exact Nat.le_refl _)
        have HG : Hid (G2 (w.heap.size + 1) wr (w.heap.size + 1) (Lib.byteCells (catL ps)) ∧ Below (w.heap.size + 1) (nilB w) wr) := by rw [hall] at HR; exact HR
        have q1 : wr.cell? ⟨b, o, none⟩ = some (.string num) := (HBW.out.cell (p := ⟨b, o, none⟩) hb).trans c1
        clear HR hall HBW
        go_wp2_with fail
        refine (KN.out _).mono ?_
        rintro e w2 ⟨rfl, H2⟩
        have HG2 : Hid (G2 (w.heap.size + 1) w2 (w.heap.size + 1) (Lib.byteCells (catL ps)) ∧ Below (w.heap.size + 1) (nilB w) w2) := ⟨HG.out.1.below H2.out, HG.out.2.trans (H2.out.mono (by have := HG.out.2.size; rw [hs0] at this; exact this))⟩
        have KS : Hid (Calls Tryz.prog 49 #[.pointer (some ⟨w.heap.size + 1, 0, none⟩)] w2 fun e w' => e = .returned (.string Lh) ∧ Hid (Below (w.heap.size + 1) w2 w')) := by
          have := wstringU (w.heap.size + 1) (w.heap.size + 1) (catL ps) w2 HG2.out.1 (by have := HS.out; omega)
          rw [hL] at this
          exact this
        clear HG H2
        go_wp2_with fail
        refine KS.out.mono ?_
        rintro e w3 ⟨rfl, H3⟩
        have HB3 : Hid (Below (w.heap.size + 1) (nilB w) w3) := HG2.out.2.trans H3.out
        clear KS H3 HG2
        go_wp2_with fail
        refine (KU.out _).mono ?_
        rintro e w4 ⟨ao, ys, rfl, H4⟩
        have HB4 : Hid (Below (w.heap.size + 1) (nilB w) w4) := HB3.out.trans (H4.out.2.2.mono (by have := HB3.out.size; rw [hs0] at this; exact this))
        have hs4 : w.heap.size + 1 ≤ w4.heap.size := by have := HB4.out.size; rw [hs0] at this; exact this
        have HRB : Hid (DBlk w4 w.heap.size nilDA) := (HB4.out.block _ (by omega)).trans HZ.out.2
        have HBW6 : Hid (Below w.heap.size w w4) := HZ.out.1.trans (HB4.out.mono (by omega))
        have er0 := HRB.out.box.1
        have er1 := HRB.out.box.2.1
        have er2 := HRB.out.box.2.2.1
        have er3 := HRB.out.box.2.2.2.1
        have ez0 := HRB.out.fz 0
        have ez1 := HRB.out.fz 1
        have ez2 := HRB.out.fz 2
        have ez3 := HRB.out.fz 3
        simp only at er0 er1 er2 er3
        clear HB3 H4 KU KN
        go_wp2_with fail
        have HX : Hid (DBlk ((((w4.setCell ⟨w.heap.size, 0, none⟩ (.slice none 0 0)).setCell ⟨w.heap.size, 1, none⟩ (.slice none 0 0)).setCell ⟨w.heap.size, 2, none⟩ (.slice none 0 0)).setCell ⟨w.heap.size, 3, none⟩ (.slice none 0 0)) w.heap.size nilDA ∧ Below w.heap.size w ((((w4.setCell ⟨w.heap.size, 0, none⟩ (.slice none 0 0)).setCell ⟨w.heap.size, 1, none⟩ (.slice none 0 0)).setCell ⟨w.heap.size, 2, none⟩ (.slice none 0 0)).setCell ⟨w.heap.size, 3, none⟩ (.slice none 0 0))) := ret4 HRB.out HBW6.out (Nat.le_refl _) nilDA
        generalize ((((w4.setCell ⟨w.heap.size, 0, none⟩ (.slice none 0 0)).setCell ⟨w.heap.size, 1, none⟩ (.slice none 0 0)).setCell ⟨w.heap.size, 2, none⟩ (.slice none 0 0)).setCell ⟨w.heap.size, 3, none⟩ (.slice none 0 0)) = W9 at *
        have z0 := HX.out.1.box.1
        have z1 := HX.out.1.box.2.1
        have z2 := HX.out.1.box.2.2.1
        have z3 := HX.out.1.box.2.2.2.1
        exact bodyPost_ret (v := .tuple #[.agg #[.slice none 0 0, .slice none 0 0, .slice none 0 0, .slice none 0 0], .bool false]) (by simp [results, Tryz.results88, go_sem, z0, z1, z2, z3]) rfl ⟨rfl, HX.out.2⟩
  · have hc1' : ¬ c - 1 = 0 := by omega
    have hc2 : ¬ (c : Int) - 1 = 0 := by omega
    go_enter Tryz.func88, Tryz.ntmps88
    go_wp2_with fail
    go_loopw [21] (fun y wr => ∃ k : Nat, k ≤ N ∧ y = .int .i64 k ∧ Hid (G2 (w.heap.size + 1) wr (w.heap.size + 1) (Lib.byteCells (catL (ps.take k))) ∧ Below (w.heap.size + 1) (nilB w) wr)) (fun y _ => N - (intOf y).toNat)
    case atStart => exact ⟨0, Nat.zero_le _, rfl, HG0.out⟩
    case round =>
      obtain ⟨k, hk, rfl, HR⟩ := hrel
      have HBW : Hid (Below w.heap.size w wr) := HZ.out.1.trans (HR.out.2.mono (by omega))
      by_cases hlt : k < N
      · have hlt' : (k : Int) < (N : Int) := by omega
        have hkp : k < ps.length := by rw [HN.out]; exact hlt
        obtain ⟨-, r1, r2⟩ := HW.out.at k hkp
        have q1 : wr.cell? ⟨b, o + 2 + k * 2, none⟩ = some (.string ps[k].1) := (HBW.out.cell (p := ⟨b, o + 2 + k * 2, none⟩) hb).trans r1
        have q2 : wr.cell? ⟨b, o + 2 + k * 2 + 1, none⟩ = some (.bool ps[k].2) := (HBW.out.cell (p := ⟨b, o + 2 + k * 2 + 1, none⟩) hb).trans r2
        have HT := Lib.hid (catL_snoc ps k hkp)
        have HL : Hid ((Lib.byteCells (catL (ps.take k))).length + ps[k].1.size ≤ 140737488355328) := by
          show _ ≤ _
          have h1 := catL_le ps (k + 1)
          rw [catL_snoc ps k hkp, List.length_append] at h1
          have h2 := HS.out
          rw [Lib.byteCells_length]
          have h3 : ps[k].1.data.toList.length = ps[k].1.size := rfl
          omega
        clear r1 r2
        generalize ps[k].1 = s at *
        generalize ps[k].2 = q at *
        go_wp2_with fail
        have hnb : Below wr.heap.size wr (wr.alloc (.cells #[.string s, .bool q] 59)) := new_below _ _
        have hbz : w.heap.size + 1 ≤ wr.heap.size := by have := HR.out.2.size; rw [hs0] at this; exact this
        have KW := Lib.hid (wstrU (w.heap.size + 1) (w.heap.size + 1) (Lib.byteCells (catL (ps.take k))) s (wr.alloc (.cells #[.string s, .bool q] 59)) (HR.out.1.below hnb) (Nat.le_refl _) HL.out)
        refine KW.out.mono ?_
        rintro e w2 ⟨rfl, H2⟩
        go_wp2_with fail
        refine ⟨⟨k + 1, by omega, by go_num, ?_, ?_⟩, by simp [intOf]; omega⟩
        · rw [HT.out, cells_app]; exact .inr H2.out.1
        · exact (HR.out.2.trans (hnb.mono hbz)).trans H2.out.2
      · have hge : ¬ (k : Int) < (N : Int) := by omega
        have hkn : k = N := by omega
        subst hkn
        have hall : ps.take k = ps := List.take_of_length_le (by rw [HN.out]; exact Nat.le_refl _)
        have HG : Hid (G2 (w.heap.size + 1) wr (w.heap.size + 1) (Lib.byteCells (catL ps)) ∧ Below (w.heap.size + 1) (nilB w) wr) := by rw [hall] at HR; exact HR
        have q1 : wr.cell? ⟨b, o, none⟩ = some (.string num) := (HBW.out.cell (p := ⟨b, o, none⟩) hb).trans c1
        clear HR hall HBW
        go_wp2_with fail
        refine (KN.out _).mono ?_
        rintro e w2 ⟨rfl, H2⟩
        have HG2 : Hid (G2 (w.heap.size + 1) w2 (w.heap.size + 1) (Lib.byteCells (catL ps)) ∧ Below (w.heap.size + 1) (nilB w) w2) := ⟨HG.out.1.below H2.out, HG.out.2.trans (H2.out.mono (by have := HG.out.2.size; rw [hs0] at this; exact this))⟩
        have KS : Hid (Calls Tryz.prog 49 #[.pointer (some ⟨w.heap.size + 1, 0, none⟩)] w2 fun e w' => e = .returned (.string Lh) ∧ Hid (Below (w.heap.size + 1) w2 w')) := by
          have := wstringU (w.heap.size + 1) (w.heap.size + 1) (catL ps) w2 HG2.out.1 (by have := HS.out; omega)
          rw [hL] at this
          exact this
        clear HG H2
        go_wp2_with fail
        refine KS.out.mono ?_
        rintro e w3 ⟨rfl, H3⟩
        have HB3 : Hid (Below (w.heap.size + 1) (nilB w) w3) := HG2.out.2.trans H3.out
        clear KS H3 HG2
        go_wp2_with fail
        refine (KU.out _).mono ?_
        rintro e w4 ⟨ao, ys, rfl, H4⟩
        have HB4 : Hid (Below (w.heap.size + 1) (nilB w) w4) := HB3.out.trans (H4.out.2.2.mono (by have := HB3.out.size; rw [hs0] at this; exact this))
        have hs4 : w.heap.size + 1 ≤ w4.heap.size := by have := HB4.out.size; rw [hs0] at this; exact this
        have HRB : Hid (DBlk w4 w.heap.size nilDA) := (HB4.out.block _ (by omega)).trans HZ.out.2
        have HBW6 : Hid (Below w.heap.size w w4) := HZ.out.1.trans (HB4.out.mono (by omega))
        have er0 := HRB.out.box.1
        have er1 := HRB.out.box.2.1
        have er2 := HRB.out.box.2.2.1
        have er3 := HRB.out.box.2.2.2.1
        have ez0 := HRB.out.fz 0
        have ez1 := HRB.out.fz 1
        have ez2 := HRB.out.fz 2
        have ez3 := HRB.out.fz 3
        simp only at er0 er1 er2 er3
        clear HB3 H4 KU KN
        go_wp2_with fail
        have HX : Hid (DBlk ((((w4.setCell ⟨w.heap.size, 0, none⟩ (.slice none 0 0)).setCell ⟨w.heap.size, 1, none⟩ (.slice none 0 0)).setCell ⟨w.heap.size, 2, none⟩ (.slice none 0 0)).setCell ⟨w.heap.size, 3, none⟩ (.slice none 0 0)) w.heap.size nilDA ∧ Below w.heap.size w ((((w4.setCell ⟨w.heap.size, 0, none⟩ (.slice none 0 0)).setCell ⟨w.heap.size, 1, none⟩ (.slice none 0 0)).setCell ⟨w.heap.size, 2, none⟩ (.slice none 0 0)).setCell ⟨w.heap.size, 3, none⟩ (.slice none 0 0))) := ret4 HRB.out HBW6.out (Nat.le_refl _) nilDA
        generalize ((((w4.setCell ⟨w.heap.size, 0, none⟩ (.slice none 0 0)).setCell ⟨w.heap.size, 1, none⟩ (.slice none 0 0)).setCell ⟨w.heap.size, 2, none⟩ (.slice none 0 0)).setCell ⟨w.heap.size, 3, none⟩ (.slice none 0 0)) = W9 at *
        have z0 := HX.out.1.box.1
        have z1 := HX.out.1.box.2.1
        have z2 := HX.out.1.box.2.2.1
        have z3 := HX.out.1.box.2.2.2.1
        exact bodyPost_ret (v := .tuple #[.agg #[.slice none 0 0, .slice none 0 0, .slice none 0 0, .slice none 0 0], .bool false]) (by simp [results, Tryz.results88, go_sem, z0, z1, z2, z3]) rfl ⟨rfl, HX.out.2⟩
end Go.Proofs.YtfkfjodfjgjbkaaGreatDoor
/- Pick, decimal digits. -/
namespace Go.Proofs.YtfkfjodfjgjbkaaGreatDoor
open Go.ChangeShapes Go.WideShapes Go.ChangeAt Go.RowKit
set_option linter.unusedVariables false
set_option linter.unusedSimpArgs false

theorem ret_i {a b : Int} (h : a = b) : Ending.returned (.int .i64 a) = Ending.returned (.int .i64 b) := by rw [h]
set_option maxHeartbeats 400000 in
theorem pick6 (x n : Int) (w : World) (hn : 1 ≤ n ∧ n ≤ 4611686018427387904) :
    Calls Tryz.prog 29 #[.int .i64 x, .int .i64 n] w fun e w' => (∃ r : Nat, (r : Int) < n ∧ e = .returned (.int .i64 r)) ∧ w' = w := by
  have h1 : ¬ n < 1 := by omega
  have hn0 : ¬ n = 0 := by omega
  have l1 : x.tmod n < n := Int.tmod_lt_of_pos x (by omega)
  have l2 : -n < x.tmod n := by
    have := Int.tmod_lt_of_pos (-x) (show 0 < n by omega)
    rw [Int.neg_tmod] at this
    omega
  by_cases h0 : x.tmod n < 0
  · go_enter Tryz.func29, Tryz.ntmps29
    go_wp2
    go_ret
    exact ⟨⟨(x.tmod n + n).toNat, by omega, ret_i (by omega)⟩, rfl⟩
  · go_enter Tryz.func29, Tryz.ntmps29
    go_wp2
    go_ret
    exact ⟨⟨(x.tmod n).toNat, by omega, ret_i (by omega)⟩, rfl⟩
theorem lb_app (a b : List Int) : lb (a ++ b) = lb a ++ lb b := by
  have : (lb (a ++ b)).data.toList = (lb a ++ lb b).data.toList := by simp [lb, txt]
  cases h1 : lb (a ++ b) with
  | mk x =>
    cases h2 : lb a ++ lb b with
    | mk y =>
      rw [h1, h2] at this
      simp only at this
      rw [← Array.toArray_toList (xs := x), this, Array.toArray_toList]
set_option maxRecDepth 100000 in
set_option maxHeartbeats 1000000 in
theorem dec_small (n : Nat) (h : n < 10) (w : World) : Calls Tryz.prog 30 #[.int .i64 (n : Int)] w fun e w' => e = .returned (.string (xnw n)) ∧ Hid (Below w.heap.size w w') := by
  have h' : (n : Int) < 10 := by omega
  have hr := conv_rd (some ⟨w.heap.size, 0, none⟩) 1 1 [48 + (n : Int)] (w.alloc (.cells #[.int .u8 (48 + (n : Int))] 5)) (new_rd w _ (by omega)) rfl
  have hx : (⟨(txt [48 + (n : Int)]).toArray⟩ : ByteArray) = xnw n := by unfold xnw; rw [xdec_small h]; rfl
  rw [hx] at hr
  go_enter Tryz.func30, Tryz.ntmps30
  go_wp2_with fail
  go_ret
  exact ⟨rfl, new_below _ _⟩
set_option maxRecDepth 100000 in
set_option maxHeartbeats 1000000 in
theorem dec6 (n : Nat) (h : n < 1000000) (w : World) : Calls Tryz.prog 30 #[.int .i64 (n : Int)] w fun e w' => e = .returned (.string (xnw n)) ∧ Hid (Below w.heap.size w w') := by
  induction n using Nat.strongRecOn generalizing w with
  | _ n ih =>
    by_cases hs : n < 10
    · exact dec_small n hs w
    · have hs' : ¬ (n : Int) < 10 := by omega
      have e1 : (n : Int).tdiv 10 = ((n / 10 : Nat) : Int) := by rw [Int.tdiv_eq_ediv_of_nonneg (by omega)]; omega
      have e2 : (n : Int).tmod 10 = ((n % 10 : Nat) : Int) := by rw [Int.tmod_eq_emod_of_nonneg (by omega)]; omega
      have K1 : Hid (∀ W, Calls Tryz.prog 30 #[.int .i64 ((n / 10 : Nat) : Int)] W fun e w' => e = .returned (.string (xnw (n / 10))) ∧ Hid (Below W.heap.size W w')) := fun W => ih (n / 10) (by omega) (by omega) W
      have K2 : Hid (∀ W, Calls Tryz.prog 30 #[.int .i64 ((n % 10 : Nat) : Int)] W fun e w' => e = .returned (.string (xnw (n % 10))) ∧ Hid (Below W.heap.size W w')) := fun W => dec_small (n % 10) (by omega) W
      have HX : Hid (xnw (n / 10) ++ xnw (n % 10) = xnw n) := by
        show _ = _
        unfold xnw
        rw [xdec_big hs, xdec_small (show n % 10 < 10 by omega), lb_app]
      have z1 : (xnw (n / 10)).size ≤ 10 := by rw [← nums_len, xnw_nums]; exact xdec_len10 _ (by omega)
      have z2 : (xnw (n % 10)).size ≤ 10 := by rw [← nums_len, xnw_nums]; exact xdec_len10 _ (by omega)
      have e3 : ((n / 10 : Nat) : Int) = (n : Int) / 10 := by omega
      have e4 : ((n % 10 : Nat) : Int) = (n : Int) % 10 := by omega
      rw [e3] at K1
      rw [e4] at K2
      clear ih e1 e2 e3 e4
      generalize xnw (n / 10) = s1 at *
      generalize xnw (n % 10) = s2 at *
      go_enter Tryz.func30, Tryz.ntmps30
      go_wp2_with fail
      refine (K1.out _).mono ?_
      rintro e w1 ⟨rfl, H1⟩
      go_wp2_with fail
      refine (K2.out _).mono ?_
      rintro e w2 ⟨rfl, H2⟩
      go_wp2_with fail
      go_ret
      refine ⟨?_, H1.out.trans (H2.out.mono H1.out.size)⟩
      rw [← HX.out]; rfl
end Go.Proofs.YtfkfjodfjgjbkaaGreatDoor
/- A digit out of a text of digits. -/
namespace Go.Proofs.YtfkfjodfjgjbkaaGreatDoor
open Go.ChangeShapes Go.WideShapes Go.ChangeAt Go.RowKit
set_option linter.unusedVariables false
def ud (v : Int) : Int := if v < 10 then 48 + v else 55 + v
theorem dig_sl (d : Int) (h0 : 0 ≤ d) (h1 : d < 16) (w : World) : (Instr.slice 9 (.string ⟨#[48, 49, 50, 51, 52, 53, 54, 55, 56, 57, 65, 66, 67, 68, 69, 70]⟩) (some (.int .u8 d)) (some (.int .u8 (d + 1))) none).run Tryz.prog w = .ok (.string (lb [ud d])) w := by
  have : d = 0 ∨ d = 1 ∨ d = 2 ∨ d = 3 ∨ d = 4 ∨ d = 5 ∨ d = 6 ∨ d = 7 ∨ d = 8 ∨ d = 9 ∨ d = 10 ∨ d = 11 ∨ d = 12 ∨ d = 13 ∨ d = 14 ∨ d = 15 := by omega
  rcases this with rfl | rfl | rfl | rfl | rfl | rfl | rfl | rfl | rfl | rfl | rfl | rfl | rfl | rfl | rfl | rfl <;> (clear h0 h1; show Sem.run _ _ _ = Result.ok _ _; kernel_rfl)
theorem dig_sa (d : Int) (h0 : 0 ≤ d) (h1 : d < 16) (w : World) : (Instr.sliceAt 9 (.string ⟨#[48, 49, 50, 51, 52, 53, 54, 55, 56, 57, 65, 66, 67, 68, 69, 70]⟩) (some (.int .u8 d)) (some (.int .u8 (d + 1))) none).run Tryz.prog w = .ok (.string (lb [ud d])) w := by
  have : d = 0 ∨ d = 1 ∨ d = 2 ∨ d = 3 ∨ d = 4 ∨ d = 5 ∨ d = 6 ∨ d = 7 ∨ d = 8 ∨ d = 9 ∨ d = 10 ∨ d = 11 ∨ d = 12 ∨ d = 13 ∨ d = 14 ∨ d = 15 := by omega
  rcases this with rfl | rfl | rfl | rfl | rfl | rfl | rfl | rfl | rfl | rfl | rfl | rfl | rfl | rfl | rfl | rfl <;> (clear h0 h1; show Sem.run _ _ _ = Result.ok _ _; kernel_rfl)
end Go.Proofs.YtfkfjodfjgjbkaaGreatDoor
/- Parse of a count and digits in pieces. -/
namespace Go.Proofs.YtfkfjodfjgjbkaaGreatDoor
open Go.ChangeShapes Go.WideShapes Go.ChangeAt Go.RowKit
set_option linter.unusedVariables false
set_option linter.unusedSimpArgs false

def upl (zs : List Int) : List Int := zs.flatMap fun z => [ud (z / 16), ud (z % 16)]
theorem upl_snoc (zs : List Int) (k : Nat) (h : k < zs.length) : upl (zs.take (k + 1)) = upl (zs.take k) ++ [ud (zs[k] / 16)] ++ [ud (zs[k] % 16)] := by
  unfold upl
  rw [List.take_add_one, List.getElem?_eq_getElem h, Option.toList_some, List.flatMap_append]
  simp
theorem upl_len (zs : List Int) : (upl zs).length = 2 * zs.length := by
  induction zs with
  | nil => rfl
  | cons c l ih => simp only [upl, List.flatMap_cons, List.length_append, List.length_cons, List.length_nil] at ih ⊢; omega
theorem ud_wv : ∀ v : Nat, v < 16 → wv (ud (v : Int)) = (v : Int) := by decide +kernel
theorem ud_by (v : Int) (h : 0 ≤ v ∧ v < 16) : 0 ≤ ud v ∧ ud v ≤ 255 := by unfold ud; split <;> omega
theorem upl_by (zs : List Int) (hz : ∀ z ∈ zs, 0 ≤ z ∧ z ≤ 255) : ∀ c ∈ upl zs, 0 ≤ c ∧ c ≤ 255 := by
  intro c hc
  simp only [upl, List.mem_flatMap] at hc
  obtain ⟨b, hb, hc⟩ := hc
  have := hz b hb
  simp only [List.mem_cons, List.not_mem_nil, or_false] at hc
  rcases hc with rfl | rfl
  · exact ud_by _ (by omega)
  · exact ud_by _ (by omega)
theorem up_hex (zs : List Int) (hz : ∀ z ∈ zs, 0 ≤ z ∧ z ≤ 255) : (∀ k, k < zs.length → okp (upl zs) k) ∧ prs (upl zs) zs.length = zs :=
  hex_prs ud (fun v hv => by
    obtain ⟨n, rfl⟩ := Int.eq_ofNat_of_zero_le hv.1
    exact ud_wv n (by omega)) zs hz
theorem rdw_new (w : World) (ws : List Wd) : RdW (w.alloc (.cells (cellsW ws).toArray 59)) (some ⟨w.heap.size, 0, none⟩) ws := by
  refine .inr ⟨w.heap.size, 0, rfl, by simp, fun i hi => ?_⟩
  obtain ⟨c1, c2⟩ := cellsW_at ws i hi
  have hb : BlkV (w.alloc (.cells (cellsW ws).toArray 59)) w.heap.size 59 (cellsW ws) := heap_alloc_new _ _
  have hl := cellsW_len ws
  have k1 := hb.cell (2 * i) (by omega)
  have k2 := hb.cell (2 * i + 1) (by omega)
  rw [List.getElem?_eq_getElem (by omega)] at c1 c2
  rw [Nat.zero_add]
  exact ⟨k1.trans c1, k2.trans c2⟩
theorem rdw_new1 (w : World) (o : Obj) (ws : List Wd) : RdW ((w.alloc o).alloc (.cells (cellsW ws).toArray 59)) (some ⟨w.heap.size + 1, 0, none⟩) ws := by
  have := rdw_new (w.alloc o) ws
  rw [show (w.alloc o).heap.size = w.heap.size + 1 by simp] at this
  exact this
/-- Data that were read, in a box of their own. -/
def GX (wa W : World) (D : Nat) (x : DA) (d : Dat) : Prop := DBlk W D x ∧ DRd W x d ∧ Below wa.heap.size wa W ∧ wa.heap.size ≤ D
theorem gx_new {wa w6 : World} {B : Nat} {x : DA} {d : Dat} (h : DOwn B w6 x d) (hb : Below wa.heap.size wa w6) : GX wa (w6.alloc (.cells #[.slice x.p1.a x.p1.n x.p1.c, .slice x.p2.a x.p2.n x.p2.c, .slice x.p3.a x.p3.n x.p3.c, .slice x.p4.a x.p4.n x.p4.c] 29)) w6.heap.size x d :=
  ⟨heap_alloc_new _ _, h.rd.below (new_below _ _), hb.trans ((new_below _ _).mono hb.size), hb.size⟩
theorem gx_set {wa w6 : World} {B D : Nat} {x : DA} {d : Dat} (h : DOwn B w6 x d) (hb : Below wa.heap.size wa w6) (hD : DBlk w6 D nilDA) (hDB : D < B) (hwD : wa.heap.size ≤ D) : GX wa ((((w6.setCell ⟨D, 0, none⟩ (.slice x.p1.a x.p1.n x.p1.c)).setCell ⟨D, 1, none⟩ (.slice x.p2.a x.p2.n x.p2.c)).setCell ⟨D, 2, none⟩ (.slice x.p3.a x.p3.n x.p3.c)).setCell ⟨D, 3, none⟩ (.slice x.p4.a x.p4.n x.p4.c)) D x d :=
  ⟨(ret4 hD hb hwD x).1, (h.ret4 (B' := B) hDB (Nat.le_refl _)).rd, (ret4 hD hb hwD x).2, hwD⟩
def NF (wa w6 : World) (B D : Nat) : Prop := Hid (DBlk w6 D nilDA ∧ D < B ∧ wa.heap.size ≤ D) ∧ w6.cell? ⟨D, 0, none⟩ = some (.slice none 0 0) ∧ w6.cell? ⟨D, 1, none⟩ = some (.slice none 0 0) ∧ w6.cell? ⟨D, 2, none⟩ = some (.slice none 0 0) ∧ w6.cell? ⟨D, 3, none⟩ = some (.slice none 0 0) ∧ w6.frozen? ⟨D, 0, none⟩ = false ∧ w6.frozen? ⟨D, 1, none⟩ = false ∧ w6.frozen? ⟨D, 2, none⟩ = false ∧ w6.frozen? ⟨D, 3, none⟩ = false
theorem nilfacts {W w6 wa : World} {D : Nat} (h : DBlk W D nilDA) (hb : Below W.heap.size W w6) (hwD : wa.heap.size ≤ D) : NF wa w6 W.heap.size D := by
  have k : DBlk w6 D nilDA := (hb.block _ h.lt).trans h
  exact ⟨⟨k, h.lt, hwD⟩, k.box.1, k.box.2.1, k.box.2.2.1, k.box.2.2.2.1, k.fz 0, k.fz 1, k.fz 2, k.fz 3⟩
theorem dblk_up {w : World} {D : Nat} {x : DA} (h : DBlk w D x) (o : Obj) : DBlk (w.alloc o) D x := ((new_below w o).block _ h.lt).trans h
theorem dblk_new1 (w : World) (o : Obj) : DBlk ((w.alloc o).alloc (.cells #[.slice none 0 0, .slice none 0 0, .slice none 0 0, .slice none 0 0] 29)) (w.heap.size + 1) nilDA := by
  have : DBlk ((w.alloc o).alloc (.cells #[.slice none 0 0, .slice none 0 0, .slice none 0 0, .slice none 0 0] 29)) (w.alloc o).heap.size nilDA := heap_alloc_new _ _
  rw [show (w.alloc o).heap.size = w.heap.size + 1 by simp] at this
  exact this
theorem dblk_new0 (w : World) : DBlk (w.alloc (.cells #[.slice none 0 0, .slice none 0 0, .slice none 0 0, .slice none 0 0] 29)) w.heap.size nilDA := heap_alloc_new _ _
theorem nil_nm (w : World) : Nm w none 0 [] := ⟨.inl rfl, rfl, by decide⟩
theorem nil_ck : nck [] = 0 := by decide
theorem gen_p1 (t : Nat) (d : Dat) (zs : List Int) (ps : List Wd) (c : Nat) (hps : nums ⟨(catL ps).toArray⟩ = upl zs) (hpl : ps.length + 2 ≤ c) (h63 : c ≤ 9223372036854775807) (W : World) (b : Nat) (hck : checkF t d = 0) (hB : Bd d) (hw : writeF t d = zs) (hl : zs.length ≤ 400) (hz : ∀ z ∈ zs, 0 ≤ z ∧ z ≤ 255) (hr : RdW W (some ⟨b, 0, none⟩) ((⟨#[92, 35]⟩, false) :: (xnw zs.length, false) :: ps)) :
    Calls Tryz.prog 26 #[.int .u16 (t : Int), .slice (some ⟨b, 0, none⟩) (ps.length + 2) c, .slice none 0 0] W (PrPost d W) := by
  obtain ⟨l1, l2⟩ := up_hex zs hz
  have hlen : (catL ps).length = 2 * zs.length := by
    have : (nums ⟨(catL ps).toArray⟩).length = (upl zs).length := by rw [hps]
    rw [nums_len, upl_len] at this
    simpa [ByteArray.size] using this
  have h10 := xdec_len10 zs.length (by omega)
  refine parse_ok t _ none 0 0 [] d W (nil_nm W) nil_ck (check_parts hck).1 hB hck (fun W1 hW1 => ?_)
  refine readH_ok t b 0 (xnw zs.length, false) ps c none 0 0 d W1 (hr.below hW1) hpl h63 (fun W2 hW2 => ?_)
  obtain ⟨b', o', e', _, _, _, hr2⟩ := ((hr.below hW1).below hW2).head
  injection e' with e'
  injection e' with e1 e2
  subst e1; subst e2
  exact hashed_ok t b (0 + 2) (xnw zs.length) false ps (c - 1) W2 hr2 (by omega) (by omega) zs.length (by rw [← nums_len, xnw_nums]; omega) (by rw [xnw_nums]; exact xnum_dec _ _ (by have : (2 : Nat) ^ 32 = 4294967296 := (by decide); omega)) zs.length hlen (by omega) (by rw [hps]; exact l1) d rfl (by rw [hps, l2]; exact readF_write t d zs hck hw (by omega))
theorem gen_p2 (t : Nat) (d : Dat) (zs : List Int) (ps : List Wd) (c : Nat) (hps : nums ⟨(catL ps).toArray⟩ = upl zs) (hpl : ps.length + 2 ≤ c) (h63 : c ≤ 9223372036854775807) (W : World) (b : Nat) (hck : checkF t d = 0) (hl : zs.length ≤ 400) (hz : ∀ z ∈ zs, 0 ≤ z ∧ z ≤ 255) (hr : RdW W (some ⟨b, 0, none⟩) ((⟨#[92, 35]⟩, false) :: (xnw (zs.length + 1), false) :: ps)) :
    Calls Tryz.prog 26 #[.int .u16 (t : Int), .slice (some ⟨b, 0, none⟩) (ps.length + 2) c, .slice none 0 0] W fun e w' => e = .returned (.tuple #[.agg #[.slice none 0 0, .slice none 0 0, .slice none 0 0, .slice none 0 0], .int .i64 7]) ∧ Hid (Below W.heap.size W w') := by
  obtain ⟨l1, l2⟩ := up_hex zs hz
  have hlen : (catL ps).length = 2 * zs.length := by
    have : (nums ⟨(catL ps).toArray⟩).length = (upl zs).length := by rw [hps]
    rw [nums_len, upl_len] at this
    simpa [ByteArray.size] using this
  have h10 := xdec_len10 (zs.length + 1) (by omega)
  refine parse_no t _ none 0 0 [] W (nil_nm W) nil_ck (check_parts hck).1 (fun W1 hW1 => ?_)
  refine readH_no t b 0 (xnw (zs.length + 1), false) ps c none 0 0 W1 (hr.below hW1) hpl h63 (fun W2 hW2 => ?_)
  obtain ⟨b', o', e', _, _, _, hr2⟩ := ((hr.below hW1).below hW2).head
  injection e' with e'
  injection e' with e1 e2
  subst e1; subst e2
  exact (hashed_no t b (0 + 2) (xnw (zs.length + 1)) false ps (c - 1) W2 hr2 (by omega) (by omega) (zs.length + 1) (by rw [← nums_len, xnw_nums]; omega) (by rw [xnw_nums]; exact xnum_dec _ _ (by have : (2 : Nat) ^ 32 = 4294967296 := (by decide); omega)) zs.length hlen (by omega) (by rw [hps]; exact l1) (by omega)).mono fun e w' h => ⟨nilDA, h.1, h.2⟩
theorem cat_cut (q : ByteArray) (r : Nat) : nums ⟨(catL [(q.extract 0 r, false), (q.extract r q.size, false)]).toArray⟩ = nums q := by
  have e : nums ⟨(catL [(q.extract 0 r, false), (q.extract r q.size, false)]).toArray⟩ = nums (q.extract 0 r) ++ nums (q.extract r q.size) := by
    simp [catL, nums]
  rw [e, nums_extract2, nums_extract, List.drop_zero, List.take_append_drop]
theorem cat_one (q : ByteArray) : nums ⟨(catL [(q, false)]).toArray⟩ = nums q := by simp [catL]
end Go.Proofs.YtfkfjodfjgjbkaaGreatDoor
/- Data read of a count and digits in two pieces: the statement's function. -/
namespace Go.Proofs.YtfkfjodfjgjbkaaGreatDoor
open Go.ChangeShapes Go.WideShapes Go.ChangeAt Go.RowKit
set_option linter.unusedVariables false
set_option linter.unusedSimpArgs false

theorem wrap_1 : ∀ u : Nat, u < 16 → IntKind.u8.wrap ((u : Int) + 1) = (u : Int) + 1 := by decide
set_option maxRecDepth 100000 in
set_option maxHeartbeats 8000000 in
theorem genL (t : Nat) (x : DA) (d : Dat) (cut : Int) (w : World) (hd : DRd w x d) (hL : LayT w) (hE : LayE w) :
    Calls Tryz.prog 5 #[.int .u16 (t : Int), .agg #[.slice x.p1.a x.p1.n x.p1.c, .slice x.p2.a x.p2.n x.p2.c, .slice x.p3.a x.p3.n x.p3.c, .slice x.p4.a x.p4.n x.p4.c], .int .i64 cut] w fun e w' => e = .returned (.bool true) ∧ Hid (Below w.heap.size w w') := by
  have HNB : Hid (Below w.heap.size w (w.alloc (.cells #[.slice x.p1.a x.p1.n x.p1.c, .slice x.p2.a x.p2.n x.p2.c, .slice x.p3.a x.p3.n x.p3.c, .slice x.p4.a x.p4.n x.p4.c] 29)) ∧ DBlk (w.alloc (.cells #[.slice x.p1.a x.p1.n x.p1.c, .slice x.p2.a x.p2.n x.p2.c, .slice x.p3.a x.p3.n x.p3.c, .slice x.p4.a x.p4.n x.p4.c] 29)) w.heap.size x) := ⟨new_below _ _, heap_alloc_new _ _⟩
  have H : Hid (DRd w x d ∧ LayT w ∧ LayE w) := ⟨hd, hL, hE⟩
  clear hd hL hE
  obtain ⟨⟨a1, n1, k1⟩, ⟨a2, n2, k2⟩, ⟨a3, n3, k3⟩, ⟨a4, n4, k4⟩⟩ := x
  simp only at *
  have HSC : Hid (∀ W, Below (w.alloc (.cells #[.slice a1 n1 k1, .slice a2 n2 k2, .slice a3 n3 k3, .slice a4 n4 k4] 29)).heap.size (w.alloc (.cells #[.slice a1 n1 k1, .slice a2 n2 k2, .slice a3 n3 k3, .slice a4 n4 k4] 29)) W → (W.cell? ⟨w.heap.size, 0, none⟩ = some (.slice a1 n1 k1) ∧ W.cell? ⟨w.heap.size, 1, none⟩ = some (.slice a2 n2 k2) ∧ W.cell? ⟨w.heap.size, 2, none⟩ = some (.slice a3 n3 k3) ∧ W.cell? ⟨w.heap.size, 3, none⟩ = some (.slice a4 n4 k4)) ∧ DRd W ⟨⟨a1, n1, k1⟩, ⟨a2, n2, k2⟩, ⟨a3, n3, k3⟩, ⟨a4, n4, k4⟩⟩ d ∧ LayT W ∧ LayE W ∧ Below w.heap.size w W) := fun W hW => by
    have hb : Below w.heap.size w W := HNB.out.1.trans (hW.mono HNB.out.1.size)
    have hk : DBlk W w.heap.size ⟨⟨a1, n1, k1⟩, ⟨a2, n2, k2⟩, ⟨a3, n3, k3⟩, ⟨a4, n4, k4⟩⟩ := (hW.block _ HNB.out.2.lt).trans HNB.out.2
    exact ⟨⟨hk.box.1, hk.box.2.1, hk.box.2.2.1, hk.box.2.2.2.1⟩, H.out.1.below hb, H.out.2.1.below hb, H.out.2.2.below hb, hb⟩
  clear H HNB
  go_enter Tryz.func5, Tryz.ntmps5
  have hwsz : w.heap.size < (w.alloc (.cells #[.slice a1 n1 k1, .slice a2 n2 k2, .slice a3 n3 k3, .slice a4 n4 k4] 29)).heap.size := by simp
  generalize hwa : w.alloc (.cells #[.slice a1 n1 k1, .slice a2 n2 k2, .slice a3 n3 k3, .slice a4 n4 k4] 29) = wa at *
  have S0 := Lib.hid (HSC.out wa (Below.refl _ _))
  go_wp2_with fail
  try rw [hwa]
  clear hwa
  refine (awake6 wa S0.out.2.2.1).mono ?_
  rintro e w1 ⟨rfl, H1⟩
  have S1 := Lib.hid (HSC.out w1 H1.out)
  obtain ⟨c0, c1, c2, c3⟩ := S1.out.1
  go_wp2_with fail
  refine (large_any ⟨⟨a1, n1, k1⟩, ⟨a2, n2, k2⟩, ⟨a3, n3, k3⟩, ⟨a4, n4, k4⟩⟩ d w1 S1.out.2.1).mono ?_
  rintro e w2 ⟨lg, rfl, hsm, h2⟩
  have HB2 : Hid (Below wa.heap.size wa w2) := H1.out.trans (h2.mono H1.out.size)
  have S2 := Lib.hid (HSC.out w2 HB2.out)
  clear H1 S1 c0 c1 c2 c3 S0 h2
  obtain ⟨c0, c1, c2, c3⟩ := S2.out.1
  cases lg with
  | true =>
    go_wp2_with fail
    go_ret
    exact ⟨rfl, S2.out.2.2.2.2⟩
  | false =>
    have HSM : Hid (Small d) := hsm rfl
    clear hsm
    have KB := Lib.hid (bytes5_any t ⟨⟨a1, n1, k1⟩, ⟨a2, n2, k2⟩, ⟨a3, n3, k3⟩, ⟨a4, n4, k4⟩⟩ d w2 S2.out.2.1 HSM.out.bd)
    go_wp2_with fail
    refine KB.out.mono ?_
    rintro e w3 ⟨⟨sa, sn, sc⟩, rfl, H3⟩
    simp only at H3 ⊢
    obtain ⟨g1, g2, g3, g4, g5, g6⟩ := H3.out
    have HB3 : Hid (Below wa.heap.size wa w3) := HB2.out.trans (g6.mono HB2.out.size)
    have S3 := Lib.hid (HSC.out w3 HB3.out)
    by_cases hck : checkF t d = 0
    · obtain ⟨hsn, hrd⟩ := g4 hck
      have HRD : Hid (Rd w3 sa (writeF t d) ∧ (writeF t d).length = sn) := ⟨hrd, hsn.symm⟩
      clear H3 g3 g4 g5 g6 KB S2 c0 c1 c2 c3 HB2 hrd hsn
      rw [hck]
      by_cases h4 : 400 < sn
      · have h4' : (400 : Int) < (sn : Int) := by omega
        go_wp2_with fail
        go_ret
        exact ⟨rfl, S3.out.2.2.2.2⟩
      · have h4' : ¬ (400 : Int) < (sn : Int) := by omega
        obtain ⟨zs, hzs⟩ : ∃ zs, writeF t d = zs := ⟨_, rfl⟩
        rw [hzs] at HRD
        go_wp2_with fail
        go_loopw [10, 11] (fun v y wr => ∃ k : Nat, k ≤ sn ∧ y = .int .i64 k ∧ Hid (∃ q, v = .string q ∧ q = lb (upl (zs.take k))) ∧ Hid (Below wa.heap.size wa wr ∧ Below w3.heap.size w3 wr)) (fun _ y _ => sn - (intOf y).toNat)
        case atStart => exact ⟨0, Nat.zero_le _, rfl, ⟨_, rfl, rfl⟩, HB3.out, Below.refl _ _⟩
        case round =>
          obtain ⟨k, hk, rfl, HV, HW⟩ := hrel
          obtain ⟨q, rfl, hq⟩ := HV.out
          clear HV
          by_cases hlt : k < sn
          · have hlt' : (k : Int) < (sn : Int) := by omega
            have hkz : k < zs.length := by rw [HRD.out.2]; exact hlt
            obtain ⟨b, o, rfl, hb, hc⟩ : ∃ b o, sa = some ⟨b, o, none⟩ ∧ b < wr.heap.size ∧ wr.cell? ⟨b, o + k, none⟩ = some (.int .u8 zs[k]) := by
              rcases (HRD.out.1.below HW.out.2).1 with h0 | ⟨b, o, h1, h2, h3⟩
              · rw [h0] at hkz; simp at hkz
              · refine ⟨b, o, h1, h2, ?_⟩
                have := h3 k hkz
                rw [List.getD_eq_getElem?_getD, List.getElem?_eq_getElem hkz, Option.getD_some] at this
                exact this
            have hbz := HRD.out.1.2 _ (List.getElem_mem hkz)
            have HT := Lib.hid (upl_snoc zs k hkz)
            have hqs : q.size ≤ 800 := by
              have e : q.size = (upl (zs.take k)).length := by rw [hq]; simp [lb, txt, ByteArray.size]
              rw [e, upl_len, List.length_take]
              omega
            have HQ : Hid (q = lb (upl (zs.take k))) := hq
            clear hq
            generalize zs[k] = z at *
            have ha := and15 z hbz
            obtain ⟨u, hu⟩ : ∃ u : Nat, z / 16 = (u : Int) := ⟨(z / 16).toNat, by omega⟩
            obtain ⟨l, hl⟩ : ∃ l : Nat, z % 16 = (l : Int) := ⟨(z % 16).toNat, by omega⟩
            have hu16 : u < 16 := by omega
            have hl16 : l < 16 := by omega
            have du := fun W => dig_sl (u : Int) (by omega) (by omega) W
            have dl := fun W => dig_sl (l : Int) (by omega) (by omega) W
            have du2 := fun W => dig_sa (u : Int) (by omega) (by omega) W
            have dl2 := fun W => dig_sa (l : Int) (by omega) (by omega) W
            have z1 : (lb [ud (u : Int)]).size = 1 := rfl
            have z2 : (lb [ud (l : Int)]).size = 1 := rfl
            generalize hU : lb [ud (u : Int)] = U at *
            generalize hLL : lb [ud (l : Int)] = LL at *
            have HU : Hid (lb [ud (u : Int)] = U ∧ lb [ud (l : Int)] = LL ∧ z / 16 = (u : Int) ∧ z % 16 = (l : Int)) := ⟨hU, hLL, hu, hl⟩
            clear hU hLL
            rw [hl] at ha
            have wu := wrap_1 u hu16
            have wl := wrap_1 l hl16
            have cu1 : (u : Int) ≤ (u : Int) + 1 ∧ (u : Int) + 1 ≤ 16 := by omega
            have cl1 : (l : Int) ≤ (l : Int) + 1 ∧ (l : Int) + 1 ≤ 16 := by omega
            go_wp2_with fail
            go_quiet (fail)
            go_wp2_with fail
            have hdr : Below wr.heap.size wr (wr.drewN nq) := ⟨rfl, rfl, rfl, Nat.le_refl _, fun _ _ => rfl⟩
            refine ⟨⟨k + 1, by omega, by go_num, ⟨_, rfl, ?_⟩, HW.out.1.trans (hdr.mono HW.out.1.size), HW.out.2.trans (hdr.mono HW.out.2.size)⟩, by simp [intOf]; omega⟩
            rw [HT.out, HU.out.2.2.1, HU.out.2.2.2, lb_app, lb_app, ← HQ.out, HU.out.1, HU.out.2.1]
          · have hge : ¬ (k : Int) < (sn : Int) := by omega
            have hkn : k = sn := by omega
            subst hkn
            have hall : zs.take k = zs := List.take_of_length_le (by rw [HRD.out.2]; exact Nat.le_refl _)
            rw [hall] at hq
            have hbz := HRD.out.1.2
            have HQ : Hid (nums q = upl zs) := by show _ = _; rw [hq]; exact nums_lb _ (upl_by zs hbz)
            have hqs : q.size ≤ 800 := by rw [← nums_len, HQ.out, upl_len, HRD.out.2]; omega
            have KD : Hid (∀ W : World, Calls Tryz.prog 30 #[.int .i64 (k : Int)] W fun e w' => e = .returned (.string (xnw k)) ∧ Hid (Below W.heap.size W w')) := fun W => dec6 k (by omega) W
            have KD2 : Hid (∀ W : World, Calls Tryz.prog 30 #[.int .i64 ((k : Int) + 1)] W fun e w' => e = .returned (.string (xnw (k + 1))) ∧ Hid (Below W.heap.size W w')) := fun W => dec6 (k + 1) (by omega) W
            have KP : Hid (∀ (W : World) (r b : Nat), RdW W (some ⟨b, 0, none⟩) [(⟨#[92, 35]⟩, false), (xnw k, false), (q.extract 0 r, false), (q.extract r q.size, false)] → Calls Tryz.prog 26 #[.int .u16 (t : Int), .slice (some ⟨b, 0, none⟩) 4 4, .slice none 0 0] W (PrPost d W)) := fun W r b hr => by
              rw [← HRD.out.2] at hr
              exact gen_p1 t d zs [(q.extract 0 r, false), (q.extract r q.size, false)] 4 (by rw [cat_cut]; exact HQ.out) (by simp) (by omega) W b hck HSM.out.bd hzs (by rw [HRD.out.2]; omega) hbz hr
            have KP2 : Hid (∀ W : World, Calls Tryz.prog 26 #[.int .u16 (t : Int), .slice (some ⟨W.heap.size, 0, none⟩) 3 3, .slice none 0 0] (W.alloc (.cells #[.string ⟨#[92, 35]⟩, .bool false, .string (xnw (k + 1)), .bool false, .string q, .bool false] 59)) fun e w' => e = .returned (.tuple #[.agg #[.slice none 0 0, .slice none 0 0, .slice none 0 0, .slice none 0 0], .int .i64 7]) ∧ Hid (Below (W.alloc (.cells #[.string ⟨#[92, 35]⟩, .bool false, .string (xnw (k + 1)), .bool false, .string q, .bool false] 59)).heap.size (W.alloc (.cells #[.string ⟨#[92, 35]⟩, .bool false, .string (xnw (k + 1)), .bool false, .string q, .bool false] 59)) w')) := fun W => by
              have hr := rdw_new W [(⟨#[92, 35]⟩, false), (xnw (zs.length + 1), false), (q, false)]
              have := gen_p2 t d zs [(q, false)] 3 (by rw [cat_one]; exact HQ.out) (by simp) (by omega) _ W.heap.size hck (by rw [HRD.out.2]; omega) hbz hr
              rw [HRD.out.2] at this
              exact this
            have HB4 : Hid (Below wa.heap.size wa wr) := HW.out.1
            clear hq HQ HRD hbz hall HW HB3 S3
            generalize xnw k = dk at *
            generalize xnw (k + 1) = dk1 at *
            have hpn : (1 : Int) ≤ (q.size : Int) + 1 ∧ (q.size : Int) + 1 ≤ 4611686018427387904 := by omega
            go_wp2_with fail
            refine (pick6 cut ((q.size : Int) + 1) wr hpn).mono ?_
            rintro e w4 ⟨⟨r, hr, rfl⟩, rfl⟩
            have hr1 : (r : Int) ≤ (q.size : Int) := by omega
            have hr2 : r ≤ q.size := by omega
            have KPr := Lib.hid (fun W b => KP.out W r b)
            have hwr : wa.heap.size ≤ w4.heap.size := HB4.out.size
            have HD0 : Hid (Below wa.heap.size wa w4.drew ∧ DBlk (w4.drew.alloc (.cells #[.slice none 0 0, .slice none 0 0, .slice none 0 0, .slice none 0 0] 29)) w4.heap.size nilDA ∧ Below wa.heap.size wa (w4.drew.alloc (.cells #[.slice none 0 0, .slice none 0 0, .slice none 0 0, .slice none 0 0] 29))) := ⟨HB4.out.drew, heap_alloc_new _ _, HB4.out.drew.alloc HB4.out.size _⟩
            clear KP hr
            go_wp2_with fail
            go_cut [13, 14] from 73 to 92 (fun s13 s14 wx => ∃ (D : Nat) (x6 : DA), s13 = .pointer (some ⟨D, 0, none⟩) ∧ s14 = .int .i64 0 ∧ Hid (GX wa wx D x6 d))
            case first =>
              go_region_held3 (fun _ => True) (trivial) (first
                | (go_at_call 30; refine (KD.out _).mono ?_; rintro e w5 ⟨rfl, H5⟩; have HE5 : Hid (Below wa.heap.size wa w5) := (by first | exact HD0.out.1.trans (H5.out.mono HD0.out.1.size) | exact HD0.out.2.2.trans (H5.out.mono HD0.out.2.2.size)); (first | (have hD5 : Hid (DBlk w5 w4.heap.size nilDA) := (H5.out.block _ HD0.out.2.1.lt).trans HD0.out.2.1) | (have hD5 : Hid True := trivial)))
                | (go_at_call 26; refine (KPr.out _ _ (by first | exact rdw_new _ _ | exact (rdw_new _ _).below (new_below _ _) | exact rdw_new1 _ _ _)).mono ?_; rintro e w6 ⟨x6, rfl, H6⟩; have HE6 : Hid (Below wa.heap.size wa w6) := (by first | exact (HE5.out.alloc HE5.out.size _).trans (H6.out.2.mono (HE5.out.alloc HE5.out.size _).size) | exact ((HE5.out.alloc HE5.out.size _).alloc (HE5.out.alloc HE5.out.size _).size _).trans (H6.out.2.mono ((HE5.out.alloc HE5.out.size _).alloc (HE5.out.alloc HE5.out.size _).size _).size)); first | (have hN : NF wa w6 _ w4.heap.size := nilfacts (dblk_up hD5.out _) H6.out.2 hwr; obtain ⟨hD6, q0, q1, q2, q3, p0, p1, p2, p3⟩ := hN) | (have hN : NF wa w6 _ w5.heap.size := nilfacts (dblk_up (dblk_new0 w5) _) H6.out.2 HE5.out.size; obtain ⟨hD6, q0, q1, q2, q3, p0, p1, p2, p3⟩ := hN) | (have hN : NF wa w6 _ (w5.heap.size + 1) := nilfacts (dblk_new1 w5 _) H6.out.2 (Nat.le_succ_of_le HE5.out.size); obtain ⟨hD6, q0, q1, q2, q3, p0, p1, p2, p3⟩ := hN) | skip))
              all_goals
                go_wp2_with fail
                go_meet
                first
                  | exact ⟨_, x6, rfl, rfl, gx_new H6.out.1 HE6.out⟩
                  | exact ⟨_, x6, rfl, rfl, gx_set H6.out.1 HE6.out hD6.out.1 hD6.out.2.1 hD6.out.2.2⟩
            case rest =>
              obtain ⟨D, ⟨⟨b1, m1, j1⟩, ⟨b2, m2, j2⟩, ⟨b3, m3, j3⟩, ⟨b4, m4, j4⟩⟩, rfl, rfl, HG⟩ := hcut
              clear KD KPr HD0 HB4
              go_wp2_with fail
              refine (KD2.out _).mono ?_
              rintro e w7 ⟨rfl, H7⟩
              have HW7 : Hid (Below wa.heap.size wa w7 ∧ DBlk w7 D ⟨⟨b1, m1, j1⟩, ⟨b2, m2, j2⟩, ⟨b3, m3, j3⟩, ⟨b4, m4, j4⟩⟩ ∧ DRd w7 ⟨⟨b1, m1, j1⟩, ⟨b2, m2, j2⟩, ⟨b3, m3, j3⟩, ⟨b4, m4, j4⟩⟩ d) := ⟨HG.out.2.2.1.trans (H7.out.mono HG.out.2.2.1.size), (H7.out.block _ HG.out.1.lt).trans HG.out.1, HG.out.2.1.below H7.out⟩
              have KQ := Lib.hid (KP2.out w7)
              have hnb : Below w7.heap.size w7 (w7.alloc (.cells #[.string ⟨#[92, 35]⟩, .bool false, .string dk1, .bool false, .string q, .bool false] 59)) := new_below _ _
              have HNB7 := Lib.hid hnb
              clear KD2 KP2 H7 hnb
              go_wp2_with fail
              refine KQ.out.mono ?_
              rintro e w8 ⟨rfl, H8⟩
              have hb78 : Below w7.heap.size w7 w8 := HNB7.out.trans (H8.out.mono HNB7.out.size)
              have HW8 : Hid (Below wa.heap.size wa w8 ∧ DBlk w8 D ⟨⟨b1, m1, j1⟩, ⟨b2, m2, j2⟩, ⟨b3, m3, j3⟩, ⟨b4, m4, j4⟩⟩ ∧ DRd w8 ⟨⟨b1, m1, j1⟩, ⟨b2, m2, j2⟩, ⟨b3, m3, j3⟩, ⟨b4, m4, j4⟩⟩ d) := ⟨HW7.out.1.trans (hb78.mono HW7.out.1.size), (hb78.block _ HW7.out.2.1.lt).trans HW7.out.2.1, HW7.out.2.2.below hb78⟩
              have hb8 : Below w8.heap.size w8 (w8.alloc (.cells #[.slice none 0 0, .slice none 0 0, .slice none 0 0, .slice none 0 0] 29)) := new_below _ _
              have HB9 : Hid (Below wa.heap.size wa (w8.alloc (.cells #[.slice none 0 0, .slice none 0 0, .slice none 0 0, .slice none 0 0] 29))) := HW8.out.1.trans (hb8.mono HW8.out.1.size)
              have S9 := Lib.hid (HSC.out _ HB9.out)
              have KS : Hid (Calls Tryz.prog 21 #[.agg #[.slice b1 m1 j1, .slice b2 m2 j2, .slice b3 m3 j3, .slice b4 m4 j4], .agg #[.slice a1 n1 k1, .slice a2 n2 k2, .slice a3 n3 k3, .slice a4 n4 k4]] (w8.alloc (.cells #[.slice none 0 0, .slice none 0 0, .slice none 0 0, .slice none 0 0] 29)) fun e w' => e = .returned (.bool true) ∧ Hid (Below (w8.alloc (.cells #[.slice none 0 0, .slice none 0 0, .slice none 0 0, .slice none 0 0] 29)).heap.size (w8.alloc (.cells #[.slice none 0 0, .slice none 0 0, .slice none 0 0, .slice none 0 0] 29)) w')) := samedata_yes ⟨⟨b1, m1, j1⟩, ⟨b2, m2, j2⟩, ⟨b3, m3, j3⟩, ⟨b4, m4, j4⟩⟩ ⟨⟨a1, n1, k1⟩, ⟨a2, n2, k2⟩, ⟨a3, n3, k3⟩, ⟨a4, n4, k4⟩⟩ d (w8.alloc (.cells #[.slice none 0 0, .slice none 0 0, .slice none 0 0, .slice none 0 0] 29)) (HW8.out.2.2.below hb8) S9.out.2.1
              have S8 := Lib.hid (HSC.out _ HW8.out.1)
              obtain ⟨c0, c1, c2, c3⟩ := S8.out.1
              have x0 := HW8.out.2.1.box.1
              have x1 := HW8.out.2.1.box.2.1
              have x2 := HW8.out.2.1.box.2.2.1
              have x3 := HW8.out.2.1.box.2.2.2.1
              simp only at x0 x1 x2 x3
              have hD8 : D < w8.heap.size := HW8.out.2.1.lt
              have hsz8 : w.heap.size < w8.heap.size := Nat.lt_of_lt_of_le hwsz HW8.out.1.size
              clear KQ H8 HW7 HNB7 HG hb78 hb8 S8 HW8
              go_wp2_with fail
              refine KS.out.mono ?_
              rintro e w9 ⟨rfl, H9⟩
              go_wp2_with fail
              go_ret
              exact ⟨rfl, S9.out.2.2.2.2.trans (H9.out.mono S9.out.2.2.2.2.size)⟩
    · have hck' : (checkF t d != 0) = true := by simpa using hck
      obtain ⟨rfl, rfl, rfl⟩ : sa = none ∧ sn = 0 ∧ sc = 0 := by have := g5 hck; injection this with e1 e2 e3; exact ⟨e1, e2, e3⟩
      generalize checkF t d = C at *
      go_wp2_with fail
      go_ret
      exact ⟨rfl, S3.out.2.2.2.2⟩
end Go.Proofs.YtfkfjodfjgjbkaaGreatDoor
