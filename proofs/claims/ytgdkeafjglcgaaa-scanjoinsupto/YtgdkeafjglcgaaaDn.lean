/- ScanJoins: its walk. -/
import Derived.Test.YtgdkeafjglcgaaaSv
import Derived.Test.YtgdkeafjglcgaaaTa
import Derived.Test.YtgdkeafjglcgaaaTc
import Derived.Test.YtgdkeafjglcgaaaSz
import Derived.Test.YtgdkeafjglcgaaaSw
namespace Go.Proofs.Ytgdkeafjglcgaaa
open Go.ChangeShapes Go.WideShapes Go.ChangeAt Go.RowKit
set_option linter.unusedVariables false
set_option linter.unusedSimpArgs false

set_option maxRecDepth 100000 in
set_option maxHeartbeats 4000000 in
theorem joinsL (xa : Option Addr) (n xc : Nat) (es : List En) (w : World) (h : LE w ⟨xa, n, xc⟩ es) (hf : Few es)
    (K8 : ∀ W, LE W ⟨xa, n, xc⟩ es → Calls Try.prog 8 #[.slice xa n xc] W (JnP W es)) :
    Calls Try.prog 3 #[.slice xa n xc] w fun e w' => e = .returned (.bool true) ∧ Below w.heap.size w w' := by
  have HR : Hid (LE w ⟨xa, n, xc⟩ es) := h
  have HFW : Hid (Few es) := hf
  have HK8 := Lib.hid K8
  have HF : Hid (∀ e ∈ es, e.ws.length ≤ 1048576 ∧ ∀ v ∈ e.ws, v.1.size ≤ 1048576) := hf.2
  have hl : es.length = n := h.1.symm
  have hn : n ≤ 1048576 := by have := hf.1; omega
  have hcap : n ≤ xc := (by have := h.1; have := h.2.1; simp only at *; omega)
  have hcap2 : xc ≤ 9223372036854775807 := h.2.2.1
  clear h hf K8
  go_enter Try.func3, Try.ntmps3
  go_wp2_with fail
  go_loopw [3, 4] (fun u y wr => ∃ k T : Nat, k ≤ n ∧ T ≤ k * 1099511627776 ∧ u = .int .i64 (T : Int) ∧ y = .int .i64 (k : Int) ∧ wr = w) (fun _ y _ => n - (intOf y).toNat)
  case atStart => exact ⟨0, 0, Nat.zero_le _, by omega, rfl, rfl, rfl⟩
  case round =>
    obtain ⟨k, T0, hk, hT0, rfl, rfl, hwr⟩ := hrel
    subst hwr
    by_cases hlt : k < n
    · have hlt' : (k : Int) < (n : Int) := by omega
      have hkl : k < es.length := by omega
      obtain ⟨b, o, e0, hbb, y, c0, c1, c2, hy⟩ := HR.out.rd.at k hkl
      simp only at e0
      subst e0
      obtain ⟨hm0, hmc0, hmc2, hrd⟩ := hy
      have hfk := HF.out es[k] (List.getElem_mem hkl)
      have HRW : Hid (RdW wr y.a es[k].ws) := hrd
      have HFV : Hid (∀ v ∈ es[k].ws, v.1.size ≤ 1048576) := hfk.2
      have hm : es[k].ws.length = y.n := hm0.symm
      have hmc : y.n ≤ y.c := by omega
      have hmb : y.n ≤ 1048576 := by omega
      obtain ⟨ya, m, yc⟩ := y
      simp only at *
      generalize es[k].ws = ws at *
      clear hm0 hmc0 hrd hfk
      go_wp2_with fail
      go_loopw [3, 5] (fun u y wq => ∃ j T : Nat, j ≤ m ∧ T ≤ k * 1099511627776 + j * 1048576 ∧ u = .int .i64 (T : Int) ∧ y = .int .i64 (j : Int) ∧ wq = wr) (fun _ y _ => m - (intOf y).toNat)
      case atStart => exact ⟨0, T0, Nat.zero_le _, Nat.le_trans hT0 (Nat.le_add_right _ _), rfl, rfl, rfl⟩
      case round =>
        obtain ⟨j, T, hj, hT, rfl, rfl, hwq⟩ := hrel
        subst hwq
        have hTb : T ≤ 1152923703630102528 := by omega
        by_cases hjl : j < m
        · have hjl' : (j : Int) < (m : Int) := by omega
          have hjw : j < ws.length := by omega
          obtain ⟨b2, o2, e2, hb2, d0, d1⟩ := HRW.out.at j hjw
          subst e2
          have hvz := HFV.out ws[j] (List.getElem_mem hjw)
          generalize ws[j] = v at *
          have hT2 : T + v.1.size ≤ k * 1099511627776 + (j + 1) * 1048576 := by omega
          go_wp2_with fail
          go_round
          case rel => exact ⟨j + 1, T + v.1.size, by omega, hT2, by go_num, by go_num, trivial⟩
          case measure => simp [intOf]; omega
        · have hge : ¬ (j : Int) < (m : Int) := by omega
          have hT2 : T ≤ (k + 1) * 1099511627776 := by omega
          by_cases h66 : 70 < m
          · have h66' : (70 : Int) < (m : Int) := by omega
            go_wp2_with fail
            go_ret
            exact ⟨rfl, Below.refl _ _⟩
          · have h66' : ¬ (70 : Int) < (m : Int) := by omega
            go_wp2_with fail
            go_round
            case rel => exact ⟨k + 1, T, by omega, hT2, rfl, by go_num, trivial⟩
            case measure => simp [intOf]; omega
    · have hge : ¬ (k : Int) < (n : Int) := by omega
      by_cases h40 : 40 < n
      · have h40' : (40 : Int) < (n : Int) := by omega
        go_wp2_with fail
        go_ret
        exact ⟨rfl, Below.refl _ _⟩
      · have h40' : ¬ (40 : Int) < (n : Int) := by omega
        by_cases hT3 : 3000 < T0
        · have hT3' : (3000 : Int) < (T0 : Int) := by omega
          go_wp2_with fail
          go_ret
          exact ⟨rfl, Below.refl _ _⟩
        · have hT3' : ¬ (3000 : Int) < (T0 : Int) := by omega
          have K6 : Hid (∀ W, LE W ⟨xa, n, xc⟩ es → Calls Try.prog 6 #[.slice xa n xc] W fun e w' => ∃ v, e = .returned v ∧ Hid (OwE W.heap.size w' v es ∧ Below W.heap.size W w')) := fun W hW => copy6 ⟨xa, n, xc⟩ es W hW (by omega) (fun e he => (HFW.out.2 e he).1)
          go_wp2_with fail
          refine (K6.out _ HR.out).mono ?_
          rintro e w1 ⟨v1, rfl, H1⟩
          obtain ⟨⟨a1, n1, c1⟩, rfl, hx1⟩ := H1.out.1.le
          have HX1 : Hid (LE w1 ⟨a1, n1, c1⟩ es) := hx1
          have HB1 : Hid (Below wr.heap.size wr w1) := H1.out.2
          have K7 := Lib.hid (join7 ⟨a1, n1, c1⟩ es w1 hx1 (fun e he v hv => by have := (HFW.out.2 e he).2 v hv; omega))
          clear H1 hx1
          simp only at K7
          go_wp2_with fail
          refine K7.out.mono ?_
          rintro e w2 ⟨t1, z1, rfl, H2⟩
          have HB2 : Hid (Below w1.heap.size w1 w2) := H2.out.2.2
          have HB02 : Hid (Below wr.heap.size wr w2) := HB1.out.trans (HB2.out.mono HB1.out.size)
          have K8 := Lib.hid (HK8.out w2 (HR.out.below HB02.out))
          clear K7
          go_wp2_with fail
          refine K8.out.mono ?_
          rintro e w3 ⟨t2, z2, rfl, H3⟩
          have HB03 : Hid (Below wr.heap.size wr w3) := HB02.out.trans (H3.out.2.2.mono HB02.out.size)
          have HB13 : Hid (Below w1.heap.size w1 w3) := HB2.out.trans (H3.out.2.2.mono HB2.out.size)
          obtain rfl : z2 = z1 := H3.out.2.1.trans H2.out.2.1.symm
          obtain rfl : t2 = t1 := ByteArray.ext (Array.ext' (H3.out.1.trans H2.out.1.symm))
          clear H2 H3 K8
          go_wp2_with fail
          refine (K6.out _ (HR.out.below HB03.out)).mono ?_
          rintro e w4 ⟨v4, rfl, H4⟩
          obtain ⟨⟨a4, n4, c4⟩, rfl, hx4⟩ := H4.out.1.le
          have HB04 : Hid (Below wr.heap.size wr w4) := HB03.out.trans (H4.out.2.mono HB03.out.size)
          have K9 := Lib.hid (same9 ⟨a1, n1, c1⟩ ⟨a4, n4, c4⟩ es w4 (HX1.out.below (HB13.out.trans (H4.out.2.mono HB13.out.size))) hx4)
          clear H4 hx4
          simp only at K9
          go_wp2_with fail
          refine K9.out.mono ?_
          rintro e w5 ⟨rfl, m5, rfl⟩
          go_wp2_with fail
          go_ret
          exact ⟨rfl, blw_dn HB04.out _⟩
end Go.Proofs.Ytgdkeafjglcgaaa
