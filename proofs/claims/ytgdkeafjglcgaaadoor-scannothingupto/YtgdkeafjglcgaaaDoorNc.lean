/- small: what it says where it says yes: how many letters there are. -/
import Derived.Test.YtgdkeafjglcgaaaDoorTa
import Derived.Test.YtgdkeafjglcgaaaDoorNb
namespace Go.Proofs.YtgdkeafjglcgaaaDoor
open Go.ChangeShapes Go.WideShapes Go.ChangeAt Go.RowKit
set_option linter.unusedVariables false
set_option linter.unusedSimpArgs false

def SmQ (es : List En) (w : World) (e : Ending) (w' : World) : Prop := ∃ b : Bool, e = .returned (.bool b) ∧ w' = w ∧ (b = true → es.length ≤ 30 ∧ lsz es ≤ 2000)
theorem smq_mk {es : List En} {w : World} (b : Bool) (h : b = true → es.length ≤ 30 ∧ lsz es ≤ 2000) : SmQ es w (.returned (.bool b)) w := ⟨b, rfl, rfl, h⟩
def wls (ws : List Wd) : Nat := (ws.map fun w => w.1.size).sum
theorem lsz_snoc {es : List En} {k : Nat} (h : k < es.length) : lsz (es.take (k + 1)) = lsz (es.take k) + wls es[k].ws := by
  rw [List.take_succ_eq_append_getElem h]; simp only [lsz, wls, List.map_append, List.sum_append, List.map_cons, List.map_nil, List.sum_cons, List.sum_nil, Nat.add_zero]
theorem wls_snoc {ws : List Wd} {k : Nat} (h : k < ws.length) : wls (ws.take (k + 1)) = wls (ws.take k) + ws[k].1.size := by
  rw [List.take_succ_eq_append_getElem h]; simp only [wls, List.map_append, List.sum_append, List.map_cons, List.map_nil, List.sum_cons, List.sum_nil, Nat.add_zero]
set_option maxRecDepth 100000 in
set_option maxHeartbeats 2000000 in
theorem small5q (x : Sl) (es : List En) (w : World) (h : LE w x es) (hf : Few es) : Calls Tryd.prog 5 #[.slice x.a x.n x.c] w (SmQ es w) := by
  have HR : Hid (LE w x es) := h
  have HF : Hid (∀ e ∈ es, e.ws.length ≤ 1048576 ∧ ∀ v ∈ e.ws, v.1.size ≤ 1048576) := hf.2
  have hn : x.n ≤ 1048576 := by have := h.1; have := hf.1; omega
  have hl := h.1.symm
  have hcap : x.n ≤ x.c := (by have := h.1; have := h.2.1; omega)
  have hcap2 := h.2.2.1
  clear h hf
  obtain ⟨sa, n, sc⟩ := x
  simp only at *
  go_enter Tryd.func5, Tryd.ntmps5
  go_wp2_with fail
  go_loopw [3, 4] (fun u y wr => ∃ k T : Nat, k ≤ n ∧ T ≤ k * 1099511627776 ∧ Hid (T = lsz (es.take k)) ∧ u = .int .i64 (T : Int) ∧ y = .int .i64 (k : Int) ∧ wr = w) (fun _ y _ => n - (intOf y).toNat)
  case atStart => exact ⟨0, 0, Nat.zero_le _, by omega, rfl, rfl, rfl, rfl⟩
  case round =>
    obtain ⟨k, T0, hk, hT0, HT0, rfl, rfl, hwr⟩ := hrel
    subst hwr
    by_cases hlt : k < n
    · have hlt' : (k : Int) < (n : Int) := by omega
      have hkl : k < es.length := by omega
      obtain ⟨b, o, e0, hbb, y, c0, c1, c2, hy⟩ := HR.out.rd.at k hkl
      simp only at e0
      subst e0
      obtain ⟨hm0, hmc0, hmc2, hrd⟩ := hy
      have hfk := HF.out es[k] (List.getElem_mem hkl)
      have HRW : Hid (RdW wr y.a es[k].ws) := hrd
      have HFV : Hid (∀ v ∈ es[k].ws, v.1.size ≤ 1048576) := hfk.2
      have hm : es[k].ws.length = y.n := hm0.symm
      have hmc : y.n ≤ y.c := by omega
      have hmb : y.n ≤ 1048576 := by omega
      obtain ⟨ya, m, yc⟩ := y
      simp only at *
      have HSN : Hid (∀ T, T = T0 + wls es[k].ws → T = lsz (es.take (k + 1))) := fun T hT => by rw [lsz_snoc hkl, ← HT0.out]; exact hT
      generalize es[k].ws = ws at *
      clear hm0 hmc0 hrd hfk
      go_wp2_with fail
      go_loopw [3, 5] (fun u y wq => ∃ j T : Nat, j ≤ m ∧ T ≤ k * 1099511627776 + j * 1048576 ∧ Hid (T = T0 + wls (ws.take j)) ∧ u = .int .i64 (T : Int) ∧ y = .int .i64 (j : Int) ∧ wq = wr) (fun _ y _ => m - (intOf y).toNat)
      case atStart => exact ⟨0, T0, Nat.zero_le _, Nat.le_trans hT0 (Nat.le_add_right _ _), rfl, rfl, rfl, rfl⟩
      case round =>
        obtain ⟨j, T, hj, hT, HT, rfl, rfl, hwq⟩ := hrel
        subst hwq
        have hTb : T ≤ 1152923703630102528 := by omega
        by_cases hjl : j < m
        · have hjl' : (j : Int) < (m : Int) := by omega
          have hjw : j < ws.length := by omega
          obtain ⟨b2, o2, e2, hb2, d0, d1⟩ := HRW.out.at j hjw
          subst e2
          have hvz := HFV.out ws[j] (List.getElem_mem hjw)
          have HT2 : Hid (T + ws[j].1.size = T0 + wls (ws.take (j + 1))) := by
            show _ = _
            rw [wls_snoc hjw, HT.out]; omega
          generalize ws[j] = v at *
          have hT2 : T + v.1.size ≤ k * 1099511627776 + (j + 1) * 1048576 := by omega
          go_wp2_with fail
          go_round
          case rel => exact ⟨j + 1, T + v.1.size, by omega, hT2, HT2, by go_num, by go_num, trivial⟩
          case measure => simp [intOf]; omega
        · have hge : ¬ (j : Int) < (m : Int) := by omega
          have hT2 : T ≤ (k + 1) * 1099511627776 := by omega
          have HT3 : Hid (T = lsz (es.take (k + 1))) := HSN.out T (by
            have hjm : ws.take j = ws := List.take_of_length_le (by omega)
            have := HT.out
            rw [hjm] at this; exact this)
          by_cases h66 : 66 < m
          · have h66' : (66 : Int) < (m : Int) := by omega
            go_wp2_with fail
            go_ret
            exact smq_mk false (fun e => by cases e)
          · have h66' : ¬ (66 : Int) < (m : Int) := by omega
            go_wp2_with fail
            go_round
            case rel => exact ⟨k + 1, T, by omega, hT2, HT3, rfl, by go_num, trivial⟩
            case measure => simp [intOf]; omega
    · have hge : ¬ (k : Int) < (n : Int) := by omega
      by_cases h30 : n ≤ 30
      · have h30' : (n : Int) ≤ 30 := by omega
        go_wp2_with fail
        go_ret
        refine smq_mk _ (fun hb => ⟨by omega, ?_⟩)
        have hek : es.take k = es := List.take_of_length_le (by omega)
        have := HT0.out
        rw [hek] at this
        simp at hb
        omega
      · have h30' : ¬ (n : Int) ≤ 30 := by omega
        go_wp2_with fail
        go_ret
        exact smq_mk false (fun e => by cases e)
end Go.Proofs.YtgdkeafjglcgaaaDoor
