/- How long an entry's text is, and the text of entries. -/
import Derived.Test.YtgdkeafjglcgaaaDoorSq
namespace Go.Proofs.YtgdkeafjglcgaaaDoor
open Go.ChangeShapes Go.WideShapes Go.ChangeAt Go.RowKit
set_option linter.unusedVariables false
set_option linter.unusedSimpArgs false


def wsS (ws : List Wd) : Nat := (ws.map wsz).sum
theorem wsS_snoc {ws : List Wd} {j : Nat} (h : j < ws.length) : wsS (ws.take (j + 1)) = wsS (ws.take j) + wsz ws[j] := by
  rw [List.take_succ_eq_append_getElem h]; simp only [wsS, List.map_append, List.sum_append, List.map_cons, List.map_nil, List.sum_cons, List.sum_nil, Nat.add_zero]
theorem wsS_le {ws : List Wd} (h : ∀ v ∈ ws, wsz v ≤ 65536) (j : Nat) : wsS (ws.take j) ≤ ws.length * 65536 := by
  induction ws generalizing j with
  | nil => simp [wsS]
  | cons v ws ih =>
    cases j with
    | zero => simp [wsS]
    | succ j =>
      have h1 := ih (fun x hx => h x (by simp [hx])) j
      have h2 := h v (by simp)
      simp only [wsS, List.take_succ_cons, List.map_cons, List.sum_cons, List.length_cons] at h1 ⊢
      omega
theorem wsz_sz (v : Wd) : v.1.size ≤ wsz v := by unfold wsz; split <;> omega
set_option maxRecDepth 100000 in
set_option maxHeartbeats 2000000 in
theorem esize42_true (xa : Option Addr) (m xc : Nat) (ln : Int) (ws : List Wd) (w : World) (h : WRd w ⟨xa, m, xc⟩ ws) (h64 : ws.length ≤ 1048576) (hsz : ∀ v ∈ ws, wsz v ≤ 65536) :
    Calls Tryd.prog 34 #[.agg #[.int .i64 ln, .bool true, .slice xa m xc]] w fun e w' => e = .returned (.int .i64 (esz ⟨ln, true, ws⟩)) ∧ Hid (Below w.heap.size w w') := by
  obtain ⟨hm0, hmc0, hmc2, hrd⟩ := h
  simp only at hm0 hmc0 hmc2 hrd
  have hm : ws.length = m := hm0.symm
  have hmc : m ≤ xc := by omega
  have hmb : m ≤ 1048576 := by omega
  clear hm0 hmc0 h64
  have HSZ : Hid (∀ v ∈ ws, wsz v ≤ 65536) := hsz
  have HB0 : Hid (Below w.heap.size w (w.alloc (.cells #[.int .i64 ln, .bool true, .slice xa m xc] 34))) := alp_below _ _
  have HRW : Hid (RdW (w.alloc (.cells #[.int .i64 ln, .bool true, .slice xa m xc] 34)) xa ws) := hrd.below HB0.out
  clear hrd hsz
  have HES : Hid (esz ⟨ln, true, ws⟩ = m + 1 + wsS ws) := (by show _ = _; simp only [esz, wsS, hm]; rfl)
  have HSL : Hid (∀ j, wsS (ws.take j) ≤ 68719476736) := fun j => by
    have := wsS_le HSZ.out j; omega
  generalize esz ⟨ln, true, ws⟩ = E at *
  go_enter Tryd.func34, Tryd.ntmps34
  go_wp2_with fail
  generalize w.alloc (.cells #[.int .i64 ln, .bool true, .slice xa m xc] 34) = wy at *
  go_loopw [3, 16] (fun u y wr => ∃ j T : Nat, j ≤ m ∧ u = .int .i64 (T : Int) ∧ y = .int .i64 (j : Int) ∧ Hid (T = m + 1 + wsS (ws.take j) ∧ Below wy.heap.size wy wr)) (fun _ y _ => m - (intOf y).toNat)
  case atStart => exact ⟨0, m + 1, Nat.zero_le _, by first | rfl | go_num | simp, rfl, by simp [wsS], Below.refl _ _⟩
  case round =>
    obtain ⟨j, T, hj, rfl, rfl, HV⟩ := hrel
    have hT : T ≤ 68719476736 + 1048577 := by have := HV.out.1; have := HSL.out j; omega
    by_cases hjl : j < m
    · have hjl' : (j : Int) < (m : Int) := by omega
      have hjw : j < ws.length := by omega
      obtain ⟨b2, o2, e2, hb2, d0, d1⟩ := (HRW.out.below HV.out.2).at j hjw
      subst e2
      have hvz := HSZ.out ws[j] (List.getElem_mem hjw)
      have HST : Hid (T + wsz ws[j] = m + 1 + wsS (ws.take (j + 1))) := (by show _ = _; rw [wsS_snoc hjw, HV.out.1]; omega)
      generalize ws[j] = v at *
      have hvs := wsz_sz v
      have K := Lib.hid (fun W => wsize37 v W (by omega))
      have HB2 : Hid (Below wr.heap.size wr (wr.alloc (.cells #[.string v.1, .bool v.2] 44))) := alp_below _ _
      generalize wsz v = Z at *
      go_wp2_with fail
      refine (K.out _).mono ?_
      rintro e w2 ⟨rfl, H2⟩
      have HB3 : Hid (Below wy.heap.size wy w2) := HV.out.2.trans ((HB2.out.trans (H2.out.mono HB2.out.size)).mono HV.out.2.size)
      go_wp2_with fail
      go_round
      case rel => exact ⟨j + 1, T + Z, by omega, by go_num, by go_num, HST.out, HB3.out⟩
      case measure => simp [intOf]; omega
    · have hge : ¬ (j : Int) < (m : Int) := by omega
      have HTT : Hid (T = E) := (by show _ = _; have := HV.out.1; rw [List.take_of_length_le (by omega)] at this; rw [HES.out]; exact this)
      go_wp2_with fail
      go_ret
      exact ⟨by rw [HTT.out]; rfl, HB0.out.trans (HV.out.2.mono HB0.out.size)⟩
set_option maxRecDepth 100000 in
set_option maxHeartbeats 2000000 in
theorem esize42_false (xa : Option Addr) (m xc : Nat) (ln : Int) (ws : List Wd) (w : World) (h : WRd w ⟨xa, m, xc⟩ ws) (h64 : ws.length ≤ 1048576) (hsz : ∀ v ∈ ws, wsz v ≤ 65536) :
    Calls Tryd.prog 34 #[.agg #[.int .i64 ln, .bool false, .slice xa m xc]] w fun e w' => e = .returned (.int .i64 (esz ⟨ln, false, ws⟩)) ∧ Hid (Below w.heap.size w w') := by
  obtain ⟨hm0, hmc0, hmc2, hrd⟩ := h
  simp only at hm0 hmc0 hmc2 hrd
  have hm : ws.length = m := hm0.symm
  have hmc : m ≤ xc := by omega
  have hmb : m ≤ 1048576 := by omega
  clear hm0 hmc0 h64
  have HSZ : Hid (∀ v ∈ ws, wsz v ≤ 65536) := hsz
  have HB0 : Hid (Below w.heap.size w (w.alloc (.cells #[.int .i64 ln, .bool false, .slice xa m xc] 34))) := alp_below _ _
  have HRW : Hid (RdW (w.alloc (.cells #[.int .i64 ln, .bool false, .slice xa m xc] 34)) xa ws) := hrd.below HB0.out
  clear hrd hsz
  have HES : Hid (esz ⟨ln, false, ws⟩ = m + 0 + wsS ws) := (by show _ = _; simp only [esz, wsS, hm]; rfl)
  have HSL : Hid (∀ j, wsS (ws.take j) ≤ 68719476736) := fun j => by
    have := wsS_le HSZ.out j; omega
  generalize esz ⟨ln, false, ws⟩ = E at *
  go_enter Tryd.func34, Tryd.ntmps34
  go_wp2_with fail
  generalize w.alloc (.cells #[.int .i64 ln, .bool false, .slice xa m xc] 34) = wy at *
  go_loopw [3, 16] (fun u y wr => ∃ j T : Nat, j ≤ m ∧ u = .int .i64 (T : Int) ∧ y = .int .i64 (j : Int) ∧ Hid (T = m + 0 + wsS (ws.take j) ∧ Below wy.heap.size wy wr)) (fun _ y _ => m - (intOf y).toNat)
  case atStart => exact ⟨0, m + 0, Nat.zero_le _, by first | rfl | go_num | simp, rfl, by simp [wsS], Below.refl _ _⟩
  case round =>
    obtain ⟨j, T, hj, rfl, rfl, HV⟩ := hrel
    have hT : T ≤ 68719476736 + 1048577 := by have := HV.out.1; have := HSL.out j; omega
    by_cases hjl : j < m
    · have hjl' : (j : Int) < (m : Int) := by omega
      have hjw : j < ws.length := by omega
      obtain ⟨b2, o2, e2, hb2, d0, d1⟩ := (HRW.out.below HV.out.2).at j hjw
      subst e2
      have hvz := HSZ.out ws[j] (List.getElem_mem hjw)
      have HST : Hid (T + wsz ws[j] = m + 0 + wsS (ws.take (j + 1))) := (by show _ = _; rw [wsS_snoc hjw, HV.out.1]; omega)
      generalize ws[j] = v at *
      have hvs := wsz_sz v
      have K := Lib.hid (fun W => wsize37 v W (by omega))
      have HB2 : Hid (Below wr.heap.size wr (wr.alloc (.cells #[.string v.1, .bool v.2] 44))) := alp_below _ _
      generalize wsz v = Z at *
      go_wp2_with fail
      refine (K.out _).mono ?_
      rintro e w2 ⟨rfl, H2⟩
      have HB3 : Hid (Below wy.heap.size wy w2) := HV.out.2.trans ((HB2.out.trans (H2.out.mono HB2.out.size)).mono HV.out.2.size)
      go_wp2_with fail
      go_round
      case rel => exact ⟨j + 1, T + Z, by omega, by go_num, by go_num, HST.out, HB3.out⟩
      case measure => simp [intOf]; omega
    · have hge : ¬ (j : Int) < (m : Int) := by omega
      have HTT : Hid (T = E) := (by show _ = _; have := HV.out.1; rw [List.take_of_length_le (by omega)] at this; rw [HES.out]; exact this)
      go_wp2_with fail
      go_ret
      exact ⟨by rw [HTT.out]; rfl, HB0.out.trans (HV.out.2.mono HB0.out.size)⟩
theorem esize42 (x : Sl) (en : En) (w : World) (h : WRd w x en.ws) (h64 : en.ws.length ≤ 1048576) (hsz : ∀ v ∈ en.ws, wsz v ≤ 65536) :
    Calls Tryd.prog 34 #[.agg #[.int .i64 en.line, .bool en.blank, .slice x.a x.n x.c]] w fun e w' => e = .returned (.int .i64 (esz en)) ∧ Hid (Below w.heap.size w w') := by
  obtain ⟨ln, bl, ws⟩ := en
  obtain ⟨xa, m, xc⟩ := x
  cases bl
  · exact esize42_false xa m xc ln ws w h h64 hsz
  · exact esize42_true xa m xc ln ws w h h64 hsz
theorem tsz_snoc {es : List En} {k : Nat} (h : k < es.length) : tsz (es.take (k + 1)) = tsz (es.take k) + esz es[k] := by
  rw [List.take_succ_eq_append_getElem h]; simp only [tsz, List.map_append, List.sum_append, List.map_cons, List.map_nil, List.sum_cons, List.sum_nil, Nat.add_zero]
theorem tsz_take (es : List En) (k : Nat) : tsz (es.take k) ≤ tsz es := by
  induction es generalizing k with
  | nil => simp [tsz]
  | cons e es ih =>
    cases k with
    | zero => simp [tsz]
    | succ k =>
      have := ih k
      simp only [tsz, List.take_succ_cons, List.map_cons, List.sum_cons] at this ⊢
      omega
theorem esz_le64 {e : En} (h : e.ws.length ≤ 64) (hsz : ∀ v ∈ e.ws, wsz v ≤ 65536) : esz e ≤ 4194369 := by
  have := wsS_le hsz e.ws.length
  rw [List.take_of_length_le (Nat.le_refl _)] at this
  have h2 : (if e.blank then 1 else 0) ≤ 1 := by split <;> omega
  have h3 : esz e = e.ws.length + (if e.blank then 1 else 0) + wsS e.ws := rfl
  rw [h3]
  omega
set_option maxRecDepth 100000 in
set_option maxHeartbeats 2000000 in
theorem tshort22 (x : Sl) (es : List En) (w : World) (h : LE w x es) (h64 : ∀ e ∈ es, e.ws.length ≤ 64) (hsz : ∀ e ∈ es, ∀ v ∈ e.ws, wsz v ≤ 65536) :
    Calls Tryd.prog 20 #[.slice x.a x.n x.c] w fun e w' => e = .returned (.bool (decide (tsz es ≤ 65536))) ∧ Hid (Below w.heap.size w w') := by
  have HR : Hid (LE w x es) := h
  have H64 : Hid (∀ e ∈ es, e.ws.length ≤ 64) := h64
  have HSZ : Hid (∀ e ∈ es, ∀ v ∈ e.ws, wsz v ≤ 65536) := hsz
  have hl := h.1.symm
  have hcap : x.n ≤ x.c := (by have := h.1; have := h.2.1; omega)
  have hcap2 := h.2.2.1
  clear h h64 hsz
  obtain ⟨sa, n, sc⟩ := x
  simp only at *
  go_enter Tryd.func20, Tryd.ntmps20
  go_wp2_with fail
  go_loopw [3, 8] (fun u y wr => ∃ k T : Nat, k ≤ n ∧ T ≤ 65536 ∧ u = .int .i64 (T : Int) ∧ y = .int .i64 (k : Int) ∧ Hid (T = tsz (es.take k) ∧ Below w.heap.size w wr)) (fun _ y _ => n - (intOf y).toNat)
  case atStart => exact ⟨0, 0, Nat.zero_le _, by omega, rfl, rfl, by simp [tsz], Below.refl _ _⟩
  case round =>
    obtain ⟨k, T, hk, hT, rfl, rfl, HW⟩ := hrel
    by_cases hlt : k < n
    · have hlt' : (k : Int) < (n : Int) := by omega
      have hkl : k < es.length := by omega
      obtain ⟨b, o, e0, hbb, y, c0, c1, c2, hy⟩ := (HR.out.rd.below HW.out.2).at k hkl
      simp only at e0
      subst e0
      have g1 := H64.out es[k] (List.getElem_mem hkl)
      have g2 := HSZ.out es[k] (List.getElem_mem hkl)
      have hez := esz_le64 g1 g2
      have HST : Hid (T + esz es[k] = tsz (es.take (k + 1))) := (by show _ = _; rw [tsz_snoc hkl, HW.out.1])
      have HTK := Lib.hid (tsz_take es (k + 1))
      have K : Hid (∀ W, Below wr.heap.size wr W → Calls Tryd.prog 34 #[.agg #[.int .i64 es[k].line, .bool es[k].blank, .slice y.a y.n y.c]] W fun e w' => e = .returned (.int .i64 (esz es[k])) ∧ Hid (Below W.heap.size W w')) := fun W hW => esize42 y es[k] W (hy.below hW) (by omega) g2
      clear g1 g2 hy
      obtain ⟨ya, yn, yc⟩ := y
      simp only at c2 K
      generalize esz es[k] = Z at *
      generalize es[k] = en at *
      have HB2 : Hid (Below wr.heap.size wr (wr.alloc (.cells #[.int .i64 en.line, .bool en.blank, .slice ya yn yc] 34))) := alp_below _ _
      by_cases hbig : 65536 < T + Z
      · have hbig' : (65536 : Int) < (T : Int) + (Z : Int) := by omega
        have hbig2 : (65536 : Int) < ((T + Z : Nat) : Int) := by omega
        go_wp2_with fail
        refine (K.out _ HB2.out).mono ?_
        rintro e w2 ⟨rfl, H2⟩
        have HB3 : Hid (Below w.heap.size w w2) := HW.out.2.trans ((HB2.out.trans (H2.out.mono HB2.out.size)).mono HW.out.2.size)
        go_wp2_with fail
        go_ret
        refine ⟨?_, HB3.out⟩
        have : ¬ tsz es ≤ 65536 := by have := HST.out; have := HTK.out; omega
        simp [this]
      · have hbig' : ¬ (65536 : Int) < (T : Int) + (Z : Int) := by omega
        have hbig2 : ¬ (65536 : Int) < ((T + Z : Nat) : Int) := by omega
        go_wp2_with fail
        refine (K.out _ HB2.out).mono ?_
        rintro e w2 ⟨rfl, H2⟩
        have HB3 : Hid (Below w.heap.size w w2) := HW.out.2.trans ((HB2.out.trans (H2.out.mono HB2.out.size)).mono HW.out.2.size)
        go_wp2_with fail
        go_round
        case rel => exact ⟨k + 1, T + Z, by omega, by omega, by go_num, by go_num, HST.out, HB3.out⟩
        case measure => simp [intOf]; omega
    · have hge : ¬ (k : Int) < (n : Int) := by omega
      have HTT : Hid (tsz es ≤ 65536) := (by show _ ≤ _; have := HW.out.1; rw [List.take_of_length_le (by omega)] at this; omega)
      go_wp2_with fail
      go_ret
      exact ⟨by simp [HTT.out], HW.out.2⟩
end Go.Proofs.YtgdkeafjglcgaaaDoor
