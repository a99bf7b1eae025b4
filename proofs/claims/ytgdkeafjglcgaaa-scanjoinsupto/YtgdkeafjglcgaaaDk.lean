/- What is wrong with words, by the document. -/
import Derived.Test.YtgdkeafjglcgaaaDi
import Derived.Test.YtgdkeafjglcgaaaSv
namespace Go.Proofs.Ytgdkeafjglcgaaa
open Go.ChangeShapes Go.WideShapes Go.ChangeAt Go.RowKit
set_option linter.unusedVariables false
set_option linter.unusedSimpArgs false

def wErr (es : List En) : Int :=
  if !(es.all fun e => e.ws.all fun w => decide (wsz w ≤ 65536)) then 3
  else if (es.any fun e => e.ws.isEmpty) || !(es.all fun e => e.ws.all fun w => goodW w) then 230 else 0
theorem wErr_3 {es : List En} {e : En} {v : Wd} (he : e ∈ es) (hv : v ∈ e.ws) (h : ¬ wsz v ≤ 65536) : wErr es = 3 := by
  have : (es.all fun e => e.ws.all fun w => decide (wsz w ≤ 65536)) = false := by
    rw [List.all_eq_false]
    refine ⟨e, he, ?_⟩
    rw [Bool.not_eq_true, List.all_eq_false]
    exact ⟨v, hv, by simp; omega⟩
  unfold wErr; rw [this]; rfl
theorem short_all {es : List En} (h : ∀ e ∈ es, ∀ v ∈ e.ws, wsz v ≤ 65536) : (es.all fun e => e.ws.all fun w => decide (wsz w ≤ 65536)) = true := by
  rw [List.all_eq_true]; intro e he
  rw [List.all_eq_true]; intro v hv
  simpa using h e he v hv
theorem wErr_230e {es : List En} (h : ∀ e ∈ es, ∀ v ∈ e.ws, wsz v ≤ 65536) {e : En} (he : e ∈ es) (h0 : e.ws = []) : wErr es = 230 := by
  have : (es.any fun e => e.ws.isEmpty) = true := by rw [List.any_eq_true]; exact ⟨e, he, by rw [h0]; rfl⟩
  unfold wErr; rw [short_all h, this]; rfl
theorem wErr_230 {es : List En} (h : ∀ e ∈ es, ∀ v ∈ e.ws, wsz v ≤ 65536) {e : En} {v : Wd} (he : e ∈ es) (hv : v ∈ e.ws) (hg : goodW v = false) : wErr es = 230 := by
  have : (es.all fun e => e.ws.all fun w => goodW w) = false := by
    rw [List.all_eq_false]
    refine ⟨e, he, ?_⟩
    rw [Bool.not_eq_true, List.all_eq_false]
    exact ⟨v, hv, by simp [hg]⟩
  unfold wErr; rw [short_all h, this]; simp
theorem wErr_0 {es : List En} (h : ∀ e ∈ es, ∀ v ∈ e.ws, wsz v ≤ 65536) (hg : ∀ e ∈ es, e.ws ≠ [] ∧ ∀ v ∈ e.ws, goodW v = true) : wErr es = 0 := by
  have h1 : (es.any fun e => e.ws.isEmpty) = false := by
    rw [List.any_eq_false]; intro e he
    have := (hg e he).1
    simpa using this
  have h2 : (es.all fun e => e.ws.all fun w => goodW w) = true := by
    rw [List.all_eq_true]; intro e he
    rw [List.all_eq_true]; intro v hv
    exact (hg e he).2 v hv
  unfold wErr; rw [short_all h, h1, h2]; rfl
theorem pall_snoc {α : Type} {P : α → Prop} {l : List α} {k : Nat} (hk : k < l.length) (h : ∀ r ∈ l.take k, P r) (h1 : P l[k]) : ∀ r ∈ l.take (k + 1), P r := by
  rw [List.take_succ_eq_append_getElem hk]
  intro r hr
  rcases List.mem_append.1 hr with hr | hr
  · exact h r hr
  · rw [List.mem_singleton.1 hr]; exact h1
theorem pall_done {α : Type} {P : α → Prop} {l : List α} {k : Nat} (hk : l.length ≤ k) (h : ∀ r ∈ l.take k, P r) : ∀ r ∈ l, P r := by
  rw [List.take_of_length_le hk] at h; exact h
set_option maxRecDepth 100000 in
set_option maxHeartbeats 4000000 in
theorem rwords25 (xa : Option Addr) (n xc : Nat) (es : List En) (w : World) (h : LE w ⟨xa, n, xc⟩ es) (hsz : ∀ e ∈ es, ∀ v ∈ e.ws, v.1.size ≤ 4611686018427387000) (alone44 : ∀ (v : Wd) (w : World), wsz v ≤ 65536 → Calls Try.prog 44 #[.agg #[.string v.1, .bool v.2]] w fun e w' => e = .returned (.bool (goodW v)) ∧ Hid (Below w.heap.size w w')) :
    Calls Try.prog 25 #[.slice xa n xc] w fun e w' => e = .returned (.int .i64 (wErr es)) ∧ Hid (Below w.heap.size w w') := by
  have HR : Hid (LE w ⟨xa, n, xc⟩ es) := h
  have HSZ : Hid (∀ e ∈ es, ∀ v ∈ e.ws, v.1.size ≤ 4611686018427387000) := hsz
  have hl : es.length = n := h.1.symm
  have hcap : n ≤ xc := (by have := h.1; have := h.2.1; simp only at *; omega)
  have hcap2 : xc ≤ 9223372036854775807 := h.2.2.1
  have HAL := Lib.hid alone44
  clear h hsz alone44
  obtain ⟨Z, hZ⟩ : ∃ Z, wErr es = Z := ⟨_, rfl⟩
  have HZ := Lib.hid hZ
  rw [hZ]
  clear hZ
  go_enter Try.func25, Try.ntmps25
  go_wp2_with fail
  go_loopw [3] (fun y wr => ∃ k : Nat, k ≤ n ∧ y = .int .i64 (k : Int) ∧ Hid ((∀ e ∈ es.take k, ∀ v ∈ e.ws, wsz v ≤ 65536) ∧ Below w.heap.size w wr)) (fun y _ => n - (intOf y).toNat)
  case atStart => exact ⟨0, Nat.zero_le _, rfl, fun r hr => (by simp at hr), Below.refl _ _⟩
  case round =>
    obtain ⟨k, hk, rfl, HW⟩ := hrel
    obtain ⟨wz, hwz⟩ : ∃ x, x = wr := ⟨_, rfl⟩
    subst hwz
    by_cases hlt : k < n
    · have hlt' : (k : Int) < (n : Int) := by omega
      have hkl : k < es.length := by omega
      obtain ⟨b, o, e0, hbb, y, _, _, c2w, hy⟩ := HR.out.rd.at k hkl
      simp only at e0
      subst e0
      have HIN : Hid (es[k] ∈ es) := List.getElem_mem hkl
      obtain ⟨ya, m, yc⟩ := y
      obtain ⟨hm0, hmc0, hmc2, hrd⟩ := hy
      simp only at hm0 hmc0 hmc2 hrd c2w
      have hm : es[k].ws.length = m := hm0.symm
      have hmc : m ≤ yc := by omega
      have HC2 : Hid (∀ W, Below w.heap.size w W → W.cell? ⟨b, o + k * 3 + 2, none⟩ = some (.slice ya m yc) ∧ b < W.heap.size ∧ RdW W ya es[k].ws) := fun W hW => ⟨(hW.cell (p := ⟨b, o + k * 3 + 2, none⟩) hbb).trans c2w, Nat.lt_of_lt_of_le hbb hW.size, hrd.below hW⟩
      clear hm0 hmc0 hrd c2w
      go_wp2_with fail
      go_loopw [4] (fun y wr => ∃ j : Nat, j ≤ m ∧ y = .int .i64 (j : Int) ∧ Hid ((∀ v ∈ es[k].ws.take j, wsz v ≤ 65536) ∧ Below w.heap.size w wr)) (fun y _ => m - (intOf y).toNat)
      case atStart => exact ⟨0, Nat.zero_le _, rfl, fun r hr => (by simp at hr), HW.out.2⟩
      case round =>
        obtain ⟨j, hj, rfl, HV⟩ := hrel
        obtain ⟨c2, hbl, hrd⟩ := HC2.out wr HV.out.2
        have HRW := Lib.hid hrd
        clear hrd
        by_cases hjl : j < m
        · have hjl' : (j : Int) < (m : Int) := by omega
          have hjw : j < es[k].ws.length := by omega
          obtain ⟨b2, o2, e2, hb2, d0, d1⟩ := HRW.out.at j hjw
          subst e2
          have hvs := HSZ.out es[k] HIN.out es[k].ws[j] (List.getElem_mem hjw)
          have HVI : Hid (es[k].ws[j] ∈ es[k].ws) := List.getElem_mem hjw
          obtain ⟨v, hv⟩ : ∃ v, v = es[k].ws[j] := ⟨_, rfl⟩
          rw [← hv] at d0 d1 hvs HVI
          have HVJ := Lib.hid hv
          clear hv
          have K26 := Lib.hid (fun W => rlit26 v W (by omega))
          have hts := wtx_size v
          have htb : wsz v ≤ v.1.size + 2 := by unfold wsz; split <;> omega
          generalize wtx v = tx at *
          by_cases hb : wsz v ≤ 65536
          · have hb' : ¬ (65536 : Int) < (tx.size : Int) := by omega
            have HQ := Lib.hid hb
            have htx : tx.size ≤ 65536 := by omega
            clear hts htb
            go_wp2_with fail
            refine (K26.out _).mono ?_
            rintro e w2 ⟨rfl, H2⟩
            have HB3 : Hid (Below w.heap.size w w2) := HV.out.2.trans (H2.out.mono HV.out.2.size)
            go_wp2_with fail
            go_round
            case rel => exact ⟨j + 1, by omega, by go_num, pall_snoc (P := fun v => wsz v ≤ 65536) hjw HV.out.1 (by rw [← HVJ.out]; exact HQ.out), HB3.out⟩
            case measure => simp [intOf]; omega
          · have hb' : (65536 : Int) < (tx.size : Int) := by omega
            have HQ := Lib.hid hb
            clear hts htb
            go_wp2_with fail
            refine (K26.out _).mono ?_
            rintro e w2 ⟨rfl, H2⟩
            have HB3 : Hid (Below w.heap.size w w2) := HV.out.2.trans (H2.out.mono HV.out.2.size)
            go_wp2_with fail
            go_ret
            exact ⟨by rw [← HZ.out, wErr_3 HIN.out HVI.out HQ.out]; rfl, HB3.out⟩
        · have hge : ¬ (j : Int) < (m : Int) := by omega
          have HD : Hid (∀ v ∈ es[k].ws, wsz v ≤ 65536) := pall_done (by omega) HV.out.1
          go_wp2_with fail
          go_round
          case rel => exact ⟨k + 1, by omega, by go_num, pall_snoc (P := fun e : En => ∀ v ∈ e.ws, wsz v ≤ 65536) hkl HW.out.1 HD.out, HV.out.2⟩
          case measure => simp [intOf]; omega
    · have hge : ¬ (k : Int) < (n : Int) := by omega
      have HSH : Hid (∀ e ∈ es, ∀ v ∈ e.ws, wsz v ≤ 65536) := pall_done (P := fun e : En => ∀ v ∈ e.ws, wsz v ≤ 65536) (by omega) HW.out.1
      have HBZ := Lib.hid HW.out.2
      clear HW hk hlt
      go_wp2_with fail
      go_loopw [5] (fun y wr => ∃ k : Nat, k ≤ n ∧ y = .int .i64 (k : Int) ∧ Hid ((∀ e ∈ es.take k, e.ws ≠ [] ∧ ∀ v ∈ e.ws, goodW v = true) ∧ Below w.heap.size w wr)) (fun y _ => n - (intOf y).toNat)
      case atStart => exact ⟨0, Nat.zero_le _, rfl, fun r hr => (by simp at hr), HBZ.out⟩
      case round =>
        obtain ⟨i, hi, rfl, HW⟩ := hrel
        obtain ⟨wy, hwy⟩ : ∃ x, x = wr := ⟨_, rfl⟩
        subst hwy
        by_cases hlt : i < n
        · have hlt' : (i : Int) < (n : Int) := by omega
          have hkl : i < es.length := by omega
          obtain ⟨b, o, e0, hbb, y, _, _, c2w, hy⟩ := HR.out.rd.at i hkl
          simp only at e0
          subst e0
          have HIN : Hid (es[i] ∈ es) := List.getElem_mem hkl
          obtain ⟨ya, m, yc⟩ := y
          obtain ⟨hm0, hmc0, hmc2, hrd⟩ := hy
          simp only at hm0 hmc0 hmc2 hrd c2w
          have hm : es[i].ws.length = m := hm0.symm
          have hmc : m ≤ yc := by omega
          have HC2 : Hid (∀ W, Below w.heap.size w W → W.cell? ⟨b, o + i * 3 + 2, none⟩ = some (.slice ya m yc) ∧ b < W.heap.size ∧ RdW W ya es[i].ws) := fun W hW => ⟨(hW.cell (p := ⟨b, o + i * 3 + 2, none⟩) hbb).trans c2w, Nat.lt_of_lt_of_le hbb hW.size, hrd.below hW⟩
          obtain ⟨c2y, hbly, _⟩ := HC2.out wy HW.out.2
          clear hm0 hmc0 hrd c2w
          by_cases hm1 : m = 0
          · subst hm1
            have HE : Hid (es[i].ws = []) := List.eq_nil_of_length_eq_zero hm
            go_wp2_with fail
            go_ret
            exact ⟨by rw [← HZ.out, wErr_230e HSH.out HIN.out HE.out]; rfl, HW.out.2⟩
          · have hm2 : ¬ (m : Int) = 0 := by omega
            have hm3 : ((m : Int) == 0) = false := by simpa using hm2
            have HNE : Hid (es[i].ws ≠ []) := fun e => hm1 (by rw [← hm, e]; rfl)
            go_wp2_with fail
            go_loopw [6] (fun y wr => ∃ j : Nat, j ≤ m ∧ y = .int .i64 (j : Int) ∧ Hid ((∀ v ∈ es[i].ws.take j, goodW v = true) ∧ Below w.heap.size w wr)) (fun y _ => m - (intOf y).toNat)
            case atStart => exact ⟨0, Nat.zero_le _, rfl, fun r hr => (by simp at hr), HW.out.2⟩
            case round =>
              obtain ⟨j, hj, rfl, HV⟩ := hrel
              obtain ⟨c2, hbl, hrd⟩ := HC2.out wr HV.out.2
              have HRW := Lib.hid hrd
              clear hrd
              by_cases hjl : j < m
              · have hjl' : (j : Int) < (m : Int) := by omega
                have hjw : j < es[i].ws.length := by omega
                obtain ⟨b2, o2, e2, hb2, d0, d1⟩ := HRW.out.at j hjw
                subst e2
                have K44 : Hid (∀ W, Calls Try.prog 44 #[.agg #[.string es[i].ws[j].1, .bool es[i].ws[j].2]] W fun e w' => e = .returned (.bool (goodW es[i].ws[j])) ∧ Hid (Below W.heap.size W w')) := fun W => HAL.out _ W (HSH.out es[i] HIN.out _ (List.getElem_mem hjw))
                have HVI : Hid (es[i].ws[j] ∈ es[i].ws) := List.getElem_mem hjw
                obtain ⟨v, hv⟩ : ∃ v, v = es[i].ws[j] := ⟨_, rfl⟩
                rw [← hv] at d0 d1 K44 HVI
                have HVJ := Lib.hid hv
                clear hv
                cases hg : goodW v with
                | true =>
                  simp only [hg] at K44
                  have HQ := Lib.hid hg
                  clear hg
                  go_wp2_with fail
                  refine (K44.out _).mono ?_
                  rintro e w2 ⟨rfl, H2⟩
                  have HB3 : Hid (Below w.heap.size w w2) := HV.out.2.trans (H2.out.mono HV.out.2.size)
                  go_wp2_with fail
                  go_round
                  case rel => exact ⟨j + 1, by omega, by go_num, pall_snoc (P := fun v => goodW v = true) hjw HV.out.1 (by rw [← HVJ.out]; exact HQ.out), HB3.out⟩
                  case measure => simp [intOf]; omega
                | false =>
                  simp only [hg] at K44
                  have HQ := Lib.hid hg
                  clear hg
                  go_wp2_with fail
                  refine (K44.out _).mono ?_
                  rintro e w2 ⟨rfl, H2⟩
                  have HB3 : Hid (Below w.heap.size w w2) := HV.out.2.trans (H2.out.mono HV.out.2.size)
                  go_wp2_with fail
                  go_ret
                  exact ⟨by rw [← HZ.out, wErr_230 HSH.out HIN.out HVI.out HQ.out]; rfl, HB3.out⟩
              · have hge2 : ¬ (j : Int) < (m : Int) := by omega
                have HD : Hid (∀ v ∈ es[i].ws, goodW v = true) := pall_done (by omega) HV.out.1
                go_wp2_with fail
                go_round
                case rel => exact ⟨i + 1, by omega, by go_num, pall_snoc (P := fun e : En => e.ws ≠ [] ∧ ∀ v ∈ e.ws, goodW v = true) hkl HW.out.1 ⟨HNE.out, HD.out⟩, HV.out.2⟩
                case measure => simp [intOf]; omega
        · have hge2 : ¬ (i : Int) < (n : Int) := by omega
          have HA : Hid (∀ e ∈ es, e.ws ≠ [] ∧ ∀ v ∈ e.ws, goodW v = true) := pall_done (P := fun e : En => e.ws ≠ [] ∧ ∀ v ∈ e.ws, goodW v = true) (by omega) HW.out.1
          go_wp2_with fail
          go_ret
          exact ⟨by rw [← HZ.out, wErr_0 HSH.out HA.out]; rfl, HW.out.2⟩
end Go.Proofs.Ytgdkeafjglcgaaa
