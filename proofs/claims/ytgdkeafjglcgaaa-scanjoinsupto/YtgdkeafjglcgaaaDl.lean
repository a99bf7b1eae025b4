/- The document's Join. -/
import Derived.Test.YtgdkeafjglcgaaaDk
import Derived.Test.YtgdkeafjglcgaaaSv
import Derived.Test.YtgdkeafjglcgaaaSu
namespace Go.Proofs.Ytgdkeafjglcgaaa
open Go.ChangeShapes Go.WideShapes Go.ChangeAt Go.RowKit
set_option linter.unusedVariables false
set_option linter.unusedSimpArgs false

theorem joinErr_w {es : List En} (h : wErr es ≠ 0) : joinErr es = wErr es ∧ joinB es = [] := by
  have e : joinErr es = wErr es := by
    unfold joinErr wErr at *
    split
    · rfl
    · rename_i h1
      rw [if_neg h1] at h
      split
      · rfl
      · rename_i h2; rw [if_neg h2] at h; exact absurd rfl h
  refine ⟨e, ?_⟩
  unfold joinB; rw [e, if_neg h]
theorem wErr_ok {es : List En} (h : wErr es = 0) : (∀ e ∈ es, ∀ v ∈ e.ws, wsz v ≤ 65536) ∧ (∀ e ∈ es, e.ws ≠ [] ∧ ∀ v ∈ e.ws, goodW v = true) := by
  unfold wErr at h
  split at h
  · cases h
  · rename_i h1
    split at h
    · cases h
    · rename_i h2
      simp only [Bool.not_eq_true, Bool.not_eq_false', List.all_eq_true, decide_eq_true_eq] at h1
      simp only [Bool.or_eq_true, not_or, Bool.not_eq_true, List.any_eq_false, Bool.not_eq_false', List.all_eq_true] at h2
      exact ⟨fun e he v hv => h1 e he v hv, fun e he => ⟨by simpa using h2.1 e he, fun v hv => h2.2 e he v hv⟩⟩
theorem joinErr_many {es : List En} (h : wErr es = 0) {e : En} (he : e ∈ es) (h64 : 64 < e.ws.length) : joinErr es = 3 ∧ joinB es = [] := by
  obtain ⟨h1, h2⟩ := wErr_ok h
  have a2 : (es.any fun e => e.ws.isEmpty) = false := by
    rw [List.any_eq_false]; intro e he; simpa using (h2 e he).1
  have a3 : (es.all fun e => e.ws.all fun w => goodW w) = true := by
    rw [List.all_eq_true]; intro e he; rw [List.all_eq_true]; exact (h2 e he).2
  have a4 : (es.any fun e => decide (64 < e.ws.length)) = true := by rw [List.any_eq_true]; exact ⟨e, he, by simpa using h64⟩
  have : joinErr es = 3 := by unfold joinErr; rw [short_all h1, a2, a3, a4]; rfl
  exact ⟨this, by unfold joinB; rw [this]; rfl⟩
theorem joinErr_long {es : List En} (h : wErr es = 0) (ht : 65536 < tsz es) : joinErr es = 3 ∧ joinB es = [] := by
  obtain ⟨h1, h2⟩ := wErr_ok h
  have a2 : (es.any fun e => e.ws.isEmpty) = false := by
    rw [List.any_eq_false]; intro e he; simpa using (h2 e he).1
  have a3 : (es.all fun e => e.ws.all fun w => goodW w) = true := by
    rw [List.all_eq_true]; intro e he; rw [List.all_eq_true]; exact (h2 e he).2
  have : joinErr es = 3 := by unfold joinErr; rw [short_all h1, a2, a3]; simp [ht]
  exact ⟨this, by unfold joinB; rw [this]; rfl⟩
theorem joinErr_0 {es : List En} (h : wErr es = 0) (h64 : ∀ e ∈ es, e.ws.length ≤ 64) (ht : tsz es ≤ 65536) : joinErr es = 0 ∧ joinB es = joinT es := by
  obtain ⟨h1, h2⟩ := wErr_ok h
  have : joinErr es = 0 := join_of_okE (fun e he => ⟨(h2 e he).1, h64 e he, (h2 e he).2⟩) ht
  exact ⟨this, by unfold joinB; rw [if_pos this]⟩
theorem ba_app (a b : ByteArray) : (a ++ b).data.toList = a.data.toList ++ b.data.toList := by simp
theorem ba_len (a : ByteArray) : a.data.toList.length = a.size := by simp
set_option maxRecDepth 100000 in
set_option maxHeartbeats 4000000 in
theorem rjoin8 (xa : Option Addr) (n xc : Nat) (es : List En) (w : World) (h : LE w ⟨xa, n, xc⟩ es) (hsz : ∀ e ∈ es, ∀ v ∈ e.ws, v.1.size ≤ 4611686018427387000) (alone44 : ∀ (v : Wd) (w : World), wsz v ≤ 65536 → Calls Try.prog 44 #[.agg #[.string v.1, .bool v.2]] w fun e w' => e = .returned (.bool (goodW v)) ∧ Hid (Below w.heap.size w w')) : Calls Try.prog 8 #[.slice xa n xc] w (JnP w es) := by
  have HR : Hid (LE w ⟨xa, n, xc⟩ es) := h
  have hl : es.length = n := h.1.symm
  have hcap : n ≤ xc := (by have := h.1; have := h.2.1; simp only at *; omega)
  have hcap2 : xc ≤ 9223372036854775807 := h.2.2.1
  have K25 := Lib.hid (rwords25 xa n xc es w h hsz alone44)
  clear h hsz alone44
  by_cases hw : wErr es = 0
  · rw [hw] at K25
    have HW0 := Lib.hid hw
    have HSH : Hid (∀ e ∈ es, ∀ v ∈ e.ws, wsz v ≤ 65536) := (wErr_ok hw).1
    clear hw
    go_enter Try.func8, Try.ntmps8
    go_wp2_with fail
    refine K25.out.mono ?_
    rintro e w1 ⟨rfl, H1⟩
    clear K25
    go_wp2_with fail
    go_loopw [5, 6] (fun u y wr => ∃ (k : Nat) (t : ByteArray), k ≤ n ∧ y = .int .i64 (k : Int) ∧ u = .string t ∧ t.size ≤ 65536 ∧ Hid (t.data.toList = joinT (es.take k) ∧ (∀ e ∈ es.take k, e.ws.length ≤ 64) ∧ Below w.heap.size w wr)) (fun _ y _ => n - (intOf y).toNat)
    case atStart => exact ⟨0, ⟨#[]⟩, Nat.zero_le _, rfl, rfl, by show 0 ≤ 65536; omega, by simp [joinT], fun r hr => (by simp at hr), H1.out⟩
    case round =>
      obtain ⟨k, t, hk, rfl, rfl, ht, HW⟩ := hrel
      obtain ⟨wz, hwz⟩ : ∃ x, x = wr := ⟨_, rfl⟩
      subst hwz
      by_cases hlt : k < n
      · have hlt' : (k : Int) < (n : Int) := by omega
        have hkl : k < es.length := by omega
        obtain ⟨b, o, e0, hbb, y, _, c1w, c2w, hy⟩ := HR.out.rd.at k hkl
        simp only at e0
        subst e0
        have HIN : Hid (es[k] ∈ es) := List.getElem_mem hkl
        obtain ⟨ya, m, yc⟩ := y
        obtain ⟨hm0, hmc0, hmc2, hrd⟩ := hy
        simp only at hm0 hmc0 hmc2 hrd c2w
        have hm : es[k].ws.length = m := hm0.symm
        have hmc : m ≤ yc := by omega
        have HC2 : Hid (∀ W, Below w.heap.size w W → W.cell? ⟨b, o + k * 3 + 2, none⟩ = some (.slice ya m yc) ∧ W.cell? ⟨b, o + k * 3 + 1, none⟩ = some (.bool es[k].blank) ∧ b < W.heap.size ∧ RdW W ya es[k].ws) := fun W hW => ⟨(hW.cell (p := ⟨b, o + k * 3 + 2, none⟩) hbb).trans c2w, (hW.cell (p := ⟨b, o + k * 3 + 1, none⟩) hbb).trans c1w, Nat.lt_of_lt_of_le hbb hW.size, hrd.below hW⟩
        obtain ⟨c2z, c1z, hblz, _⟩ := HC2.out wz HW.out.2.2
        have HVS : Hid (∀ v ∈ es[k].ws, wsz v ≤ 65536) := HSH.out es[k] HIN.out
        clear hm0 hmc0 hrd c2w c1w
        by_cases h64 : 64 < m
        · have h64' : (64 : Int) < (m : Int) := by omega
          have HJ := Lib.hid (joinErr_many HW0.out HIN.out (by rw [hm]; exact h64))
          go_wp2_with fail
          go_ret2
          exact ⟨_, _, rfl, HJ.out.2.symm, HJ.out.1.symm, HW.out.2.2⟩
        · have h64' : ¬ (64 : Int) < (m : Int) := by omega
          have HTL : Hid (∀ j, (wsTxt (es[k].ws.take j)).length ≤ 4194368) := fun j => by
            have := wsTxt_le (ws := es[k].ws.take j) (fun v hv => HVS.out v (List.mem_of_mem_take hv))
            have h2 : (es[k].ws.take j).length ≤ es[k].ws.length := by simp; omega
            omega
          obtain ⟨en, hen⟩ : ∃ en, en = es[k] := ⟨_, rfl⟩
          have HEN := Lib.hid hen
          rw [← hen] at hm c1z HC2 HVS HTL
          clear hen
          obtain ⟨ln, bl, ws⟩ := en
          simp only at hm c1z HC2 HVS HTL
          cases bl with
          | true =>
            obtain ⟨T1, hT0⟩ : ∃ T : ByteArray, T = t ++ ⟨#[32]⟩ := ⟨_, rfl⟩
            have HT1 : Hid (T1.data.toList = joinT (es.take k) ++ [32]) := (by show _ = _; rw [hT0]; simp [HW.out.1])
            have hT1 : T1.size ≤ 65537 := by rw [← ba_len, HT1.out, List.length_append, ← HW.out.1, ba_len]; simp; omega
            go_wp2_with fail
            rw [← hT0]
            clear hT0
            go_loopw [5, 7] (fun u y wr => ∃ (j : Nat) (t : ByteArray), j ≤ m ∧ y = .int .i64 (j : Int) ∧ u = .string t ∧ t.size ≤ 4259905 ∧ Hid (t.data.toList = T1.data.toList ++ wsTxt (ws.take j) ∧ Below w.heap.size w wr)) (fun _ y _ => m - (intOf y).toNat)
            case atStart => exact ⟨0, T1, Nat.zero_le _, rfl, rfl, by omega, by simp [wsTxt], HW.out.2.2⟩
            case round =>
              obtain ⟨j, t2, hj, rfl, rfl, ht2, HV⟩ := hrel
              obtain ⟨c2, c1, hbl, hrd⟩ := HC2.out wr HV.out.2
              have HRW := Lib.hid hrd
              clear hrd
              by_cases hjl : j < m
              · have hjl' : (j : Int) < (m : Int) := by omega
                have hjw : j < ws.length := by omega
                obtain ⟨b2, o2, e2, hb2, d0, d1⟩ := HRW.out.at j hjw
                subst e2
                have hvz := HVS.out ws[j] (List.getElem_mem hjw)
                have HTS := Lib.hid (take_txt hjw)
                obtain ⟨v, hv⟩ : ∃ v, v = ws[j] := ⟨_, rfl⟩
                rw [← hv] at d0 d1 hvz HTS
                clear hv
                have hvs := wsz_sz v
                have K26 := Lib.hid (fun W => rlit26 v W (by omega))
                have HWT : Hid ((wtx v).data.toList = wtxt v) := (by show _ = _; simp [wtx])
                have htz : (wtx v).size ≤ 65536 := by rw [wtx_size]; exact hvz
                generalize wtx v = tx at *
                have HLB : Hid ((wsTxt (ws.take (j + 1))).length ≤ 4194368) := HTL.out (j + 1)
                by_cases hj0 : j = 0
                · subst hj0
                  simp only [if_true] at HTS
                  simp only [Nat.zero_mul, Nat.add_zero] at d0 d1
                  go_wp2_with fail
                  refine (K26.out _).mono ?_
                  rintro e w4 ⟨rfl, H4⟩
                  have HB4 : Hid (Below w.heap.size w w4) := HV.out.2.trans (H4.out.mono HV.out.2.size)
                  have HN : Hid ((t2 ++ tx).data.toList = T1.data.toList ++ wsTxt (ws.take (0 + 1))) := (by show _ = _; rw [ba_app, HV.out.1, HWT.out, HTS.out]; simp)
                  have hN : (t2 ++ tx).size ≤ 4259905 := by rw [← ba_len, HN.out, List.length_append, ba_len]; have := HLB.out; omega
                  go_wp2_with fail
                  go_round
                  case rel => exact ⟨0 + 1, t2 ++ tx, by omega, by go_num, rfl, hN, HN.out, HB4.out⟩
                  case measure => simp [intOf]; omega
                · have hj0' : (0 : Int) < (j : Int) := by omega
                  simp only [if_neg hj0] at HTS
                  go_wp2_with fail
                  refine (K26.out _).mono ?_
                  rintro e w4 ⟨rfl, H4⟩
                  have HB4 : Hid (Below w.heap.size w w4) := HV.out.2.trans (H4.out.mono HV.out.2.size)
                  have HN : Hid ((t2 ++ ⟨#[32]⟩ ++ tx).data.toList = T1.data.toList ++ wsTxt (ws.take (j + 1))) := (by show _ = _; rw [ba_app, ba_app, HV.out.1, HWT.out, HTS.out]; simp)
                  have hN : (t2 ++ ⟨#[32]⟩ ++ tx).size ≤ 4259905 := by rw [← ba_len, HN.out, List.length_append, ba_len]; have := HLB.out; omega
                  go_wp2_with fail
                  go_round
                  case rel => exact ⟨j + 1, t2 ++ ⟨#[32]⟩ ++ tx, by omega, by go_num, rfl, hN, HN.out, HB4.out⟩
                  case measure => simp [intOf]; omega
              · have hge : ¬ (j : Int) < (m : Int) := by omega
                have HN : Hid ((t2 ++ ⟨#[10]⟩).data.toList = joinT (es.take (k + 1))) := (by
                  show _ = _
                  have := HV.out.1
                  rw [List.take_of_length_le (by omega)] at this
                  rw [ba_app, this, HT1.out, joinT_snoc hkl, ← HEN.out]
                  simp [enTxt])
                have H64 : Hid (∀ e ∈ es.take (k + 1), e.ws.length ≤ 64) := pall_snoc (P := fun e : En => e.ws.length ≤ 64) hkl HW.out.2.1 (by rw [← HEN.out]; simp only; omega)
                have hsz2 : (t2 ++ ⟨#[10]⟩).size = t2.size + 1 := by rw [← ba_len, ba_app, List.length_append, ba_len]; rfl
                by_cases hbig : 65536 < t2.size + 1
                · have hbig' : (65536 : Int) < (t2.size : Int) + 1 := by omega
                  have hbig2 : (65536 : Int) < ((t2 ++ ⟨#[10]⟩ : ByteArray).size : Int) := by rw [hsz2]; omega
                  have HJ : Hid (joinErr es = 3 ∧ joinB es = []) := (by
                    obtain ⟨_, h2⟩ := wErr_ok HW0.out
                    refine joinErr_long HW0.out ?_
                    have e1 := joinT_len (l := es.take (k + 1)) (fun e he => ⟨(h2 e (List.mem_of_mem_take he)).1, H64.out e he, (h2 e (List.mem_of_mem_take he)).2⟩)
                    have e2 := tsz_take es (k + 1)
                    rw [← HN.out, ba_len, hsz2] at e1
                    omega)
                  go_wp2_with fail
                  go_ret2
                  exact ⟨_, _, rfl, HJ.out.2.symm, HJ.out.1.symm, HV.out.2⟩
                · have hbig' : ¬ (65536 : Int) < (t2.size : Int) + 1 := by omega
                  have hbig2 : ¬ (65536 : Int) < ((t2 ++ ⟨#[10]⟩ : ByteArray).size : Int) := by rw [hsz2]; omega
                  go_wp2_with fail
                  go_round
                  case rel => exact ⟨k + 1, t2 ++ ⟨#[10]⟩, by omega, by go_num, rfl, by omega, HN.out, H64.out, HV.out.2⟩
                  case measure => simp [intOf]; omega

          | false =>
            obtain ⟨T1, hT0⟩ : ∃ T : ByteArray, T = t := ⟨_, rfl⟩
            have HT1 : Hid (T1.data.toList = joinT (es.take k) ++ []) := (by show _ = _; rw [hT0]; simp [HW.out.1])
            have hT1 : T1.size ≤ 65537 := by rw [← ba_len, HT1.out, List.length_append, ← HW.out.1, ba_len]; simp; omega
            go_wp2_with fail
            subst hT0
            go_loopw [5, 7] (fun u y wr => ∃ (j : Nat) (t : ByteArray), j ≤ m ∧ y = .int .i64 (j : Int) ∧ u = .string t ∧ t.size ≤ 4259905 ∧ Hid (t.data.toList = T1.data.toList ++ wsTxt (ws.take j) ∧ Below w.heap.size w wr)) (fun _ y _ => m - (intOf y).toNat)
            case atStart => exact ⟨0, T1, Nat.zero_le _, rfl, rfl, by omega, by simp [wsTxt], HW.out.2.2⟩
            case round =>
              obtain ⟨j, t2, hj, rfl, rfl, ht2, HV⟩ := hrel
              obtain ⟨c2, c1, hbl, hrd⟩ := HC2.out wr HV.out.2
              have HRW := Lib.hid hrd
              clear hrd
              by_cases hjl : j < m
              · have hjl' : (j : Int) < (m : Int) := by omega
                have hjw : j < ws.length := by omega
                obtain ⟨b2, o2, e2, hb2, d0, d1⟩ := HRW.out.at j hjw
                subst e2
                have hvz := HVS.out ws[j] (List.getElem_mem hjw)
                have HTS := Lib.hid (take_txt hjw)
                obtain ⟨v, hv⟩ : ∃ v, v = ws[j] := ⟨_, rfl⟩
                rw [← hv] at d0 d1 hvz HTS
                clear hv
                have hvs := wsz_sz v
                have K26 := Lib.hid (fun W => rlit26 v W (by omega))
                have HWT : Hid ((wtx v).data.toList = wtxt v) := (by show _ = _; simp [wtx])
                have htz : (wtx v).size ≤ 65536 := by rw [wtx_size]; exact hvz
                generalize wtx v = tx at *
                have HLB : Hid ((wsTxt (ws.take (j + 1))).length ≤ 4194368) := HTL.out (j + 1)
                by_cases hj0 : j = 0
                · subst hj0
                  simp only [if_true] at HTS
                  simp only [Nat.zero_mul, Nat.add_zero] at d0 d1
                  go_wp2_with fail
                  refine (K26.out _).mono ?_
                  rintro e w4 ⟨rfl, H4⟩
                  have HB4 : Hid (Below w.heap.size w w4) := HV.out.2.trans (H4.out.mono HV.out.2.size)
                  have HN : Hid ((t2 ++ tx).data.toList = T1.data.toList ++ wsTxt (ws.take (0 + 1))) := (by show _ = _; rw [ba_app, HV.out.1, HWT.out, HTS.out]; simp)
                  have hN : (t2 ++ tx).size ≤ 4259905 := by rw [← ba_len, HN.out, List.length_append, ba_len]; have := HLB.out; omega
                  go_wp2_with fail
                  go_round
                  case rel => exact ⟨0 + 1, t2 ++ tx, by omega, by go_num, rfl, hN, HN.out, HB4.out⟩
                  case measure => simp [intOf]; omega
                · have hj0' : (0 : Int) < (j : Int) := by omega
                  simp only [if_neg hj0] at HTS
                  go_wp2_with fail
                  refine (K26.out _).mono ?_
                  rintro e w4 ⟨rfl, H4⟩
                  have HB4 : Hid (Below w.heap.size w w4) := HV.out.2.trans (H4.out.mono HV.out.2.size)
                  have HN : Hid ((t2 ++ ⟨#[32]⟩ ++ tx).data.toList = T1.data.toList ++ wsTxt (ws.take (j + 1))) := (by show _ = _; rw [ba_app, ba_app, HV.out.1, HWT.out, HTS.out]; simp)
                  have hN : (t2 ++ ⟨#[32]⟩ ++ tx).size ≤ 4259905 := by rw [← ba_len, HN.out, List.length_append, ba_len]; have := HLB.out; omega
                  go_wp2_with fail
                  go_round
                  case rel => exact ⟨j + 1, t2 ++ ⟨#[32]⟩ ++ tx, by omega, by go_num, rfl, hN, HN.out, HB4.out⟩
                  case measure => simp [intOf]; omega
              · have hge : ¬ (j : Int) < (m : Int) := by omega
                have HN : Hid ((t2 ++ ⟨#[10]⟩).data.toList = joinT (es.take (k + 1))) := (by
                  show _ = _
                  have := HV.out.1
                  rw [List.take_of_length_le (by omega)] at this
                  rw [ba_app, this, HT1.out, joinT_snoc hkl, ← HEN.out]
                  simp [enTxt])
                have H64 : Hid (∀ e ∈ es.take (k + 1), e.ws.length ≤ 64) := pall_snoc (P := fun e : En => e.ws.length ≤ 64) hkl HW.out.2.1 (by rw [← HEN.out]; simp only; omega)
                have hsz2 : (t2 ++ ⟨#[10]⟩).size = t2.size + 1 := by rw [← ba_len, ba_app, List.length_append, ba_len]; rfl
                by_cases hbig : 65536 < t2.size + 1
                · have hbig' : (65536 : Int) < (t2.size : Int) + 1 := by omega
                  have hbig2 : (65536 : Int) < ((t2 ++ ⟨#[10]⟩ : ByteArray).size : Int) := by rw [hsz2]; omega
                  have HJ : Hid (joinErr es = 3 ∧ joinB es = []) := (by
                    obtain ⟨_, h2⟩ := wErr_ok HW0.out
                    refine joinErr_long HW0.out ?_
                    have e1 := joinT_len (l := es.take (k + 1)) (fun e he => ⟨(h2 e (List.mem_of_mem_take he)).1, H64.out e he, (h2 e (List.mem_of_mem_take he)).2⟩)
                    have e2 := tsz_take es (k + 1)
                    rw [← HN.out, ba_len, hsz2] at e1
                    omega)
                  go_wp2_with fail
                  go_ret2
                  exact ⟨_, _, rfl, HJ.out.2.symm, HJ.out.1.symm, HV.out.2⟩
                · have hbig' : ¬ (65536 : Int) < (t2.size : Int) + 1 := by omega
                  have hbig2 : ¬ (65536 : Int) < ((t2 ++ ⟨#[10]⟩ : ByteArray).size : Int) := by rw [hsz2]; omega
                  go_wp2_with fail
                  go_round
                  case rel => exact ⟨k + 1, t2 ++ ⟨#[10]⟩, by omega, by go_num, rfl, by omega, HN.out, H64.out, HV.out.2⟩
                  case measure => simp [intOf]; omega

      · have hge : ¬ (k : Int) < (n : Int) := by omega
        have H64 : Hid (∀ e ∈ es, e.ws.length ≤ 64) := pall_done (P := fun e : En => e.ws.length ≤ 64) (by omega) HW.out.2.1
        have HT : Hid (t.data.toList = joinT es) := (by show _ = _; have := HW.out.1; rw [List.take_of_length_le (by omega)] at this; exact this)
        have HJ : Hid (joinErr es = 0 ∧ joinB es = joinT es) := (by
          obtain ⟨h1, h2⟩ := wErr_ok HW0.out
          refine joinErr_0 HW0.out H64.out ?_
          have e1 := joinT_len (l := es) (fun e he => ⟨(h2 e he).1, H64.out e he, (h2 e he).2⟩)
          rw [← e1, ← HT.out, ba_len]; exact ht)
        go_wp2_with fail
        go_ret2
        exact ⟨_, _, rfl, by rw [HJ.out.2]; exact HT.out, HJ.out.1.symm, HW.out.2.2⟩
  · have HJ := Lib.hid (joinErr_w hw)
    have hw2 : (wErr es == 0) = false := by simpa using hw
    generalize wErr es = Z at *
    go_enter Try.func8, Try.ntmps8
    go_wp2_with fail
    refine K25.out.mono ?_
    rintro e w1 ⟨rfl, H1⟩
    go_wp2_with fail
    go_ret2
    exact ⟨_, _, rfl, HJ.out.2.symm, HJ.out.1.symm, H1.out⟩
end Go.Proofs.Ytgdkeafjglcgaaa
