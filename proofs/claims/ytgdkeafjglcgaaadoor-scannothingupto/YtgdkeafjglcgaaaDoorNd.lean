/- ScanNothing: its walk. -/
import Derived.Test.YtgdkeafjglcgaaaDoorCc
import Derived.Test.YtgdkeafjglcgaaaDoorNc
import Derived.Test.YtgdkeafjglcgaaaDoorSv
import Derived.Test.YtgdkeafjglcgaaaDoorSw
import Derived.Test.YtgdkeafjglcgaaaDoorTd
import Derived.Laws.Concat
import Derived.Deep.QuietTactic
import Derived.BigQuiet
namespace Go.Proofs.YtgdkeafjglcgaaaDoor
open Go.ChangeShapes Go.WideShapes Go.ChangeAt Go.RowKit
set_option linter.unusedVariables false
set_option linter.unusedSimpArgs false

theorem noisy_snoc {rm : List UInt8} {es : List En} {k : Nat} (h : k < es.length) : noisyT rm (es.take (k + 1)) = noisyT rm (es.take k) ++ noise rm es[k] := by
  rw [List.take_succ_eq_append_getElem h]; simp only [noisyT, List.flatMap_append, List.flatMap_cons, List.flatMap_nil, List.append_nil]
theorem lines_len {t : ByteArray} : (Lib.splitB ⟨#[10]⟩ 0 (Lib.countB t ⟨#[10]⟩) t).length = Lib.countB t ⟨#[10]⟩ + 1 := Lib.splitB_all ⟨#[10]⟩ (by decide) 0 _ t rfl
theorem lsz_take (es : List En) (k : Nat) : lsz (es.take k) ≤ lsz es := by
  have h : lsz es = lsz (es.take k) + lsz (es.drop k) := by
    conv => lhs; rw [← List.take_append_drop k es]
    simp only [lsz, List.map_append, List.sum_append]
  omega
theorem cells_ln (w : World) (ss : List ByteArray) (i : Nat) (h : i < ss.length) : (w.alloc (.cells (ss.map Value.string).toArray 9)).cell? ⟨w.heap.size, i, none⟩ = some (.string ss[i]) := by
  unfold World.cell?
  rw [heap_alloc_new]
  simp [h]
theorem trim_len (l p : List UInt8) : (Lib.trimSuffix l p).length ≤ l.length := by
  unfold Lib.trimSuffix; split <;> simp
/-- One entry's noise, laid together. -/
theorem noise_chain (rm l sp : ByteArray) (t : ByteArray) (es : List En) (k : Nat) (hk : k < es.length) (hsp : sp.data.toList = if es[k].blank then [32] else []) (hl : l.data.toList = lnTxt es[k]) (ht : t.data.toList = noisyT rm.data.toList (es.take k))
    (hs : sp.size ≤ 1) (hls : l.size ≤ 65536) (hrs : rm.size ≤ 300) (hts : t.size ≤ 65536) :
    ∃ t1 t2 t3 t4 t5 t6 t7 t8 : ByteArray,
      (∀ W, (Op.stringOp .add sp ⟨#[40, 32]⟩).run Tryd.prog W = .ok (.string t1) W) ∧
      (∀ W, (Op.stringOp .add t1 l).run Tryd.prog W = .ok (.string t2) W) ∧
      (∀ W, (Op.stringOp .add t2 ⟨#[32, 59]⟩).run Tryd.prog W = .ok (.string t3) W) ∧
      (∀ W, (Op.stringOp .add t3 rm).run Tryd.prog W = .ok (.string t4) W) ∧
      (∀ W, (Op.stringOp .add t4 ⟨#[10, 10, 32, 41, 32, 32, 59]⟩).run Tryd.prog W = .ok (.string t5) W) ∧
      (∀ W, (Op.stringOp .add t5 rm).run Tryd.prog W = .ok (.string t6) W) ∧
      (∀ W, (Op.stringOp .add t6 ⟨#[10, 10]⟩).run Tryd.prog W = .ok (.string t7) W) ∧
      (∀ W, (Op.stringOp .add t t7).run Tryd.prog W = .ok (.string t8) W) ∧ Hid (t8.data.toList = noisyT rm.data.toList (es.take (k + 1))) := by
  have z1 : (⟨#[40, 32]⟩ : ByteArray).size = 2 := rfl
  have z2 : (⟨#[32, 59]⟩ : ByteArray).size = 2 := rfl
  have z3 : (⟨#[10, 10, 32, 41, 32, 32, 59]⟩ : ByteArray).size = 7 := rfl
  have z4 : (⟨#[10, 10]⟩ : ByteArray).size = 2 := rfl
  refine ⟨_, _, _, _, _, _, _, _, fun W => run_string_add_sum (P := Tryd.prog) W _ _ ?_, fun W => run_string_add_sum (P := Tryd.prog) W _ _ ?_, fun W => run_string_add_sum (P := Tryd.prog) W _ _ ?_, fun W => run_string_add_sum (P := Tryd.prog) W _ _ ?_, fun W => run_string_add_sum (P := Tryd.prog) W _ _ ?_, fun W => run_string_add_sum (P := Tryd.prog) W _ _ ?_, fun W => run_string_add_sum (P := Tryd.prog) W _ _ ?_, fun W => run_string_add_sum (P := Tryd.prog) W _ _ ?_, ?_⟩
  all_goals try (first | omega | (simp only [ByteArray.size_append]; omega))
  show _ = _
  rw [noisy_snoc hk]
  simp only [ByteArray.data_append, Array.toList_append, ht, hsp, hl, noise]
  simp
theorem lines_at {es : List En} {t t2 : ByteArray} (hj : joinErr es = 0) (ht : t.data.toList = joinT es) (ht2 : t2.data.toList = Lib.trimSuffix t.data.toList [10]) :
    ∀ i (h : i < es.length), ∃ h2 : i < (Lib.splitB ⟨#[10]⟩ 0 (Lib.countB t2 ⟨#[10]⟩) t2).length, ((Lib.splitB ⟨#[10]⟩ 0 (Lib.countB t2 ⟨#[10]⟩) t2)[i]).data.toList = lnTxt es[i] ∧ ((Lib.splitB ⟨#[10]⟩ 0 (Lib.countB t2 ⟨#[10]⟩) t2)[i]).size ≤ 65536 := by
  intro i h
  have ⟨h1, h2⟩ := join_ok hj
  have hn : es ≠ [] := fun e => by rw [e] at h; cases h
  have hs := split_join h1 hn t ht t2 ht2
  generalize Lib.splitB ⟨#[10]⟩ 0 (Lib.countB t2 ⟨#[10]⟩) t2 = ls at *
  have hlen : ls.length = es.length := by simpa using congrArg List.length hs
  have hi : i < ls.length := by omega
  have he : ls[i].data.toList = lnTxt es[i] := by
    have := congrArg (fun l => l[i]?) hs
    simpa [hi, h] using this
  refine ⟨hi, he, ?_⟩
  have h3 := joinT_take h1 (i + 1)
  rw [joinT_snoc h] at h3
  have h4 : (lnTxt es[i]).length ≤ (enTxt es[i]).length := by unfold lnTxt enTxt; simp
  have h5 := congrArg List.length he
  simp at h5 h3
  omega
set_option maxRecDepth 100000 in
set_option maxHeartbeats 8000000 in
theorem nothingL (xa : Option Addr) (n xc : Nat) (es : List En) (rm : ByteArray) (w : World) (m : Int) (h : LE w ⟨xa, n, xc⟩ es) (hf : Few es) (hrm : rm.size ≤ 1048576) (h0 : 0 < w.heap.size) (hG : w.cell? ⟨0, 0, none⟩ = some (.int .i64 m)) :
    Calls Tryd.prog 3 #[.slice xa n xc, .string rm] w fun e w' => e = .returned (.bool true) ∧ Below w.heap.size w w' := by
  have HR : Hid (LE w ⟨xa, n, xc⟩ es) := h
  have HFW : Hid (Few es) := hf
  have hl : es.length = n := h.1.symm
  have hxc : n ≤ xc := (by have := h.1; have := h.2.1; simp only at *; omega)
  have hxc2 : xc ≤ 9223372036854775807 := h.2.2.1
  have HG : Hid (0 < w.heap.size ∧ w.cell? ⟨0, 0, none⟩ = some (.int .i64 m)) := ⟨h0, hG⟩
  have K10 := Lib.hid (awake10 w)
  clear h hf h0 hG
  go_enter Tryd.func3, Tryd.ntmps3
  go_wp2_with fail
  refine K10.out.mono ?_
  rintro e w1 ⟨rfl, H1⟩
  have K11 := Lib.hid (small5q ⟨xa, n, xc⟩ es w1 (HR.out.below H1.out) HFW.out)
  clear K10
  go_wp2_with fail
  refine K11.out.mono ?_
  rintro e w2 ⟨b, rfl, rfl, hb⟩
  clear K11
  cases b with
  | false =>
    go_wp2_with fail
    go_ret
    exact ⟨rfl, H1.out⟩
  | true =>
    have H30 : Hid (es.length ≤ 30 ∧ lsz es ≤ 2000) := hb rfl
    have K6 := Lib.hid (plain6 rm w2 (by omega))
    clear hb
    go_wp2_with fail
    refine K6.out.mono ?_
    rintro e w3 ⟨b2, rfl, hb2, hbl3⟩
    have HB3 : Hid (Below w.heap.size w w3) := H1.out.trans (hbl3.mono H1.out.size)
    clear K6 hbl3 H1
    cases b2 with
    | false =>
      go_wp2_with fail
      go_ret
      exact ⟨rfl, HB3.out⟩
    | true =>
      have HP : Hid ((∀ x ∈ rm.data.toList, x ≠ 10) ∧ rm.size ≤ 300) := hb2 rfl
      have K7 := Lib.hid (join7 ⟨xa, n, xc⟩ es w3 (HR.out.below HB3.out) (fun e he v hv => by have := (HFW.out.2 e he).2 v hv; omega))
      clear hb2
      go_wp2_with fail
      refine K7.out.mono ?_
      rintro e w4 ⟨t, z, rfl, H4⟩
      clear K7
      have HB4 : Hid (Below w.heap.size w w4) := HB3.out.trans (H4.out.2.2.mono HB3.out.size)
      clear HB3
      by_cases hz : z = 0
      case neg =>
        have hz' : (z != 0) = true := by simpa using hz
        go_wp2_with fail
        go_ret
        exact ⟨rfl, HB4.out⟩
      subst hz
      have HJ : Hid (joinErr es = 0 ∧ (∀ e ∈ es, okE e) ∧ t.data.toList = joinT es ∧ t.size ≤ 65536) := by
        have h1 : joinErr es = 0 := H4.out.2.1.symm
        have ⟨h2, h3⟩ := join_ok h1
        have h4 : t.data.toList = joinT es := by rw [H4.out.1]; unfold joinB; rw [if_pos h1]
        refine ⟨h1, h2, h4, ?_⟩
        have := congrArg List.length h4
        rw [joinT_len h2] at this
        simp at this; omega
      have K9 := Lib.hid (Tryd.strings_TrimSuffix t ⟨#[10]⟩ w4 (by have := HJ.out.2.2.2; omega))
      clear H4
      go_wp2_with fail
      refine K9.out.mono ?_
      rintro e w5 ⟨rfl, rfl⟩
      clear K9
      obtain ⟨t2, ht2⟩ : ∃ t2 : ByteArray, t2 = (⟨(Lib.trimSuffix t.data.toList (⟨#[10]⟩ : ByteArray).data.toList).toArray⟩ : ByteArray) := ⟨_, rfl⟩
      rw [← ht2]
      have HT2 : Hid (t2.data.toList = Lib.trimSuffix t.data.toList [10] ∧ t2.size ≤ 65536) := by
        have h1 : t2.data.toList = Lib.trimSuffix t.data.toList [10] := by rw [ht2]
        refine ⟨h1, ?_⟩
        have := congrArg List.length h1
        have h3 := trim_len t.data.toList [10]
        have h4 := HJ.out.2.2.2
        simp at this h3; omega
      clear ht2
      have K8 := Lib.hid (Tryd.strings_Split t2 ⟨#[10]⟩ m w5 (by have := HT2.out.2; omega) ((HB4.out.cell (p := ⟨0, 0, none⟩) HG.out.1).trans HG.out.2) (by decide))
      go_wp2_with fail
      refine K8.out.mono ?_
      rintro e w6 ⟨rfl, hw6⟩
      clear K8
      obtain ⟨ls, hls⟩ : ∃ ls, ls = Lib.splitB ⟨#[10]⟩ 0 (Lib.countB t2 ⟨#[10]⟩) t2 := ⟨_, rfl⟩
      obtain ⟨N, hN⟩ : ∃ N, N = Lib.countB t2 ⟨#[10]⟩ + 1 := ⟨_, rfl⟩
      have hNl : ls.length = N := by rw [hls, hN]; exact lines_len
      have HLS : Hid (∀ i (h : i < es.length), ∃ h2 : i < ls.length, ls[i].data.toList = lnTxt es[i] ∧ ls[i].size ≤ 65536) := by
        rw [hls]
        exact lines_at HJ.out.1 HJ.out.2.2.1 HT2.out.1
      have HCL : Hid (∀ i (h : i < ls.length), w6.cell? ⟨w5.heap.size, i, none⟩ = some (.string ls[i])) := fun i h => by
        rw [hw6, ← hls]; exact cells_ln w5 ls i h
      have hlt6 : w5.heap.size < w6.heap.size := by rw [hw6]; simp
      have HB6 : Hid (Below w.heap.size w w6) := by
        show Below _ _ _
        rw [hw6]
        exact HB4.out.trans ((alp_below _ _).mono HB4.out.size)
      have hNb : N ≤ 65537 := by
        rw [hN]
        have := Lib.countB_le ⟨#[10]⟩ (by decide) t2.size t2 (Nat.le_refl _)
        have := HT2.out.2
        omega
      rw [← hN]
      clear hw6 hls hN HB4 HT2
      obtain ⟨B6, hB6⟩ : ∃ B6, B6 = w5.heap.size := ⟨_, rfl⟩
      rw [← hB6] at HCL hlt6 ⊢
      clear hB6
      go_wp2_with fail
      go_loopw [9, 10] (fun u y wr => ∃ (k : Nat) (q : ByteArray), k ≤ n ∧ u = .string q ∧ y = .int .i64 (k : Int) ∧ Hid (q.data.toList = noisyT rm.data.toList (es.take k)) ∧ wr = w6) (fun _ y _ => n - (intOf y).toNat)
      case atStart => exact ⟨0, ⟨#[]⟩, Nat.zero_le _, rfl, rfl, rfl, rfl⟩
      case round =>
        obtain ⟨k, q, hk, rfl, rfl, HQ, rfl⟩ := hrel
        have HQZ : Hid (q.size ≤ 65536) := by
          have h1 := noisy_len rm.data.toList (by have := HP.out.2; simpa using this) (es.take k) (fun e he => HJ.out.2.1 e (List.mem_of_mem_take he))
          have h2 := congrArg List.length HQ.out
          have h3 := lsz_take es k
          have h4 := H30.out
          have h5 : (es.take k).length ≤ es.length := by simp; omega
          simp at h2
          show _ ≤ _
          omega
        by_cases hlt : k < n
        · have hlt' : (k : Int) < (n : Int) := by omega
          have hkl : k < es.length := by omega
          obtain ⟨b, o, e0, hbb, y, c0, c1, c2, hy⟩ := (HR.out.below HB6.out).rd.at k hkl
          simp only at e0
          subst e0
          obtain ⟨hkls, hlk, hlz⟩ := HLS.out k hkl
          have hcl := HCL.out k hkls
          have hkN : (k : Int) < (N : Int) := by omega
          have HKN := Lib.hid hlk
          have hsp0 := HQ
          obtain ⟨sp, hsp⟩ : ∃ sp : ByteArray, sp = if es[k].blank then (⟨#[32]⟩ : ByteArray) else ⟨#[]⟩ := ⟨_, rfl⟩
          obtain ⟨t1, t2, t3, t4, t5, t6, t7, t8, s1, s2, s3, s4, s5, s6, s7, s8, HQ2⟩ := noise_chain rm ls[k] sp q es k hkl (by rw [hsp]; split <;> rfl) hlk HQ.out (by rw [hsp]; split <;> decide) hlz HP.out.2 HQZ.out
          generalize ls[k] = l at *
          clear hlk HKN hsp0 hlz hkls HQ HQZ c0 c2 hy
          cases hbk : es[k].blank with
          | true =>
            rw [hbk] at hsp c1
            simp only [if_true] at hsp
            subst hsp
            go_wp2_with fail
            go_roundw
            case rel => exact ⟨k + 1, t8, by omega, rfl, by go_num, HQ2, trivial⟩
            case measure => simp [intOf]; omega
          | false =>
            rw [hbk] at hsp c1
            simp only [Bool.false_eq_true, if_false] at hsp
            subst hsp
            go_wp2_with fail
            go_roundw
            case rel => exact ⟨k + 1, t8, by omega, rfl, by go_num, HQ2, trivial⟩
            case measure => simp [intOf]; omega
        · have hge : ¬ (k : Int) < (n : Int) := by omega
          obtain rfl : k = n := by omega
          have HX : Hid (entsF q.data.toList = .ok (four 1 es)) := by
            show _ = _
            have h1 : es.take k = es := List.take_of_length_le (by omega)
            have h2 := HQ.out
            rw [h1] at h2
            rw [h2]
            refine ents_noisy rm.data.toList HP.out.1 es HJ.out.2.1 ?_
            have h3 := HQZ.out
            have h4 := congrArg List.length h2
            simp at h4
            omega
          have K12 : Hid (Calls Tryd.prog 10 #[.string q] wr (EnP wr (.ok (four 1 es)))) := (by
            have := entries12 q wr
            rw [HX.out] at this
            exact this)
          clear HX HQ HQZ HLS HCL HJ HP
          go_wp2_with fail
          refine K12.out.mono ?_
          rintro e w8 ⟨v, a, b, rfl, H8⟩
          clear K12
          obtain ⟨rfl, rfl, how, hbl⟩ := H8.out
          obtain ⟨y, rfl, hy⟩ := how.le
          have HB8 : Hid (Below w.heap.size w (w8.alloc (.cells #[.int .i64 0, .int .i64 0] 36))) := HB6.out.trans ((hbl.trans ((alp_below _ _).mono hbl.size)).mono HB6.out.size)
          have HY : Hid (LE (w8.alloc (.cells #[.int .i64 0, .int .i64 0] 36)) y (four 1 es)) := hy.below (alp_below _ _)
          have hq : ∀ W, (binOp .neq 36 (.agg #[.int .i64 0, .int .i64 0]) (.agg #[.int .i64 0, .int .i64 0])).run Tryd.prog W = .ok (.bool false) W := fun W => by rw [neqF]; rfl
          obtain ⟨ya, yn, yc⟩ := y
          try simp only at HY
          have hyn : yn = k := by have := HY.out.1; rw [four_len] at this; simp only at this; omega
          subst hyn
          have hyc : yn ≤ yc := by have := HY.out.2.1; rw [four_len] at this; simp only at this; omega
          have hyc2 : yc ≤ 9223372036854775807 := HY.out.2.2.1
          clear H8 how hbl hy
          go_wp2_with fail
          generalize w8.alloc (.cells #[.int .i64 0, .int .i64 0] 36) = w9 at *
          have HR9 : Hid (LE w9 ⟨xa, yn, xc⟩ es) := HR.out.below HB8.out
          clear HR HB6 HG HFW H30
          go_loopw [14] (fun u wr => ∃ j : Nat, j ≤ yn ∧ u = .int .i64 (j : Int) ∧ Hid (Below w9.heap.size w9 wr)) (fun u _ => yn - (intOf u).toNat)
          case atStart => exact ⟨0, Nat.zero_le _, rfl, Below.refl _ _⟩
          case round =>
            obtain ⟨j, hj, rfl, HV⟩ := hrel
            by_cases hlt : j < yn
            · have hlt' : (j : Int) < (yn : Int) := by omega
              have hje : j < es.length := by omega
              have hjf : j < (four 1 es).length := by rw [four_len]; exact hje
              obtain ⟨b1, o1, e1, hb1, y1, _, c1, c2, hy1⟩ := (HY.out.below HV.out).rd.at j hjf
              obtain ⟨b2, o2, e2, hb2, y2, _, d1, d2, hy2⟩ := (HR9.out.below HV.out).rd.at j hje
              have hfa := four_at es 1 j hjf hje
              rw [hfa.1] at c1
              rw [hfa.2] at hy1
              simp only at e1 e2
              subst e1 e2
              have K11 : Hid (∀ N, Calls Tryd.prog 11 #[.slice y1.a y1.n y1.c, .slice y2.a y2.n y2.c] (wr.drewN N) fun e w' => e = .returned (.bool true) ∧ ∃ m, w' = (wr.drewN N).drewN m) := fun N => words27 y1 y2 es[j].ws _ (hy1.below ⟨rfl, rfl, rfl, Nat.le_refl _, fun _ _ => rfl⟩) (hy2.below ⟨rfl, rfl, rfl, Nat.le_refl _, fun _ _ => rfl⟩)
              obtain ⟨y1a, y1n, y1c⟩ := y1
              obtain ⟨y2a, y2n, y2c⟩ := y2
              simp only at *
              clear hfa hy1 hy2 HY HR9
              cases hbk : es[j].blank with
              | true =>
                rw [hbk] at c1 d1
                go_wp2_with fail
                go_quiet (first | (go_at_call 11; with_reducible exact Calls.quiet_of (K11.out _)) | fail)
                go_wp2_with fail
                go_roundw
                case rel => exact ⟨j + 1, by omega, by go_num, blw_dn HV.out _⟩
                case measure => simp [intOf]; omega
              | false =>
                rw [hbk] at c1 d1
                go_wp2_with fail
                go_quiet (first | (go_at_call 11; with_reducible exact Calls.quiet_of (K11.out _)) | fail)
                go_wp2_with fail
                go_roundw
                case rel => exact ⟨j + 1, by omega, by go_num, blw_dn HV.out _⟩
                case measure => simp [intOf]; omega
            · have hge : ¬ (j : Int) < (yn : Int) := by omega
              go_wp2_with fail
              go_ret
              exact ⟨rfl, HB8.out.trans (HV.out.mono HB8.out.size)⟩
end Go.Proofs.YtgdkeafjglcgaaaDoor
