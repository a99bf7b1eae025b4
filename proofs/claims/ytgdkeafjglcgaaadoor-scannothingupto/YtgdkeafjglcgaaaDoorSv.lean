/- Join. -/
import Derived.Test.YtgdkeafjglcgaaaDoorSt
import Derived.Test.YtgdkeafjglcgaaaDoorSu
namespace Go.Proofs.YtgdkeafjglcgaaaDoor
open Go.ChangeShapes Go.WideShapes Go.ChangeAt Go.RowKit
set_option linter.unusedVariables false
set_option linter.unusedSimpArgs false


theorem asks18 : AsksW 16 (fun v => decide (wsz v ≤ 65536)) (fun v => v.1.size ≤ 4611686018427387904) := fun v W h => short18 v W h
theorem asks20 : AsksW 18 goodW (fun v => wsz v ≤ 65536) := fun v W h => could20 v W h
/-- What Join answers. -/
def JnP (w0 : World) (es : List En) (e : Ending) (w' : World) : Prop :=
  ∃ t : ByteArray, ∃ z : Int, e = .returned (.tuple #[.string t, .int .i64 z]) ∧ Hid (t.data.toList = joinB es ∧ z = joinErr es ∧ Below w0.heap.size w0 w')
theorem joinT_snoc {es : List En} {k : Nat} (h : k < es.length) : joinT (es.take (k + 1)) = joinT (es.take k) ++ enTxt es[k] := by
  rw [List.take_succ_eq_append_getElem h]; simp only [joinT, List.flatMap_append, List.flatMap_cons, List.flatMap_nil, List.append_nil]
theorem joinT_take {es : List En} (h : ∀ e ∈ es, okE e) (k : Nat) : (joinT (es.take k)).length ≤ tsz es := by
  rw [joinT_len (fun e he => h e (List.mem_of_mem_take he))]; exact tsz_take es k
set_option maxRecDepth 100000 in
set_option maxHeartbeats 4000000 in
theorem join7 (x : Sl) (es : List En) (w : World) (h : LE w x es) (hsz : ∀ e ∈ es, ∀ v ∈ e.ws, v.1.size ≤ 4611686018427387904) : Calls Tryd.prog 7 #[.slice x.a x.n x.c] w (JnP w es) := by
  have HR : Hid (LE w x es) := h
  have K18 : Hid (Calls Tryd.prog 15 #[.slice x.a x.n x.c, .func (.func 16) #[] #[]] w fun e w' => e = .returned (.bool (es.all fun e => e.ws.all fun v => decide (wsz v ≤ 65536))) ∧ Hid (Below w.heap.size w w')) := each17_18 _ _ asks18 x es w h hsz
  have hl := h.1.symm
  have hcap : x.n ≤ x.c := (by have := h.1; have := h.2.1; omega)
  have hcap2 := h.2.2.1
  clear h hsz
  obtain ⟨sa, n, sc⟩ := x
  simp only at *
  cases hA1 : (es.all fun e => e.ws.all fun v => decide (wsz v ≤ 65536)) with
  | false =>
    have HJ : Hid (joinErr es = 3 ∧ joinB es = []) := (by
      have : joinErr es = 3 := by unfold joinErr; rw [hA1]; rfl
      exact ⟨this, by unfold joinB; rw [this]; rfl⟩)
    simp only [hA1] at K18
    clear hA1
    go_enter Tryd.func7, Tryd.ntmps7
    go_wp2_with fail
    refine K18.out.mono ?_
    rintro e w1 ⟨rfl, H1⟩
    go_wp2_with fail
    go_ret2
    exact ⟨_, _, rfl, HJ.out.2.symm, HJ.out.1.symm, H1.out⟩
  | true =>
    have HZ : Hid (∀ e ∈ es, ∀ v ∈ e.ws, wsz v ≤ 65536) := fun e he v hv => by
      rw [List.all_eq_true] at hA1
      have := hA1 e he
      rw [List.all_eq_true] at this
      have := this v hv
      simpa using this
    have K19 : Hid (∀ W, Below w.heap.size w W → Calls Tryd.prog 17 #[.slice sa n sc] W fun e w' => e = .returned (.bool (!(es.any fun e => e.ws.isEmpty))) ∧ Hid (Below W.heap.size W w')) := fun W hW => has19 ⟨sa, n, sc⟩ es W (HR.out.below hW)
    have K20 : Hid (∀ W, Below w.heap.size w W → Calls Tryd.prog 15 #[.slice sa n sc, .func (.func 18) #[] #[]] W fun e w' => e = .returned (.bool (es.all fun e => e.ws.all goodW)) ∧ Hid (Below W.heap.size W w')) := fun W hW => each17_20 _ _ asks20 ⟨sa, n, sc⟩ es W (HR.out.below hW) HZ.out
    simp only [hA1] at K18
    cases hA2 : (es.any fun e => e.ws.isEmpty) with
    | true =>
      have HJ : Hid (joinErr es = 230 ∧ joinB es = []) := (by
        have : joinErr es = 230 := by unfold joinErr; rw [hA1, hA2]; rfl
        exact ⟨this, by unfold joinB; rw [this]; rfl⟩)
      simp only [hA2] at K19
      clear hA1 hA2
      go_enter Tryd.func7, Tryd.ntmps7
      go_wp2_with fail
      refine K18.out.mono ?_
      rintro e w1 ⟨rfl, H1⟩
      go_wp2_with fail
      refine (K19.out _ H1.out).mono ?_
      rintro e w2 ⟨rfl, H2⟩
      have HB2 : Hid (Below w.heap.size w w2) := H1.out.trans (H2.out.mono H1.out.size)
      go_wp2_with fail
      go_ret2
      exact ⟨_, _, rfl, HJ.out.2.symm, HJ.out.1.symm, HB2.out⟩
    | false =>
      simp only [hA2] at K19
      cases hA3 : (es.all fun e => e.ws.all goodW) with
      | false =>
        have HJ : Hid (joinErr es = 230 ∧ joinB es = []) := (by
          have : joinErr es = 230 := by unfold joinErr; rw [hA1, hA2, hA3]; rfl
          exact ⟨this, by unfold joinB; rw [this]; rfl⟩)
        simp only [hA3] at K20
        clear hA1 hA2 hA3
        go_enter Tryd.func7, Tryd.ntmps7
        go_wp2_with fail
        refine K18.out.mono ?_
        rintro e w1 ⟨rfl, H1⟩
        go_wp2_with fail
        refine (K19.out _ H1.out).mono ?_
        rintro e w2 ⟨rfl, H2⟩
        have HB2 : Hid (Below w.heap.size w w2) := H1.out.trans (H2.out.mono H1.out.size)
        go_wp2_with fail
        refine (K20.out _ HB2.out).mono ?_
        rintro e w3 ⟨rfl, H3⟩
        have HB3 : Hid (Below w.heap.size w w3) := HB2.out.trans (H3.out.mono HB2.out.size)
        go_wp2_with fail
        go_ret2
        exact ⟨_, _, rfl, HJ.out.2.symm, HJ.out.1.symm, HB3.out⟩
      | true =>
        have HGW : Hid (∀ e ∈ es, ∀ v ∈ e.ws, goodW v = true) := fun e he v hv => by
          rw [List.all_eq_true] at hA3
          have := hA3 e he
          rw [List.all_eq_true] at this
          exact this v hv
        simp only [hA3] at K20
        have K21 : Hid (∀ W, Below w.heap.size w W → Calls Tryd.prog 19 #[.slice sa n sc] W fun e w' => e = .returned (.bool (es.any fun e => decide (64 < e.ws.length))) ∧ Hid (Below W.heap.size W w')) := fun W hW => many21 ⟨sa, n, sc⟩ es W (HR.out.below hW)
        cases hA4 : (es.any fun e => decide (64 < e.ws.length)) with
        | true =>
          have HJ : Hid (joinErr es = 3 ∧ joinB es = []) := (by
            have : joinErr es = 3 := by unfold joinErr; rw [hA1, hA2, hA3, hA4]; rfl
            exact ⟨this, by unfold joinB; rw [this]; rfl⟩)
          simp only [hA4] at K21
          clear hA1 hA2 hA3 hA4
          go_enter Tryd.func7, Tryd.ntmps7
          go_wp2_with fail
          refine K18.out.mono ?_
          rintro e w1 ⟨rfl, H1⟩
          go_wp2_with fail
          refine (K19.out _ H1.out).mono ?_
          rintro e w2 ⟨rfl, H2⟩
          have HB2 : Hid (Below w.heap.size w w2) := H1.out.trans (H2.out.mono H1.out.size)
          go_wp2_with fail
          refine (K20.out _ HB2.out).mono ?_
          rintro e w3 ⟨rfl, H3⟩
          have HB3 : Hid (Below w.heap.size w w3) := HB2.out.trans (H3.out.mono HB2.out.size)
          go_wp2_with fail
          refine (K21.out _ HB3.out).mono ?_
          rintro e w4 ⟨rfl, H4⟩
          have HB4 : Hid (Below w.heap.size w w4) := HB3.out.trans (H4.out.mono HB3.out.size)
          go_wp2_with fail
          go_ret2
          exact ⟨_, _, rfl, HJ.out.2.symm, HJ.out.1.symm, HB4.out⟩
        | false =>
          have H64 : Hid (∀ e ∈ es, e.ws.length ≤ 64) := fun e he => by
            rw [List.any_eq_false] at hA4
            have := hA4 e he
            simpa using this
          simp only [hA4] at K21
          have K22 : Hid (∀ W, Below w.heap.size w W → Calls Tryd.prog 20 #[.slice sa n sc] W fun e w' => e = .returned (.bool (decide (tsz es ≤ 65536))) ∧ Hid (Below W.heap.size W w')) := fun W hW => tshort22 ⟨sa, n, sc⟩ es W (HR.out.below hW) H64.out HZ.out
          by_cases hA5 : tsz es ≤ 65536
          · have HJE : Hid (joinErr es = 0) := (by show _ = _; unfold joinErr; rw [hA1, hA2, hA3, hA4]; simp; exact hA5)
            have HJB : Hid (joinB es = joinT es) := (by show _ = _; unfold joinB; rw [HJE.out]; rfl)
            have HOK : Hid (∀ e ∈ es, okE e) := (join_ok HJE.out).1
            have HTZ : Hid (tsz es ≤ 65536) := hA5
            simp only [hA5, decide_true] at K22
            clear hA1 hA2 hA3 hA4 hA5
            go_enter Tryd.func7, Tryd.ntmps7
            go_wp2_with fail
            refine K18.out.mono ?_
            rintro e w1 ⟨rfl, H1⟩
            go_wp2_with fail
            refine (K19.out _ H1.out).mono ?_
            rintro e w2 ⟨rfl, H2⟩
            have HB2 : Hid (Below w.heap.size w w2) := H1.out.trans (H2.out.mono H1.out.size)
            go_wp2_with fail
            refine (K20.out _ HB2.out).mono ?_
            rintro e w3 ⟨rfl, H3⟩
            have HB3 : Hid (Below w.heap.size w w3) := HB2.out.trans (H3.out.mono HB2.out.size)
            go_wp2_with fail
            refine (K21.out _ HB3.out).mono ?_
            rintro e w4 ⟨rfl, H4⟩
            have HB4 : Hid (Below w.heap.size w w4) := HB3.out.trans (H4.out.mono HB3.out.size)
            go_wp2_with fail
            refine (K22.out _ HB4.out).mono ?_
            rintro e w5 ⟨rfl, H5⟩
            have HB5 : Hid (Below w.heap.size w w5) := HB4.out.trans (H5.out.mono HB4.out.size)
            have HGF : Hid (GS w5.heap.size (w5.alloc (.cells #[.pointer none, .slice none 0 0] 51)) w5.heap.size (Lib.byteCells [])) := GS.fresh w5
            have HB6 : Hid (Below w.heap.size w (w5.alloc (.cells #[.pointer none, .slice none 0 0] 51))) := HB5.out.alloc HB5.out.size _
            clear K18 K19 K20 K21 K22 H1 H2 H3 H4 H5 HB2 HB3 HB4
            go_wp2_with fail
            have hws := HB5.out.size
            generalize w5.alloc (.cells #[.pointer none, .slice none 0 0] 51) = w6 at *
            generalize w5.heap.size = B at *
            go_loopw [27] (fun y wr => ∃ k : Nat, k ≤ n ∧ y = .int .i64 (k : Int) ∧ Hid (GS B wr B (Lib.byteCells (joinT (es.take k))) ∧ Below w.heap.size w wr)) (fun y _ => n - (intOf y).toNat)
            case atStart => exact ⟨0, Nat.zero_le _, rfl, HGF.out, HB6.out⟩
            case round =>
              obtain ⟨k, hk, rfl, HV⟩ := hrel
              by_cases hlt : k < n
              · have hlt' : (k : Int) < (n : Int) := by omega
                have hkl : k < es.length := by omega
                obtain ⟨b, o, e0, hbb, y, c0, c1, c2, hy⟩ := HR.out.rd.at k hkl
                simp only at e0
                subst e0
                have d0 : wr.cell? ⟨b, o + k * 3, none⟩ = some (.int .i64 es[k].line) := (HV.out.2.cell (p := ⟨b, o + k * 3, none⟩) hbb).trans c0
                have d1 : wr.cell? ⟨b, o + k * 3 + 1, none⟩ = some (.bool es[k].blank) := (HV.out.2.cell (p := ⟨b, o + k * 3 + 1, none⟩) hbb).trans c1
                have d2 : wr.cell? ⟨b, o + k * 3 + 2, none⟩ = some (.slice y.a y.n y.c) := (HV.out.2.cell (p := ⟨b, o + k * 3 + 2, none⟩) hbb).trans c2
                have hbw := Nat.lt_of_lt_of_le hbb HV.out.2.size
                have hwb : w.heap.size ≤ wr.heap.size := HV.out.2.size
                have HBQ : Hid (Below w.heap.size w (wr.alloc (.cells #[.int .i64 es[k].line, .bool es[k].blank, .slice y.a y.n y.c] 34))) := HV.out.2.alloc hwb _
                have K23 := Lib.hid (write23 B B (joinT (es.take k)) y es[k] (wr.alloc (.cells #[.int .i64 es[k].line, .bool es[k].blank, .slice y.a y.n y.c] 34)) (HV.out.1.go (alp_below _ _)) (Nat.le_refl _) (fun W hW => hy.below (HBQ.out.trans (hW.mono hws))) (H64.out _ (List.getElem_mem hkl)) (HGW.out _ (List.getElem_mem hkl)) (HZ.out _ (List.getElem_mem hkl)) (by have := joinT_take HOK.out k; have := HTZ.out; omega))
                rw [← joinT_snoc hkl] at K23
                clear c0 c1 c2 hy
                obtain ⟨ya, yn, yc⟩ := y
                simp only at d2 K23 HBQ
                generalize es[k] = en at *
                go_wp2_with fail
                refine K23.out.mono ?_
                rintro e w7 ⟨rfl, H7⟩
                have HB7 : Hid (Below w.heap.size w w7) := HBQ.out.trans (H7.out.2.mono hws)
                go_wp2_with fail
                go_round
                case rel => exact ⟨k + 1, by omega, by go_num, H7.out.1, HB7.out⟩
                case measure => simp [intOf]; omega
              · have hge : ¬ (k : Int) < (n : Int) := by omega
                have HGE : Hid (GS B wr B (Lib.byteCells (joinT es))) := (by show GS _ _ _ _; have := HV.out.1; rw [List.take_of_length_le (by omega)] at this; exact this)
                have hjl : (joinT es).length ≤ 65536 := by have := joinT_len HOK.out; have := HTZ.out; omega
                have K24 := Lib.hid (wstring B B (joinT es) wr HGE.out (by omega))
                go_wp2_with fail
                refine K24.out.mono ?_
                rintro e w7 ⟨rfl, H7⟩
                go_wp2_with fail
                go_ret2
                exact ⟨_, _, rfl, HJB.out.symm, HJE.out.symm, HV.out.2.trans (H7.out.mono hws)⟩
          · have HJ : Hid (joinErr es = 3 ∧ joinB es = []) := (by
              have : joinErr es = 3 := by unfold joinErr; rw [hA1, hA2, hA3, hA4]; simp; omega
              exact ⟨this, by unfold joinB; rw [this]; rfl⟩)
            simp only [hA5, decide_false] at K22
            clear hA1 hA2 hA3 hA4 hA5
            go_enter Tryd.func7, Tryd.ntmps7
            go_wp2_with fail
            refine K18.out.mono ?_
            rintro e w1 ⟨rfl, H1⟩
            go_wp2_with fail
            refine (K19.out _ H1.out).mono ?_
            rintro e w2 ⟨rfl, H2⟩
            have HB2 : Hid (Below w.heap.size w w2) := H1.out.trans (H2.out.mono H1.out.size)
            go_wp2_with fail
            refine (K20.out _ HB2.out).mono ?_
            rintro e w3 ⟨rfl, H3⟩
            have HB3 : Hid (Below w.heap.size w w3) := HB2.out.trans (H3.out.mono HB2.out.size)
            go_wp2_with fail
            refine (K21.out _ HB3.out).mono ?_
            rintro e w4 ⟨rfl, H4⟩
            have HB4 : Hid (Below w.heap.size w w4) := HB3.out.trans (H4.out.mono HB3.out.size)
            go_wp2_with fail
            refine (K22.out _ HB4.out).mono ?_
            rintro e w5 ⟨rfl, H5⟩
            have HB5 : Hid (Below w.heap.size w w5) := HB4.out.trans (H5.out.mono HB4.out.size)
            go_wp2_with fail
            go_ret2
            exact ⟨_, _, rfl, HJ.out.2.symm, HJ.out.1.symm, HB5.out⟩
end Go.Proofs.YtgdkeafjglcgaaaDoor
