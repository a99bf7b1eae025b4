/- A word is put to the entry. -/
import Derived.Test.YtgdkeafjglcgaaaDoorSh
namespace Go.Proofs.YtgdkeafjglcgaaaDoor
open Go.ChangeShapes Go.WideShapes Go.ChangeAt Go.RowKit
set_option linter.unusedVariables false
set_option linter.unusedSimpArgs false


/-- The bytes of a word that is read: from its start up to here. -/
def CurS (s : ByteArray) (q : Cf) (start p : Nat) : Prop := start ≤ p ∧ p ≤ s.size ∧ q.cur = (s.data.toList.take p).drop start
theorem cur_text {s : ByteArray} {q : Cf} {start p : Nat} (h : CurS s q start p) : (⟨q.cur.toArray⟩ : ByteArray) = s.extract start p := by
  obtain ⟨h1, h2, h3⟩ := h
  apply ByteArray.ext
  rw [h3]
  have e : (s.extract start p).data = s.data.extract start p := by simp [ByteArray.data_extract]
  rw [e]
  apply Array.ext'
  rw [Array.toList_extract]
  simp [List.extract, List.drop_take]
theorem RS.wordSet {B R : Nat} {w0 : Fx} {w : World} {s : ByteArray} {q : Cf} {start : Nat} {wv ev : Value} {wS : World} (h : RS B R w0 w s q start wv ev wS) (z : Int) : RS B R w0 (w.setCell ⟨R, 4, none⟩ (.int .i64 z)) s { q with el := z } start wv ev wS :=
  ⟨h.bx.p4 z, h.ow, h.si.set h.bx.not_lst 4 _, row_set57 h.wo (.inr rfl) h.bx.not_lst 4 _, h.br, h.bl.set h.br h.bx 4 _⟩
theorem RS.go {B R : Nat} {w0 : Fx} {w w' : World} {s : ByteArray} {q : Cf} {start : Nat} {wv ev : Value} {wS : World} (h : RS B R w0 w s q start wv ev wS) (hb : Below w.heap.size w w') : RS B R w0 w' s q start wv ev wS :=
  ⟨h.bx.same (hb.block R h.bx.lt), h.ow, h.si.below hb, row_stays h.wo (fun g hg => hb.block g (h.wo.lt g hg).2), h.br, h.bl.go hb (by have := h.br; have := h.bx.lt; omega)⟩
set_option maxRecDepth 100000 in
set_option maxHeartbeats 4000000 in
/-- The last part: the text is copied, the word put behind the others. -/
theorem RS.pushW {B R : Nat} {w0 : Fx} {w w4 : World} {s : ByteArray} {q : Cf} {start : Nat} {wv ev v' : Value} {wS : World} (h : RS B R w0 w s q start wv ev wS) (t : ByteArray) (k : Bool) (h5 : w4.ownsRow wS.heap.size 44 2 v' (q.ws.length + 1) (cellsW q.ws ++ cellsW [(t, k)])) (h6 : (w.alloc (.cells #[.string t, .bool k] 44)).grownBy w4 wv.ownBlock) :
    Bx w4 R s q.line q.op start q.el q.bl wv ev ∧ RS B R w0 (w4.setCell ⟨R, 6, none⟩ v') s { q with ws := q.ws ++ [(t, k)] } start v' ev wS := by
  have ha := h.go (al_below w (.cells #[.string t, .bool k] 44))
  have hne : some R ≠ wv.ownBlock := fun e => by
    obtain ⟨cur, hc⟩ := row_type ha.wo R e.symm
    exact ha.bx.not_lst ⟨cur, 44, hc, .inr rfl⟩
  have b4 : Bx w4 R s q.line q.op start q.el q.bl wv ev := ha.bx.same (h6.block R ha.bx.lt hne)
  refine ⟨b4, b4.p6 v', h.ow, (ha.si.grown h6 (fun k e => (ha.wo.lt k e).1)).set b4.not_lst 6 _, ?_, h.br, ?_⟩
  · have : w4.ownsRow wS.heap.size 44 2 v' (q.ws ++ [(t, k)]).length (cellsW (q.ws ++ [(t, k)])) := by
      rw [cellsW_app, List.length_append]; exact h5
    exact row_set57 this (.inr rfl) b4.not_lst 6 _
  · have hB : B ≤ wS.heap.size := h.si.1
    exact (ha.bl.grown h6 (Nat.le_trans hB (ha.si.2.1)) (fun k e => ⟨Nat.le_trans hB (ha.wo.lt k e).1, by
      obtain ⟨cur, hc⟩ := row_type ha.wo k e
      exact ⟨cur, 44, hc, .inr rfl⟩⟩)).set h.br b4 6 _
def KpP (B R : Nat) (w0 : Fx) (s : ByteArray) (q : Cf) (start : Nat) (k : Bool) (e : Ending) (w' : World) : Prop :=
  ∃ er : Nat, e = .returned (.int .i64 er) ∧ Hid ((keepF q k = none ∧ er = 3 ∧ ∃ wv ev wS, RS B R w0 w' s q start wv ev wS) ∨ (er = 0 ∧ ∃ q', keepF q k = some q' ∧ ∃ wv ev wS, RS B R w0 w' s q' start wv ev wS))
set_option maxRecDepth 100000 in
set_option maxHeartbeats 4000000 in
theorem keep64 (B R : Nat) (w0 : Fx) (w : World) (s : ByteArray) (q : Cf) (start : Nat) (wv ev : Value) (wS : World) (p : Nat) (k : Bool) (h : RS B R w0 w s q start wv ev wS) (hw : q.ws.length ≤ 64) (hc : CurS s q start p) (hs : s.size ≤ 1000000) :
    Calls Tryd.prog 59 #[.pointer (some ⟨R, 0, none⟩), .int .i64 p, .bool k] w (KpP B R w0 s q start k) := by
  obtain ⟨⟨xa, xn, xc⟩, rfl, hW⟩ := row_wrd h.wo
  have hn := hW.1
  simp only at hn h
  subst hn
  have c6 := h.bx.c6
  by_cases h64 : q.ws.length = 64
  · have HR := Lib.hid h
    have HK : Hid (keepF q k = none) := (by show keepF q k = none; simp [keepF, h64])
    rw [h64] at c6
    clear h hW hc
    go_enter Tryd.func59, Tryd.ntmps59
    go_wp2_with fail
    go_ret
    exact ⟨3, rfl, .inl ⟨HK.out, rfl, _, _, _, HR.out⟩⟩
  · have HK : Hid (keepF q k = some { q with el := if q.ws.isEmpty then q.line else q.el, ws := q.ws ++ [(s.extract start p, k)] }) := (by
      show keepF q k = _
      simp only [keepF, if_neg h64, addW, cur_text hc])
    have hst : start ≤ p := hc.1
    have hps : p ≤ s.size := hc.2.1
    have hst' : (start : Int) ≤ (p : Int) := by omega
    have hps' : (p : Int) ≤ (s.size : Int) := by omega
    have K73 : Hid (∀ w, Calls Tryd.prog 70 #[.string (s.extract start p)] w fun e w' => e = .returned (.string (s.extract start p)) ∧ Hid (Below w.heap.size w w')) := fun w => clone73 _ w (by simp; omega)
    obtain ⟨i27, hi, hz0, hz1, hz2⟩ := inf27
    have HI : Hid (Tryd.prog.info? 44 = some i27 ∧ i27.zero = some (.agg #[.string ⟨#[]⟩, .bool false]) ∧ i27.size = 2 ∧ i27.bytes = 24) := ⟨hi, hz0, hz1, hz2⟩
    have hn64 : ¬ (q.ws.length : Int) = 64 := by omega
    have hn64b : ((q.ws.length : Int) == 64) = false := by simpa using hn64
    have hx64 : q.ws.length < 64 := by omega
    clear hi hz0 hz1 hz2 hW hc h64 hw
    -- what stands behind the first two lines
    have REST : ∀ (W : World) (q1 : Cf), q1.ws = q.ws → RS B R w0 W s q1 start (.slice xa q.ws.length xc) ev wS → ∀ (W2 : World), Below W.heap.size W W2 → ∀ (w4 : World) (v' : Value), w4.ownsRow wS.heap.size 44 2 v' (q.ws.length + 1) (cellsW q.ws ++ cellsW [(s.extract start p, k)]) → (W2.alloc (.cells #[.string (s.extract start p), .bool k] 44)).grownBy w4 (Value.slice xa q.ws.length xc).ownBlock → Bx w4 R s q1.line q1.op start q1.el q1.bl (.slice xa q.ws.length xc) ev ∧ RS B R w0 (w4.setCell ⟨R, 6, none⟩ v') s { q1 with ws := q.ws ++ [(s.extract start p, k)] } start v' ev wS := by
      intro W q1 e1 hW W2 hb w4 v' h5 h6
      have := (hW.go hb).pushW (s.extract start p) k (w4 := w4) (v' := v') (by rw [e1]; exact h5) h6
      rw [e1] at this
      exact this
    have HREST := Lib.hid REST
    clear REST
    have hB : wS.heap.size ≤ w.heap.size := h.si.2.1
    by_cases h0 : q.ws = []
    · have hx0 : q.ws.length = 0 := by rw [h0]; rfl
      have HZ := Lib.hid h0
      have HZL := Lib.hid hx0
      rw [hx0] at h c6 HREST
      have HW := Lib.hid (h.wordSet (q.line : Int))
      have c1 := h.bx.c1
      have c4 := h.bx.c4
      have f4 := h.bx.fz 4
      have hlt := h.bx.lt
      have d0 := HW.out.bx.c0
      have d3 := HW.out.bx.c3
      have hla := HW.out.bx.lt
      have HE0 : Hid (Below (w.setCell ⟨R, 4, none⟩ (.int .i64 (q.line : Int))).heap.size (w.setCell ⟨R, 4, none⟩ (.int .i64 (q.line : Int))) (w.setCell ⟨R, 4, none⟩ (.int .i64 (q.line : Int))).drew) := ((Below.refl _ _).drew)
      clear h h0
      clear hx0 hn64 hn64b hx64
      go_enter Tryd.func59, Tryd.ntmps59
      go_wp2_with fail
      generalize w.setCell ⟨R, 4, none⟩ (.int .i64 (q.line : Int)) = wa at *
      go_region_held3 (fun W => W.cell? ⟨R, 0, none⟩ = some (.string s) ∧ W.cell? ⟨R, 3, none⟩ = some (.int .i64 start)) (first | exact ⟨d0, d3⟩ | exact ⟨(HB1.out.cell (p := ⟨R, 0, none⟩) hla).trans d0, (HB1.out.cell (p := ⟨R, 3, none⟩) hla).trans d3⟩) (first
        | (go_simp; go_at_call 70; refine (K73.out _).mono ?_; rintro e w1 ⟨rfl, HB1⟩)
        | fail)
      all_goals
        have HB2 : Hid (Below wa.heap.size wa w1) := HE0.out.trans HB1.out
        have HW1 := Lib.hid (HW.out.go HB2.out)
        have g6 := HW1.out.bx.c6
        have HO := Lib.hid (HW1.out.wo.alloc (.cells #[.string (s.extract start p), .bool k] 44))
        have hB1 : wS.heap.size ≤ w1.heap.size := HW1.out.si.2.1
        have HN1 := Lib.hid (one_termw w1 (s.extract start p) k)
        clear HB1
        go_wp2_with (at_builtin; go_loud (refine wpList_append_own _ rfl _ _ 32 rfl wS.heap.size 44 i27 _ 2 24 Tryd.underlying32 HI.out.1 HI.out.2.1 HI.out.2.2.1 HI.out.2.2.2 rfl (by omega) _ 0 (cellsW q.ws) rfl (by have t := HO.out; rw [show ({ q with el := (q.line : Int) } : Cf).ws.length = 0 from HZL.out] at t; exact t) ⟨w1.heap.size, 0, none⟩ 1 1 (cellsW [(s.extract start p, k)]) rfl rfl HN1.out (cellsW_one _) (by simp only [maxLen]; omega) (by omega) (by simp; omega) ?_); intro v' w4 h5 h6 h7; obtain ⟨g', cap', rfl, _, _⟩ := h5.form (by omega); have HF := Lib.hid (HREST.out wa { q with el := (q.line : Int) } rfl HW.out w1 HB2.out w4 _ h5 h6); have k6 := HF.out.1.c6; have kz := HF.out.1.fz 6; have kl := HF.out.1.lt; clear h5 h6 h7)
        go_ret
        have he : q.ws.isEmpty = true := by rw [HZ.out]; rfl
        simp only [he, if_true] at HK
        exact ⟨0, rfl, .inr ⟨rfl, _, HK.out, _, _, _, HF.out.2⟩⟩
    · have HNE := Lib.hid h0
      have hx0 : ¬ (q.ws.length : Int) = 0 := by
        have : q.ws.length ≠ 0 := fun e => h0 (List.length_eq_zero_iff.1 e)
        omega
      have hx0b : ((q.ws.length : Int) == 0) = false := by simpa using hx0
      have HW := Lib.hid h
      have d0 := h.bx.c0
      have d3 := h.bx.c3
      have hla := h.bx.lt
      have HE0 : Hid (Below w.heap.size w w.drew) := ((Below.refl _ _).drew)
      clear h h0
      go_enter Tryd.func59, Tryd.ntmps59
      go_wp2_with fail
      go_region_held3 (fun W => W.cell? ⟨R, 0, none⟩ = some (.string s) ∧ W.cell? ⟨R, 3, none⟩ = some (.int .i64 start)) (first | exact ⟨d0, d3⟩ | exact ⟨(HB1.out.cell (p := ⟨R, 0, none⟩) hla).trans d0, (HB1.out.cell (p := ⟨R, 3, none⟩) hla).trans d3⟩) (first
        | (go_simp; go_at_call 70; refine (K73.out _).mono ?_; rintro e w1 ⟨rfl, HB1⟩)
        | fail)
      all_goals
        have HB2 : Hid (Below w.heap.size w w1) := HE0.out.trans HB1.out
        have HW1 := Lib.hid (HW.out.go HB2.out)
        have g6 := HW1.out.bx.c6
        have HO := Lib.hid (HW1.out.wo.alloc (.cells #[.string (s.extract start p), .bool k] 44))
        have hB1 : wS.heap.size ≤ w1.heap.size := HW1.out.si.2.1
        have HN1 := Lib.hid (one_termw w1 (s.extract start p) k)
        clear HB1
        go_wp2_with (at_builtin; go_loud (refine wpList_append_own _ rfl _ _ 32 rfl wS.heap.size 44 i27 _ 2 24 Tryd.underlying32 HI.out.1 HI.out.2.1 HI.out.2.2.1 HI.out.2.2.2 rfl (by omega) _ q.ws.length (cellsW q.ws) rfl HO.out ⟨w1.heap.size, 0, none⟩ 1 1 (cellsW [(s.extract start p, k)]) rfl rfl HN1.out (cellsW_one _) (by simp only [maxLen]; omega) (by omega) (by simp; omega) ?_); intro v' w4 h5 h6 h7; obtain ⟨g', cap', rfl, _, _⟩ := h5.form (by omega); have HF := Lib.hid (HREST.out w q rfl HW.out w1 HB2.out w4 _ h5 h6); have k6 := HF.out.1.c6; have kz := HF.out.1.fz 6; have kl := HF.out.1.lt; clear h5 h6 h7)
        go_ret
        have he : q.ws.isEmpty = false := by
          cases hq : q.ws with
          | nil => exact absurd hq HNE.out
          | cons => rfl
        simp only [he, Bool.false_eq_true, if_false] at HK
        exact ⟨0, rfl, .inr ⟨rfl, _, HK.out, _, _, _, HF.out.2⟩⟩
end Go.Proofs.YtgdkeafjglcgaaaDoor
