/- The document's reading: a word comes into the entry. -/
import Derived.Test.YtgdkeafjglcgaaaDb
import Derived.Test.YtgdkeafjglcgaaaSi
namespace Go.Proofs.Ytgdkeafjglcgaaa
open Go.ChangeShapes Go.WideShapes Go.ChangeAt Go.RowKit
set_option linter.unusedVariables false
set_option linter.unusedSimpArgs false

structure DS (B X : Nat) (w0 w : World) (s : ByteArray) (q : Cf) (p : Nat) (wv ev : Value) (wS : World) (fl : Int) : Prop where
  bx : Dx w X s p q.line (q.op : Int) q.bl q.el false wv ev 0 fl
  ow : OwE B wS ev q.es
  si : Since B wS w
  wo : w.ownsRow wS.heap.size 27 2 wv q.ws.length (cellsW q.ws)
  br : B ≤ X
  bl : Below B w0 w
/-- A reading that has met a fault. -/
def DF (B X : Nat) (w0 w : World) (s : ByteArray) : Prop := ∃ (p ln : Nat) (op : Int) (bl : Bool) (el : Int) (eb : Bool) (wv ev : Value) (fe fl : Int), Dx w X s p ln op bl el eb wv ev fe fl ∧ fe ≠ 0 ∧ B ≤ X ∧ Below B w0 w
section
variable {B X : Nat} {w0 w w' : World} {s : ByteArray} {q : Cf} {p : Nat} {wv ev : Value} {wS : World} {fl : Int}
theorem DS.lt (h : DS B X w0 w s q p wv ev wS fl) : B ≤ w.heap.size := by have := h.br; have := h.bx.lt; omega
theorem DS.go (h : DS B X w0 w s q p wv ev wS fl) (hb : Below w.heap.size w w') : DS B X w0 w' s q p wv ev wS fl :=
  ⟨h.bx.same (hb.block X h.bx.lt), h.ow, h.si.below hb, row_stays h.wo (fun g hg => hb.block g (h.wo.lt g hg).2), h.br, h.bl.trans (hb.mono h.lt)⟩
theorem DS.only {q' : Cf} {p' : Nat} {fl' : Int} (h : DS B X w0 w s q p wv ev wS fl) (hg : Onl X w w') (hd : Dx w' X s p' q'.line (q'.op : Int) q'.bl q'.el false wv ev 0 fl') (he : q'.es = q.es) (hw : q'.ws = q.ws) : DS B X w0 w' s q' p' wv ev wS fl' := by
  have hne : ∀ j, lst w j → j ≠ X := fun j hj e => h.bx.not_lst (e ▸ hj)
  refine ⟨hd, by rw [he]; exact h.ow, ⟨h.si.1, Nat.le_trans h.si.2.1 hg.size, fun j h1 h2 => ?_⟩, ?_, h.br, h.bl.grown hg h.lt (fun k e => by have := Option.some.inj e; have := h.br; omega)⟩
  · have e := h.si.2.2 j h1 h2
    have hl : lst w j := by obtain ⟨c, t, a, b⟩ := h2; exact ⟨c, t, e.trans a, b⟩
    rw [hg.block j hl.lt (fun x => hne j hl (Option.some.inj x))]; exact e
  · rw [hw]
    refine row_stays h.wo (fun g hg' => hg.block g (h.wo.lt g hg').2 (fun x => ?_))
    obtain ⟨cur, hc⟩ := row_type h.wo g hg'
    exact hne g ⟨cur, 27, hc, .inr rfl⟩ (Option.some.inj x)
theorem DS.fail {p' : Nat} {ln : Nat} {op : Int} {bl : Bool} {el : Int} {eb : Bool} {wv' ev' : Value} {fe fl' : Int} (h : DS B X w0 w s q p wv ev wS fl) (hg : Onl X w w') (hd : Dx w' X s p' ln op bl el eb wv' ev' fe fl') (hf : fe ≠ 0) : DF B X w0 w' s :=
  ⟨p', ln, op, bl, el, eb, wv', ev', fe, fl', hd, hf, h.br, h.bl.grown hg h.lt (fun k e => by have := Option.some.inj e; have := h.br; omega)⟩
theorem DF.go (h : DF B X w0 w s) (hb : Below w.heap.size w w') : DF B X w0 w' s := by
  obtain ⟨p, ln, op, bl, el, eb, wv, ev, fe, fl, h1, h2, h3, h4⟩ := h
  exact ⟨p, ln, op, bl, el, eb, wv, ev, fe, fl, h1.same (hb.block X h1.lt), h2, h3, h4.trans (hb.mono (by have := h1.lt; omega))⟩
theorem DS.pushW {W w4 : World} {v' : Value} (h : DS B X w0 w s q p wv ev wS fl) (v : Wd) (h5 : w4.ownsRow wS.heap.size 27 2 v' (q.ws.length + 1) (cellsW q.ws ++ cellsW [v])) (hW : Below w.heap.size w W) (h6 : W.grownBy w4 wv.ownBlock) :
    Dx w4 X s p q.line (q.op : Int) q.bl q.el false wv ev 0 fl ∧ DS B X w0 (w4.setCell ⟨X, 7, none⟩ v') s { q with ws := q.ws ++ [v] } p v' ev wS fl := by
  have ha := h.go hW
  have hne : some X ≠ wv.ownBlock := fun e => by
    obtain ⟨cur, hc⟩ := row_type ha.wo X e.symm
    exact ha.bx.not_lst ⟨cur, 27, hc, .inr rfl⟩
  have b4 : Dx w4 X s p q.line (q.op : Int) q.bl q.el false wv ev 0 fl := ha.bx.same (h6.block X ha.bx.lt hne)
  refine ⟨b4, b4.p7 v', h.ow, (ha.si.grown h6 (fun k e => (ha.wo.lt k e).1)).set b4.not_lst 7 _, ?_, h.br, ?_⟩
  · have : w4.ownsRow wS.heap.size 27 2 v' (q.ws ++ [v]).length (cellsW (q.ws ++ [v])) := by
      rw [cellsW_app, List.length_append]; exact h5
    exact row_set57 this (.inr rfl) b4.not_lst 7 _
  · have hB : B ≤ wS.heap.size := h.si.1
    exact (ha.bl.grown h6 (Nat.le_trans hB (ha.si.2.1)) (fun k e => Nat.le_trans hB (ha.wo.lt k e).1)).setCell (p := ⟨X, 7, none⟩) h.br _
theorem DS.el (h : DS B X w0 w s q p wv ev wS fl) (z : Int) : DS B X w0 (w.setCell ⟨X, 5, none⟩ (.int .i64 z)) s { q with el := z } p wv ev wS fl :=
  h.only ((Onl.refl X w).set 5 _) (h.bx.p5 z) rfl rfl
end
def PutP (B X : Nat) (w0 : World) (s : ByteArray) (q : Cf) (p : Nat) (v : Wd) (w' : World) : Prop :=
  (q.ws.length = 64 ∧ DF B X w0 w' s) ∨ (q.ws.length ≠ 64 ∧ ∃ wv ev wS fl, DS B X w0 w' s (addW q v) p wv ev wS fl)
theorem addW_ds {B X : Nat} {w0 w : World} {s : ByteArray} {q : Cf} {p : Nat} {wv ev : Value} {wS : World} {fl : Int} {v : Wd} {z : Int} (h : DS B X w0 w s { q with el := z, ws := q.ws ++ [v] } p wv ev wS fl) (hz : z = if q.ws.isEmpty then (q.line : Int) else q.el) : DS B X w0 w s (addW q v) p wv ev wS fl := by
  subst hz
  exact ⟨h.bx, h.ow, h.si, h.wo, h.br, h.bl⟩
set_option maxRecDepth 100000 in
set_option maxHeartbeats 1000000 in
theorem put86_no {B X : Nat} {w0 w : World} {s : ByteArray} (h : DF B X w0 w s) (v : Wd) :
    Calls Try.prog 86 #[.pointer (some ⟨X, 0, none⟩), .agg #[.string v.1, .bool v.2]] w fun r w' => r = .returned (.tuple #[]) ∧ Hid (DF B X w0 w' s) := by
  have HD : Hid (DF B X w0 (w.alloc (.cells #[.string v.1, .bool v.2] 27)) s) := h.go (alp_below _ _)
  obtain ⟨p, ln, op, bl, el, eb, wv, ev, fe, fl, h1, h2, h3, h4⟩ := HD.out
  have c9 := h1.c9
  have hlt := h1.lt
  have hf2 : (fe == 0) = false := by simpa using h2
  have hf1 : ¬ fe = 0 := h2
  clear h h1 h2 h3 h4
  go_enter Try.func86, Try.ntmps86
  go_wp2_with fail
  exact bodyPost_ret (v := .tuple #[]) (by simp [results, Try.results86, go_sem]) rfl ⟨rfl, HD⟩
set_option maxRecDepth 100000 in
set_option maxHeartbeats 4000000 in
theorem put86 {B X : Nat} {w0 w : World} {s : ByteArray} {q : Cf} {p : Nat} {wv ev : Value} {wS : World} {fl : Int} (h : DS B X w0 w s q p wv ev wS fl) (v : Wd) (hw : q.ws.length ≤ 64) :
    Calls Try.prog 86 #[.pointer (some ⟨X, 0, none⟩), .agg #[.string v.1, .bool v.2]] w fun r w' => r = .returned (.tuple #[]) ∧ Hid (PutP B X w0 s q p v w') := by
  obtain ⟨⟨xa, xn, xc⟩, rfl, hW⟩ := row_wrd h.wo
  have hn := hW.1
  simp only at hn h
  subst hn
  have HA := Lib.hid (h.go (alp_below w (.cells #[.string v.1, .bool v.2] 27)))
  have HBX : Hid ((w.alloc (.cells #[.string v.1, .bool v.2] 27)).heap[w.heap.size]? = some (.cells #[.string v.1, .bool v.2] 27 (0, 0))) := heap_alloc_new _ _
  have hlt := h.bx.lt
  have hXn : X ≠ w.heap.size := by omega
  clear hW
  have c9 := HA.out.bx.c9
  have c7 := HA.out.bx.c7
  have c2 := HA.out.bx.c2
  have hlt2 := HA.out.bx.lt
  by_cases h64 : q.ws.length = 64
  · have K71 := Lib.hid (fault71_ok HA.out.bx 3 (q.line : Int))
    rw [h64] at c7
    go_enter Try.func86, Try.ntmps86
    go_wp2_with fail
    refine K71.out.mono ?_
    rintro e w1 ⟨rfl, H1⟩
    go_wp2_with fail
    exact bodyPost_ret (v := .tuple #[]) (by simp [results, Try.results86, go_sem]) rfl ⟨rfl, .inl ⟨h64, HA.out.fail H1.out.2 H1.out.1 (by decide)⟩⟩
  · have hlt64 : ¬ (64 : Int) ≤ (q.ws.length : Int) := by omega
    obtain ⟨i27, hi, hz0, hz1, hz2⟩ := inf27
    have HI : Hid (Try.prog.info? 27 = some i27 ∧ i27.zero = some (.agg #[.string ⟨#[]⟩, .bool false]) ∧ i27.size = 2 ∧ i27.bytes = 24) := ⟨hi, hz0, hz1, hz2⟩
    clear hi hz0 hz1 hz2
    by_cases h0 : q.ws.length = 0
    · have hz : Hid ((q.line : Int) = if q.ws.isEmpty then (q.line : Int) else q.el) := (by show _ = _; rw [List.length_eq_zero_iff.1 h0]; rfl)
      have HN0 : Hid (q.ws.length = 0) := h0
      rw [h0] at h c7
      have c5 := HA.out.bx.c5
      have f5 := HA.out.bx.fz 5
      have HE : Hid (DS B X w0 ((w.setCell ⟨X, 5, none⟩ (.int .i64 (q.line : Int))).alloc (.cells #[.string v.1, .bool v.2] 27)) s { q with el := (q.line : Int) } p (.slice xa 0 xc) ev wS fl) := (h.el (q.line : Int)).go (alp_below _ _)
      have HBX2 : Hid (((w.setCell ⟨X, 5, none⟩ (.int .i64 (q.line : Int))).alloc (.cells #[.string v.1, .bool v.2] 27)).heap[w.heap.size]? = some (.cells #[.string v.1, .bool v.2] 27 (0, 0))) := (by
        have := heap_alloc_new (w.setCell ⟨X, 5, none⟩ (.int .i64 (q.line : Int))) (.cells #[.string v.1, .bool v.2] 27)
        rw [set_size] at this
        exact this)
      clear h HA HBX h0
      go_enter Try.func86, Try.ntmps86
      go_wp2_with fail
      generalize (w.setCell ⟨X, 5, none⟩ (.int .i64 (q.line : Int))).alloc (.cells #[.string v.1, .bool v.2] 27) = W at *
      have d7 := HE.out.bx.c7
      have d7f := HE.out.bx.fz 7
      have d7l := HE.out.bx.lt
      have b0 : W.cell? ⟨w.heap.size, 0, none⟩ = some (.string v.1) := cell_of HBX2.out rfl
      have b1 : W.cell? ⟨w.heap.size, 1, none⟩ = some (.bool v.2) := cell_of HBX2.out rfl
      have bl := blk_lt HBX2.out
      have hWb : wS.heap.size ≤ W.heap.size := HE.out.si.2.1
      have HB3 : Hid (Below W.heap.size W (W.drew.alloc (.cells #[.string v.1, .bool v.2] 27))) := ((Below.refl _ _).drew).alloc (Nat.le_refl _) _
      have HFIN : Hid (∀ (w4 : World) (g cap : Nat), w4.ownsRow wS.heap.size 27 2 (.slice (some ⟨g, 0, none⟩) (0 + 1) cap) (0 + 1) (cellsW q.ws ++ cellsW [v]) → (W.drew.alloc (.cells #[.string v.1, .bool v.2] 27)).grownBy w4 (Value.slice xa 0 xc).ownBlock → Dx w4 X s p q.line (q.op : Int) q.bl (q.line : Int) false (.slice xa 0 xc) ev 0 fl ∧ DS B X w0 (w4.setCell ⟨X, 7, none⟩ (.slice (some ⟨g, 0, none⟩) (0 + 1) cap)) s (addW q v) p (.slice (some ⟨g, 0, none⟩) (0 + 1) cap) ev wS fl) := fun w4 g cap h5 h6 => by
        have := HE.out.pushW v (by rw [HN0.out]; exact h5) HB3.out h6
        exact ⟨this.1, addW_ds (z := (q.line : Int)) this.2 hz.out⟩
      have HOW : Hid ((W.drew.alloc (.cells #[.string v.1, .bool v.2] 27)).ownsRow wS.heap.size 27 2 (.slice xa 0 xc) 0 (cellsW q.ws)) := (row_stays (by have := HE.out.wo; rw [show ({ q with el := (q.line : Int) } : Cf).ws = q.ws from rfl, HN0.out] at this; exact this) (fun g hg => rfl) : W.drew.ownsRow wS.heap.size 27 2 (.slice xa 0 xc) 0 (cellsW q.ws)).alloc _
      have n4 : (W.drew.alloc (.cells #[.string v.1, .bool v.2] 27)).cell? ⟨X, 7, none⟩ = some (.slice xa 0 xc) := (HB3.out.cell (p := ⟨X, 7, none⟩) d7l).trans d7
      go_region_law (first
        | (refine step_append_lies _ (by rfl) _ _ 23 (by rfl) wS.heap.size 27 i27 _ 2 24 Try.underlying23 HI.out.1 HI.out.2.1 HI.out.2.2.1 HI.out.2.2.2 rfl (by omega) (.slice xa 0 xc) 0 (cellsW q.ws) (by rfl) HOW.out ⟨W.heap.size, 0, none⟩ 1 1 (cellsW [v]) (by rfl) (by rfl) (one_termw W.drew v.1 v.2) (cellsW_one _) (by omega) (by simp only [maxLen]; omega) (by omega) (by simp; omega) (W.heap.size + 1) (by simp) ?_; intro g cap w7 h5 h6 hat hlt7; have HF := Lib.hid (HFIN.out w7 g cap h5 h6); have u7 : w7.cell? ⟨X, 7, none⟩ = some (.slice xa 0 xc) := HF.out.1.c7; have uz : w7.frozen? ⟨X, 7, none⟩ = false := HF.out.1.fz 7; have ul : X < w7.heap.size := HF.out.1.lt; clear h5 h6 hat)
        | fail)
      all_goals
        go_wp2_with fail
        go_end0
        exact ⟨rfl, .inr ⟨h64, _, _, _, _, HF.out.2⟩⟩
    · have hz : Hid (q.el = if q.ws.isEmpty then (q.line : Int) else q.el) := (by
        show _ = _
        have : q.ws.isEmpty = false := by cases hq : q.ws with | nil => simp [hq] at h0 | cons => rfl
        rw [this]; rfl)
      have HE : Hid (DS B X w0 (w.alloc (.cells #[.string v.1, .bool v.2] 27)) s { q with el := q.el } p (.slice xa q.ws.length xc) ev wS fl) := HA.out
      have HBX2 := HBX
      have hzz : ¬ (q.ws.length : Int) = 0 := by omega
      have hz2 : ((q.ws.length : Int) == 0) = false := by simpa using h0
      clear h HA HBX
      go_enter Try.func86, Try.ntmps86
      go_wp2_with fail
      generalize w.alloc (.cells #[.string v.1, .bool v.2] 27) = W at *
      have d7 := HE.out.bx.c7
      have d7f := HE.out.bx.fz 7
      have d7l := HE.out.bx.lt
      have b0 : W.cell? ⟨w.heap.size, 0, none⟩ = some (.string v.1) := cell_of HBX2.out rfl
      have b1 : W.cell? ⟨w.heap.size, 1, none⟩ = some (.bool v.2) := cell_of HBX2.out rfl
      have bl := blk_lt HBX2.out
      have hWb : wS.heap.size ≤ W.heap.size := HE.out.si.2.1
      have HB3 : Hid (Below W.heap.size W (W.drew.alloc (.cells #[.string v.1, .bool v.2] 27))) := ((Below.refl _ _).drew).alloc (Nat.le_refl _) _
      have HFIN : Hid (∀ (w4 : World) (g cap : Nat), w4.ownsRow wS.heap.size 27 2 (.slice (some ⟨g, 0, none⟩) (q.ws.length + 1) cap) (q.ws.length + 1) (cellsW q.ws ++ cellsW [v]) → (W.drew.alloc (.cells #[.string v.1, .bool v.2] 27)).grownBy w4 (Value.slice xa q.ws.length xc).ownBlock → Dx w4 X s p q.line (q.op : Int) q.bl q.el false (.slice xa q.ws.length xc) ev 0 fl ∧ DS B X w0 (w4.setCell ⟨X, 7, none⟩ (.slice (some ⟨g, 0, none⟩) (q.ws.length + 1) cap)) s (addW q v) p (.slice (some ⟨g, 0, none⟩) (q.ws.length + 1) cap) ev wS fl) := fun w4 g cap h5 h6 => by
        have := HE.out.pushW v h5 HB3.out h6
        exact ⟨this.1, addW_ds (z := q.el) this.2 hz.out⟩
      have HOW : Hid ((W.drew.alloc (.cells #[.string v.1, .bool v.2] 27)).ownsRow wS.heap.size 27 2 (.slice xa q.ws.length xc) q.ws.length (cellsW q.ws)) := (row_stays HE.out.wo (fun g hg => rfl) : W.drew.ownsRow wS.heap.size 27 2 (.slice xa q.ws.length xc) q.ws.length (cellsW q.ws)).alloc _
      have n4 : (W.drew.alloc (.cells #[.string v.1, .bool v.2] 27)).cell? ⟨X, 7, none⟩ = some (.slice xa q.ws.length xc) := (HB3.out.cell (p := ⟨X, 7, none⟩) d7l).trans d7
      go_region_law (first
        | (refine step_append_lies _ (by rfl) _ _ 23 (by rfl) wS.heap.size 27 i27 _ 2 24 Try.underlying23 HI.out.1 HI.out.2.1 HI.out.2.2.1 HI.out.2.2.2 rfl (by omega) (.slice xa q.ws.length xc) q.ws.length (cellsW q.ws) (by rfl) HOW.out ⟨W.heap.size, 0, none⟩ 1 1 (cellsW [v]) (by rfl) (by rfl) (one_termw W.drew v.1 v.2) (cellsW_one _) (by omega) (by simp only [maxLen]; omega) (by omega) (by simp; omega) (W.heap.size + 1) (by simp) ?_; intro g cap w7 h5 h6 hat hlt7; have HF := Lib.hid (HFIN.out w7 g cap h5 h6); have u7 : w7.cell? ⟨X, 7, none⟩ = some (.slice xa q.ws.length xc) := HF.out.1.c7; have uz : w7.frozen? ⟨X, 7, none⟩ = false := HF.out.1.fz 7; have ul : X < w7.heap.size := HF.out.1.lt; clear h5 h6 hat)
        | fail)
      all_goals
        go_wp2_with fail
        go_end0
        exact ⟨rfl, .inr ⟨h64, _, _, _, _, HF.out.2⟩⟩
end Go.Proofs.Ytgdkeafjglcgaaa
