/- An entry is put to those ahead of it. -/
import Derived.Test.YtgdkeafjglcgaaaDoorSg
namespace Go.Proofs.YtgdkeafjglcgaaaDoor
open Go.ChangeShapes Go.WideShapes Go.ChangeAt Go.RowKit
set_option linter.unusedVariables false
set_option linter.unusedSimpArgs false


theorem al_below (w : World) (o : Obj) : Below w.heap.size w (w.alloc o) := (Below.refl _ _).alloc (Nat.le_refl _) _
theorem al_not_lst {w : World} {R : Nat} (h : ¬ lst w R) (hlt : R < w.heap.size) (o : Obj) : ¬ lst (w.alloc o) R := by
  rintro ⟨c, t, h1, h2⟩
  rw [(al_below w o).block R hlt] at h1
  exact h ⟨c, t, h1, h2⟩
theorem drewN0 : True := trivial
set_option maxRecDepth 100000 in
set_option maxHeartbeats 4000000 in
theorem close65 (B R : Nat) (w0 : Fx) (w : World) (s : ByteArray) (q : Cf) (start : Nat) (wv ev : Value) (wS : World) (h : RS B R w0 w s q start wv ev wS) (he : q.es.length ≤ 1000000) :
    Calls Tryd.prog 60 #[.pointer (some ⟨R, 0, none⟩)] w fun e w' => e = .returned (.tuple #[]) ∧ Hid (∃ wv' ev', RC B R w0 w' s (closeF q) start wv' ev') := by
  obtain ⟨x, rfl, hx⟩ := RfE.of h.wo
  obtain ⟨y, hy, hW⟩ := row_wrd h.wo
  have hxy : x = y := by cases x; cases y; simp only [Value.slice.injEq] at hy; obtain ⟨rfl, rfl, rfl⟩ := hy; rfl
  subst hxy
  have hn := hW.1
  have c6 := h.bx.c6
  by_cases h0 : q.ws.length = 0
  · have HR : Hid (∃ wv' ev', RC B R w0 w s (closeF q) start wv' ev') := by
      have hr := h.rc
      have e : closeF q = q := by
        have : q.ws = [] := List.length_eq_zero_iff.1 h0
        cases q; simp_all [closeF]
      rw [e]; exact ⟨_, _, hr⟩
    have hn0 : x.n = 0 := by omega
    rw [hn0] at c6
    clear h hx hW hy hn hn0
    go_enter Tryd.func60, Tryd.ntmps60
    go_wp2_with fail
    go_end0
    exact ⟨rfl, HR⟩
  · have hpos : (0 : Int) < (x.n : Int) := by omega
    have hne : q.ws.isEmpty = false := by cases hq : q.ws with | nil => simp [hq] at h0 | cons => rfl
    have HO : Hid (OwE B w ev q.es) := h.si.own h.ow
    obtain ⟨ps, hp1, hp2, hp3⟩ := HO.out
    have hpl : ps.length ≤ 1000000 := by have := congrArg List.length hp1; simp at this; omega
    have hX : RfE B w x q.ws := fun w' hs hb => hx w' hs (fun j hj => hb j (by have := h.si.1; omega))
    obtain ⟨i25, hi, hz0, hz1, hz2⟩ := inf25
    have HI : Hid (Tryd.prog.info? 34 = some i25 ∧ i25.zero = some (.agg #[.int .i64 0, .bool false, .slice none 0 0]) ∧ i25.size = 3 ∧ i25.bytes = 40) := ⟨hi, hz0, hz1, hz2⟩
    have HP : Hid (w.ownsRow B 34 3 ev ps.length (cellsE ps) ∧ ∀ p ∈ ps, RfE B w p.1 p.2.ws) := ⟨hp2, hp3⟩
    have HX := Lib.hid hX
    have HE := Lib.hid hp1
    have c4 := h.bx.c4
    have c5 := h.bx.c5
    have c7 := h.bx.c7
    have f7 := h.bx.fz 7
    have hlt := h.bx.lt
    have HBX := Lib.hid h.bx
    have hBs : B ≤ w.heap.size := by have := h.br; omega
    have HBR := Lib.hid h.br
    have HBL := Lib.hid h.bl
    have HFIN : Hid (∀ (w4 : World) (g cap : Nat), w4.ownsRow B 34 3 (.slice (some ⟨g, 0, none⟩) (ps.length + 1) cap) (ps.length + 1) (cellsE ps ++ cellsE [(x, ⟨q.el, q.bl, q.ws⟩)]) → (w.drew.alloc (.cells #[.int .i64 q.el, .bool q.bl, .slice x.a x.n x.c] 34)).grownBy w4 ev.ownBlock → Bx w4 R s q.line q.op start q.el q.bl (.slice x.a x.n x.c) ev ∧ RC B R w0 (w4.setCell ⟨R, 7, none⟩ (.slice (some ⟨g, 0, none⟩) (ps.length + 1) cap)) s (closeF q) start (.slice x.a x.n x.c) (.slice (some ⟨g, 0, none⟩) (ps.length + 1) cap)) := by
      intro w4 g cap h5 h6
      have hb0 : Below w.heap.size w (w.drew.alloc (.cells #[.int .i64 q.el, .bool q.bl, .slice x.a x.n x.c] 34)) := ((Below.refl _ _).drew).alloc (Nat.le_refl _) _
      have hpu := OwE.push (e := ⟨q.el, q.bl, q.ws⟩) HP.out.2 HX.out HP.out.1 hb0 h5 h6
      have hne2 : some R ≠ ev.ownBlock := fun e => by
        obtain ⟨cur, hc⟩ := row_type HP.out.1 R e.symm
        exact HBX.out.not_lst ⟨cur, 34, hc, .inl rfl⟩
      have hbx4 : Bx w4 R s q.line q.op start q.el q.bl (.slice x.a x.n x.c) ev := HBX.out.same (by rw [h6.block R (Nat.lt_of_lt_of_le hlt hb0.size) hne2, hb0.block R hlt])
      refine ⟨hbx4, ?_, ?_, HBR.out, ?_⟩
      · have := hbx4.p7 (.slice (some ⟨g, 0, none⟩) (ps.length + 1) cap)
        simpa [closeF] using this
      · have e : (closeF q).es = ps.map (·.2) ++ [⟨q.el, q.bl, q.ws⟩] := by simp [closeF, hne, HE.out]
        rw [e]
        refine hpu.go (by rw [set_size]; exact Nat.le_refl _) (fun j hj hl => Below.heap_setCell _ _ _ _ (fun e => ?_))
        simp only at e; subst e
        exact hbx4.not_lst hl
      · refine Fr.set ?_ HBR.out hbx4 7 _
        exact (HBL.out.go hb0 hBs).grown h6 (Nat.le_trans hBs hb0.size) (fun k e => ⟨(HP.out.1.lt k e).1, by
          obtain ⟨cur, hc⟩ := row_type HP.out.1 k e
          exact ⟨cur, 34, (hb0.block k (HP.out.1.lt k e).2).trans hc, .inl rfl⟩⟩)
    have n4 : (w.drew.alloc (.cells #[.int .i64 q.el, .bool q.bl, .slice x.a x.n x.c] 34)).cell? ⟨R, 7, none⟩ = some ev := ((al_below w.drew _).cell (p := ⟨R, 7, none⟩) hlt).trans c7
    clear h hx hW hp1 hp2 hp3 hX hi hz0 hz1 hz2 hy h0 hn
    go_enter Tryd.func60, Tryd.ntmps60
    go_wp2_with fail
    go_region_law (first
      | (refine step_append_lies _ (by rfl) _ _ 22 (by rfl) B 34 i25 _ 3 40 Tryd.underlying22 HI.out.1 HI.out.2.1 HI.out.2.2.1 HI.out.2.2.2 rfl (by omega) ev ps.length (cellsE ps) (by rfl) ((row_stays HP.out.1 (fun g hg => rfl) : w.drew.ownsRow B 34 3 ev ps.length (cellsE ps)).alloc _) ⟨w.heap.size, 0, none⟩ 1 1 (cellsE [(x, ⟨q.el, q.bl, q.ws⟩)]) (by rfl) (by rfl) (one_en w.drew x ⟨q.el, q.bl, q.ws⟩) (cellsE_one _) (by omega) (by simp only [maxLen]; omega) (by omega) (by simp; omega) (w.heap.size + 1) (by simp) ?_; intro g cap w7 h5 h6 hat hlt7; have HF := Lib.hid (HFIN.out w7 g cap h5 h6); have u7 : w7.cell? ⟨R, 7, none⟩ = some ev := HF.out.1.c7; have uz : w7.frozen? ⟨R, 7, none⟩ = false := HF.out.1.fz 7; have ul : R < w7.heap.size := HF.out.1.lt; clear h5 h6 hat)
      | fail)
    all_goals
      go_wp2_with fail
      go_end0
      exact ⟨rfl, _, _, HF.out.2⟩
end Go.Proofs.YtgdkeafjglcgaaaDoor
