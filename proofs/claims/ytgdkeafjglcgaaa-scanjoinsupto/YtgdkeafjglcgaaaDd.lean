/- The document's reading: an entry ends, the next one begins. -/
import Derived.Test.YtgdkeafjglcgaaaDc
import Derived.Test.YtgdkeafjglcgaaaDq
namespace Go.Proofs.Ytgdkeafjglcgaaa
open Go.ChangeShapes Go.WideShapes Go.ChangeAt Go.RowKit
set_option linter.unusedVariables false
set_option linter.unusedSimpArgs false

/-- A reading whose entry is done. -/
structure DC (B X : Nat) (w0 w : World) (s : ByteArray) (q : Cf) (p : Nat) (el : Int) (eb : Bool) (wv ev : Value) (fl : Int) : Prop where
  bx : Dx w X s p q.line (q.op : Int) q.bl el eb wv ev 0 fl
  ow : OwE B w ev q.es
  br : B ≤ X
  bl : Below B w0 w
theorem DC.begun {B X : Nat} {w0 w : World} {s : ByteArray} {q : Cf} {p : Nat} {el : Int} {eb : Bool} {wv ev : Value} {fl : Int} (h : DC B X w0 w s q p el eb wv ev fl) :
    DS B X w0 (((w.setCell ⟨X, 5, none⟩ (.int .i64 0)).setCell ⟨X, 6, none⟩ (.bool false)).setCell ⟨X, 7, none⟩ (.slice none 0 0)) s { q with el := 0, ws := [] } p (.slice none 0 0) ev (((w.setCell ⟨X, 5, none⟩ (.int .i64 0)).setCell ⟨X, 6, none⟩ (.bool false)).setCell ⟨X, 7, none⟩ (.slice none 0 0)) fl := by
  have b1 := h.bx.p5 0
  have b2 := b1.p6 false
  have b3 := b2.p7 (.slice none 0 0)
  have hB : B ≤ w.heap.size := Nat.le_of_lt (Nat.lt_of_le_of_lt h.br h.bx.lt)
  have s0 : Since B w w := Since.refl hB
  have s3 := ((s0.set h.bx.not_lst 5 (.int .i64 0)).set b1.not_lst 6 (.bool false)).set b2.not_lst 7 (.slice none 0 0)
  exact ⟨b3, s3.own h.ow, Since.refl (by simp only [set_size]; exact hB), World.ownsRow_nil _ _ _ _, h.br, ((h.bl.setCell (p := ⟨X, 5, none⟩) h.br _).setCell (p := ⟨X, 6, none⟩) h.br _).setCell (p := ⟨X, 7, none⟩) h.br _⟩
theorem DS.blank {B X : Nat} {w0 w : World} {s : ByteArray} {q : Cf} {p : Nat} {wv ev : Value} {wS : World} {fl : Int} (h : DS B X w0 w s { q with el := 0, ws := [] } p wv ev wS fl) (n : Nat) (b : Bool) (hb : headB (s.data.toList.drop p) = b) : DS B X w0 ((w.setCell ⟨X, 4, none⟩ (.bool b)).drewN n) s (beginF q (s.data.toList.drop p)) p wv ev wS fl := by
  subst hb
  exact h.only (((Onl.refl X w).set 4 _).dn n) ((h.bx.p4 _).same (w' := (w.setCell ⟨X, 4, none⟩ (.bool (headB (s.data.toList.drop p)))).drewN n) rfl) rfl rfl
def EndP (B X : Nat) (w0 : World) (s : ByteArray) (q : Cf) (p : Nat) (w' : World) : Prop :=
  ∃ wv ev wS fl, DS B X w0 w' s (beginF (closeF q) (s.data.toList.drop p)) p wv ev wS fl
set_option maxRecDepth 100000 in
set_option maxHeartbeats 4000000 in
theorem end69_none {B X : Nat} {w0 w : World} {s : ByteArray} {q : Cf} {p : Nat} {wv ev : Value} {wS : World} {fl : Int} (h : DS B X w0 w s q p wv ev wS fl) (h0 : q.ws = []) :
    Calls Try.prog 69 #[.pointer (some ⟨X, 0, none⟩)] w fun r w' => r = .returned (.tuple #[]) ∧ Hid (EndP B X w0 s q p w') := by
  obtain ⟨⟨xa, xn, xc⟩, rfl, hW⟩ := row_wrd h.wo
  have hn := hW.1
  simp only [h0, List.length_nil] at hn
  subst hn
  have hcl : closeF q = q := by cases q; simp at h0; simp [closeF, h0]
  have HG : Hid (DS B X w0 (((w.setCell ⟨X, 5, none⟩ (.int .i64 0)).setCell ⟨X, 6, none⟩ (.bool false)).setCell ⟨X, 7, none⟩ (.slice none 0 0)) s { closeF q with el := 0, ws := [] } p (.slice none 0 0) ev (((w.setCell ⟨X, 5, none⟩ (.int .i64 0)).setCell ⟨X, 6, none⟩ (.bool false)).setCell ⟨X, 7, none⟩ (.slice none 0 0)) fl) := (by
    rw [hcl]
    exact (DC.mk (el := q.el) (eb := false) (wv := .slice xa 0 xc) h.bx (h.si.own h.ow) h.br h.bl).begun)
  have c7 := h.bx.c7
  have c5 := h.bx.c5
  have c6 := h.bx.c6
  have f5 := h.bx.fz 5
  have f6 := h.bx.fz 6
  have f7 := h.bx.fz 7
  have hlt := h.bx.lt
  clear h hW hcl h0
  go_enter Try.func69, Try.ntmps69
  go_wp2_with fail
  · generalize ((w.setCell ⟨X, 5, none⟩ (.int .i64 0)).setCell ⟨X, 6, none⟩ (.bool false)).setCell ⟨X, 7, none⟩ (.slice none 0 0) = W3 at *
    have g0 := HG.out.bx.c0
    have g1 := HG.out.bx.c1
    have g4 := HG.out.bx.c4
    have g4f := HG.out.bx.fz 4
    have gl := HG.out.bx.lt
    by_cases hp : p < s.size
    · have hp' : (p : Int) < (s.size : Int) := by omega
      have K78 := Lib.hid (fun W => rblank78 ((s[p].toNat : Nat) : Int) W)
      have HFF : Hid (∀ n, EndP B X w0 s q p ((W3.setCell ⟨X, 4, none⟩ (.bool (isBz ((s[p].toNat : Nat) : Int)))).drewN n)) := fun n => ⟨_, _, _, _, HG.out.blank n (isBz ((s[p].toNat : Nat) : Int)) (by rw [headB_drop s p hp]; exact (isBz_bI _).symm)⟩
      generalize isBz ((s[p].toNat : Nat) : Int) = bz at *
      refine wp_region_last (l := [_, _, _, _, _, _, _, _, _, _, _, _, _, _, _, _, _, _, _, _, _, _, _, _, _]) (o := _) rfl (by kernel_rfl) (by kernel_rfl) ?_
      repeat
        (with_reducible refine wpQuiet_step (fun K hK => ?_)
         go_simp
         first
           | (with_reducible refine hK _ ?_; clear hK K)
           | (apply Exists.intro
              with_reducible refine ⟨fun _ => ?_, hK _ ?_⟩
              (go_at_call 78; with_reducible exact Calls.quiet_of_same (K78.out _))
              clear hK K))
      with_reducible refine wpQuiet_nil ?_
      intro _ hw'
      obtain ⟨nq, hw''⟩ := hw'
      subst hw''
      unfold Oper.wp
      go_simp
      go_wp2_with fail
      go_end0
      exact ⟨rfl, HFF.out _⟩
    · have hp' : ¬ (p : Int) < (s.size : Int) := by omega
      have HFF : Hid (∀ n, EndP B X w0 s q p ((W3.setCell ⟨X, 4, none⟩ (.bool false)).drewN n)) := fun n => ⟨_, _, _, _, HG.out.blank n false (headB_none s p hp)⟩
      refine wp_region_last (l := [_, _, _, _, _, _, _, _, _, _, _, _, _, _, _, _, _, _, _, _, _, _, _, _, _]) (o := _) rfl (by kernel_rfl) (by kernel_rfl) ?_
      repeat
        (with_reducible refine wpQuiet_step (fun K hK => ?_)
         go_simp
         first
           | (with_reducible refine hK _ ?_; clear hK K)
           | (apply Exists.intro
              with_reducible refine ⟨fun _ => ?_, hK _ ?_⟩
              fail
              clear hK K))
      with_reducible refine wpQuiet_nil ?_
      intro _ hw'
      obtain ⟨nq, hw''⟩ := hw'
      subst hw''
      unfold Oper.wp
      go_simp
      go_wp2_with fail
      go_end0
      exact ⟨rfl, HFF.out _⟩
set_option maxRecDepth 100000 in
set_option maxHeartbeats 2000000 in
theorem end69_some {B X : Nat} {w0 w : World} {s : ByteArray} {q : Cf} {p : Nat} {wv ev : Value} {wS : World} {fl : Int} (h : DS B X w0 w s q p wv ev wS fl) (h0 : ¬ q.ws = []) (he : q.es.length ≤ 1000000) :
    Calls Try.prog 69 #[.pointer (some ⟨X, 0, none⟩)] w fun r w' => r = .returned (.tuple #[]) ∧ Hid (EndP B X w0 s q p w') := by
  obtain ⟨x, rfl, hx⟩ := RfE.of h.wo
  obtain ⟨y, hy, hW⟩ := row_wrd h.wo
  have hxy : x = y := by cases x; cases y; simp only [Value.slice.injEq] at hy; obtain ⟨rfl, rfl, rfl⟩ := hy; rfl
  subst hxy
  obtain ⟨xa, xn, xc⟩ := x
  have hn : xn = q.ws.length := hW.1
  have hpos : (0 : Int) < (xn : Int) := by have := List.length_pos_iff.2 h0; omega
  have hne : q.ws.isEmpty = false := by cases hq : q.ws with | nil => exact absurd hq h0 | cons => rfl
  have HO : Hid (OwE B w ev q.es) := h.si.own h.ow
  obtain ⟨ps, hp1, hp2, hp3⟩ := HO.out
  have hpl : ps.length ≤ 1000000 := by have := congrArg List.length hp1; simp at this; omega
  have hX : RfE B w ⟨xa, xn, xc⟩ q.ws := fun w' hs hb => hx w' hs (fun j hj => hb j (by have := h.si.1; omega))
  obtain ⟨i25, hi, hz0, hz1, hz2⟩ := inf25
  have HI : Hid (Try.prog.info? 25 = some i25 ∧ i25.zero = some (.agg #[.int .i64 0, .bool false, .slice none 0 0]) ∧ i25.size = 3 ∧ i25.bytes = 40) := ⟨hi, hz0, hz1, hz2⟩
  have HE := Lib.hid hp1
  have hlt := h.bx.lt
  have hB := h.lt
  have HBR := Lib.hid h.br
  have HBL : Hid (Below B w0 (w.setCell ⟨X, 6, none⟩ (.bool q.bl))) := h.bl.setCell (p := ⟨X, 6, none⟩) h.br _
  have HD := Lib.hid (h.bx.p6 q.bl)
  have hnl := h.bx.not_lst
  have HP : Hid ((w.setCell ⟨X, 6, none⟩ (.bool q.bl)).ownsRow B 25 3 ev ps.length (cellsE ps) ∧ (∀ p ∈ ps, RfE B (w.setCell ⟨X, 6, none⟩ (.bool q.bl)) p.1 p.2.ws) ∧ RfE B (w.setCell ⟨X, 6, none⟩ (.bool q.bl)) ⟨xa, xn, xc⟩ q.ws) := by
    have hset : ∀ j, lst w j → (w.setCell ⟨X, 6, none⟩ (.bool q.bl)).heap[j]? = w.heap[j]? := fun j hj => Below.heap_setCell _ _ _ _ (fun e => hnl (by simp only at e; rw [← e]; exact hj))
    refine ⟨row_set57 hp2 (.inl rfl) hnl 6 _, fun p hp => (hp3 p hp).go (by simp) (fun j _ ⟨cur, hc⟩ => hset j ⟨cur, 27, hc, .inr rfl⟩), hX.go (by simp) (fun j _ ⟨cur, hc⟩ => hset j ⟨cur, 27, hc, .inr rfl⟩)⟩
  have c4 := h.bx.c4
  have c6 := h.bx.c6
  have c7 := h.bx.c7
  have f6 := h.bx.fz 6
  clear h hx hW hp1 hp2 hp3 hX hi hz0 hz1 hz2 hy hnl
  simp only at c7
  have hcl : closeF q = { q with es := ps.map (·.2) ++ [⟨q.el, q.bl, q.ws⟩] } := by simp [closeF, hne, HE.out]
  have HCL := Lib.hid hcl
  clear hcl h0 hne hn
  go_enter Try.func69, Try.ntmps69
  go_wp2_with fail
  have hBW : B ≤ (w.setCell ⟨X, 6, none⟩ (.bool q.bl)).heap.size := by rw [set_size]; exact hB
  generalize w.setCell ⟨X, 6, none⟩ (.bool q.bl) = W at *
  have e5 := HD.out.c5
  have e6 := HD.out.c6
  have e7 := HD.out.c7
  have e8 := HD.out.c8
  have e8f := HD.out.fz 8
  have el := HD.out.lt
  have HB3 : Hid (Below W.heap.size W (W.drew.alloc (.cells #[.int .i64 q.el, .bool q.bl, .slice xa xn xc] 25))) := ((Below.refl _ _).drew).alloc (Nat.le_refl _) _
  have n8 : (W.drew.alloc (.cells #[.int .i64 q.el, .bool q.bl, .slice xa xn xc] 25)).cell? ⟨X, 8, none⟩ = some ev := (HB3.out.cell (p := ⟨X, 8, none⟩) el).trans e8
  have HOW : Hid ((W.drew.alloc (.cells #[.int .i64 q.el, .bool q.bl, .slice xa xn xc] 25)).ownsRow B 25 3 ev ps.length (cellsE ps)) := (row_stays HP.out.1 (fun g hg => rfl) : W.drew.ownsRow B 25 3 ev ps.length (cellsE ps)).alloc _
  have HFIN : Hid (∀ (w4 : World) (g cap : Nat), w4.ownsRow B 25 3 (.slice (some ⟨g, 0, none⟩) (ps.length + 1) cap) (ps.length + 1) (cellsE ps ++ cellsE [((⟨xa, xn, xc⟩ : Sl), ⟨q.el, q.bl, q.ws⟩)]) → (W.drew.alloc (.cells #[.int .i64 q.el, .bool q.bl, .slice xa xn xc] 25)).grownBy w4 ev.ownBlock → Dx w4 X s p q.line (q.op : Int) q.bl q.el q.bl (.slice xa xn xc) ev 0 fl ∧ DC B X w0 (w4.setCell ⟨X, 8, none⟩ (.slice (some ⟨g, 0, none⟩) (ps.length + 1) cap)) s (closeF q) p q.el q.bl (.slice xa xn xc) (.slice (some ⟨g, 0, none⟩) (ps.length + 1) cap) fl) := by
    intro w4 g cap h5 h6
    have hpu := OwE.push (e := ⟨q.el, q.bl, q.ws⟩) HP.out.2.1 HP.out.2.2 HP.out.1 HB3.out h5 h6
    have hne2 : some X ≠ ev.ownBlock := fun e => by
      obtain ⟨cur, hc⟩ := row_type HP.out.1 X e.symm
      exact HD.out.not_lst ⟨cur, 25, hc, .inl rfl⟩
    have hbx4 : Dx w4 X s p q.line (q.op : Int) q.bl q.el q.bl (.slice xa xn xc) ev 0 fl := HD.out.same (by rw [h6.block X (Nat.lt_of_lt_of_le el HB3.out.size) hne2, HB3.out.block X el])
    rw [HCL.out]
    refine ⟨hbx4, hbx4.p8 _, ?_, HBR.out, ?_⟩
    · refine hpu.go (by rw [set_size]; exact Nat.le_refl _) (fun j hj hl => Below.heap_setCell _ _ _ _ (fun e => ?_))
      simp only at e; subst e
      exact hbx4.not_lst hl
    · exact ((HBL.out.trans (HB3.out.mono hBW)).grown h6 (Nat.le_trans hBW HB3.out.size) (fun k e => (HP.out.1.lt k e).1)).setCell (p := ⟨X, 8, none⟩) HBR.out _
  go_region_law (first
    | (refine step_append_lies _ (by rfl) _ _ 22 (by rfl) B 25 i25 _ 3 40 Try.underlying22 HI.out.1 HI.out.2.1 HI.out.2.2.1 HI.out.2.2.2 rfl (by omega) ev ps.length (cellsE ps) (by rfl) HOW.out ⟨W.heap.size, 0, none⟩ 1 1 (cellsE [((⟨xa, xn, xc⟩ : Sl), ⟨q.el, q.bl, q.ws⟩)]) (by rfl) (by rfl) (one_en W.drew ⟨xa, xn, xc⟩ ⟨q.el, q.bl, q.ws⟩) (cellsE_one _) (by omega) (by simp only [maxLen]; omega) (by omega) (by simp; omega) (W.heap.size + 1) (by simp) ?_; intro g cap w7 h5 h6 hat hlt7; have HF := Lib.hid (HFIN.out w7 g cap h5 h6); have u8 : w7.cell? ⟨X, 8, none⟩ = some ev := HF.out.1.c8; have uz : w7.frozen? ⟨X, 8, none⟩ = false := HF.out.1.fz 8; have ul : X < w7.heap.size := HF.out.1.lt; clear h5 h6 hat)
    | fail)
  all_goals
    have HG := Lib.hid HF.out.2.begun
    have k5 := HF.out.2.bx.c5
    have k6 := HF.out.2.bx.c6
    have k7 := HF.out.2.bx.c7
    have kf5 := HF.out.2.bx.fz 5
    have kf6 := HF.out.2.bx.fz 6
    have kf7 := HF.out.2.bx.fz 7
    have kl := HF.out.2.bx.lt
    clear HF HFIN HOW HB3 HP HBL n8
    generalize w7.setCell ⟨X, 8, none⟩ (.slice (some ⟨g, 0, none⟩) (ps.length + 1) cap) = W8 at *
    go_wp2_with fail
    generalize ((W8.setCell ⟨X, 5, none⟩ (.int .i64 0)).setCell ⟨X, 6, none⟩ (.bool false)).setCell ⟨X, 7, none⟩ (.slice none 0 0) = W3 at *
    have g0 := HG.out.bx.c0
    have g1 := HG.out.bx.c1
    have g4 := HG.out.bx.c4
    have g4f := HG.out.bx.fz 4
    have gl := HG.out.bx.lt
    by_cases hp : p < s.size
    · have hp' : (p : Int) < (s.size : Int) := by omega
      have K78 := Lib.hid (fun W => rblank78 ((s[p].toNat : Nat) : Int) W)
      have HFF : Hid (∀ n, EndP B X w0 s q p ((W3.setCell ⟨X, 4, none⟩ (.bool (isBz ((s[p].toNat : Nat) : Int)))).drewN n)) := fun n => ⟨_, _, _, _, HG.out.blank n (isBz ((s[p].toNat : Nat) : Int)) (by rw [headB_drop s p hp]; exact (isBz_bI _).symm)⟩
      generalize isBz ((s[p].toNat : Nat) : Int) = bz at *
      refine wp_region_last (l := [_, _, _, _, _, _, _, _, _, _, _, _, _, _, _, _, _, _, _, _, _, _, _, _, _]) (o := _) rfl (by kernel_rfl) (by kernel_rfl) ?_
      repeat
        (with_reducible refine wpQuiet_step (fun K hK => ?_)
         go_simp
         first
           | (with_reducible refine hK _ ?_; clear hK K)
           | (apply Exists.intro
              with_reducible refine ⟨fun _ => ?_, hK _ ?_⟩
              (go_at_call 78; with_reducible exact Calls.quiet_of_same (K78.out _))
              clear hK K))
      with_reducible refine wpQuiet_nil ?_
      intro _ hw'
      obtain ⟨nq, hw''⟩ := hw'
      subst hw''
      unfold Oper.wp
      go_simp
      go_wp2_with fail
      go_end0
      exact ⟨rfl, HFF.out _⟩
    · have hp' : ¬ (p : Int) < (s.size : Int) := by omega
      have HFF : Hid (∀ n, EndP B X w0 s q p ((W3.setCell ⟨X, 4, none⟩ (.bool false)).drewN n)) := fun n => ⟨_, _, _, _, HG.out.blank n false (headB_none s p hp)⟩
      refine wp_region_last (l := [_, _, _, _, _, _, _, _, _, _, _, _, _, _, _, _, _, _, _, _, _, _, _, _, _]) (o := _) rfl (by kernel_rfl) (by kernel_rfl) ?_
      repeat
        (with_reducible refine wpQuiet_step (fun K hK => ?_)
         go_simp
         first
           | (with_reducible refine hK _ ?_; clear hK K)
           | (apply Exists.intro
              with_reducible refine ⟨fun _ => ?_, hK _ ?_⟩
              fail
              clear hK K))
      with_reducible refine wpQuiet_nil ?_
      intro _ hw'
      obtain ⟨nq, hw''⟩ := hw'
      subst hw''
      unfold Oper.wp
      go_simp
      go_wp2_with fail
      go_end0
      exact ⟨rfl, HFF.out _⟩
theorem end69 {B X : Nat} {w0 w : World} {s : ByteArray} {q : Cf} {p : Nat} {wv ev : Value} {wS : World} {fl : Int} (h : DS B X w0 w s q p wv ev wS fl) (he : q.es.length ≤ 1000000) :
    Calls Try.prog 69 #[.pointer (some ⟨X, 0, none⟩)] w fun r w' => r = .returned (.tuple #[]) ∧ Hid (EndP B X w0 s q p w') := by
  by_cases h0 : q.ws = []
  · exact end69_none h h0
  · exact end69_some h h0 he
end Go.Proofs.Ytgdkeafjglcgaaa
