/- The program's names: how many last labels are the same. -/
import Derived.Test.YtkbpjaojgkpffaaNxc
namespace Go.Proofs.Ytkbpjaojgkpffaa
open Go.ChangeShapes Go.WideShapes Go.ChangeAt Go.RowKit Go.Shelf
set_option linter.unusedVariables false
set_option linter.unusedSimpArgs false
attribute [local go_sem] Oper.semAt_some

theorem comR_snoc : ∀ (P Q : List ByteArray) (x : ByteArray), comR P Q = P.length → comR (P ++ [x]) Q = if P.length < Q.length ∧ cmp x (Q[P.length]?.getD ⟨#[]⟩) = 0 then P.length + 1 else P.length
  | [], [], x, _ => by simp [comR]
  | [], y :: Q, x, _ => by simp [comR]
  | p :: P, [], x, h => by simp [comR] at h
  | p :: P, y :: Q, x, h => by
    simp only [comR] at h
    by_cases hc : cmp p y = 0
    · rw [if_pos hc] at h
      have ih := comR_snoc P Q x (by simpa using h)
      simp only [List.cons_append, comR, if_pos hc, ih, List.length_cons, List.getElem?_cons_succ, Nat.add_lt_add_iff_right]
      split <;> rfl
    · rw [if_neg hc] at h
      simp at h
theorem comR_more : ∀ (P R Q : List ByteArray), comR P Q < P.length → comR (P ++ R) Q = comR P Q
  | [], _, _, h => by simp at h
  | p :: P, R, [], _ => by simp [comR]
  | p :: P, R, y :: Q, h => by
    simp only [comR] at h
    by_cases hc : cmp p y = 0
    · rw [if_pos hc] at h
      simp only [List.cons_append, comR, if_pos hc]
      rw [comR_more P R Q (by simpa using h)]
    · simp only [List.cons_append, comR, if_neg hc]

set_option maxRecDepth 100000 in
set_option maxHeartbeats 2000000 in
theorem pcommon_any (a b : Option Addr) (n m c d : Nat) (ss ts : List ByteArray) (w : World) (h : Nm w a n ss) (h' : Nm w b m ts) : Calls Try.prog 21 #[.slice a n c, .slice b m d] w fun e w' => e = .returned (.int .i64 (ncom ss ts)) ∧ Hid (Below w.heap.size w w') := by
  have hs : ∀ s ∈ ss.reverse, s.size ≤ 1000000000000 := fun s hs => h.mem s (by simpa using hs)
  have hR := h.rd
  have hR' := h'.rd
  have hl := h.len
  have hl' := h'.len
  have hn63 := h.n63
  have hm63 := h'.n63
  have HM : Hid (∀ s ∈ ts, s.size ≤ 1000000000000) := h'.mem
  clear h h'
  refine (callsIn_wide (n := 3)).1 ?_
  refine callsIn_of_wp_marks Try.func21 rfl trivial ?_ rfl
  simp only [Try.ntmps21, List.size_toArray, List.length_cons, List.length_nil, Nat.reduceAdd, Nat.reduceSub, Array.replicate_succ, Array.replicate_zero, List.push_toArray, List.append_toArray, List.nil_append, List.cons_append]
  gi_wp2_with (refine ⟨trivial, ?_⟩; gi_at_call 59; refine (callsIn_wide.2 (back_any _ _ _ _)).mono ?_; rintro e w' ⟨rfl, rfl⟩)
  have bB0 := ((Boxed.new w 23 (.slice b m d)).alloc (.cells #[.int .i64 0] 3)).alloc (.cells #[.slice a n c] 23)
  have bS0 := (Boxed.new (w.alloc (.cells #[.slice b m d] 23)) 3 (.int .i64 0)).alloc (.cells #[.slice a n c] 23)
  have bN0 := Boxed.new ((w.alloc (.cells #[.slice b m d] 23)).alloc (.cells #[.int .i64 0] 3)) 23 (.slice a n c)
  simp only [World.size_alloc] at bS0 bN0
  have hB0 : Below w.heap.size w (((w.alloc (.cells #[.slice b m d] 23)).alloc (.cells #[.int .i64 0] 3)).alloc (.cells #[.slice a n c] 23)) := (((Below.refl _ w).alloc (Nat.le_refl _) _).alloc (by simp) _).alloc (by simp; omega) _
  have hz0 : (((w.alloc (.cells #[.slice b m d] 23)).alloc (.cells #[.int .i64 0] 3)).alloc (.cells #[.slice a n c] 23)).heap.size = w.heap.size + 3 := by simp
  generalize ((w.alloc (.cells #[.slice b m d] 23)).alloc (.cells #[.int .i64 0] 3)).alloc (.cells #[.slice a n c] 23) = W0 at *
  have HT : Hid (ts.reverse.length = m) := by show _ = _; rw [List.length_reverse, hl']
  refine wpIn_rangeFunc_ownG rfl (by omega) (gf := 83) (lb := #[.pointer (some ⟨w.heap.size + 1 + 1, 0, none⟩)]) rfl trivial (enters_of Try.func83 (by kernel_rfl) rfl)
    (back_stops Fence.wide _ trivial rfl (by omega) (w.heap.size + 1 + 1) a n c ss hs hl hn63 w W0 hR hB0 bN0) kpB_t (kpB_b (by omega)) (Below.refl _ _) (fun _ => rfl)
    (fun pre W => ((Boxed W w.heap.size 23 (.slice b m d) ∧ Boxed W (w.heap.size + 1) 3 (.int .i64 (pre.length : Int))) ∧ Hid (comR (labsOf pre) ts.reverse = pre.length ∧ pre.length ≤ m)) ∧ Below w.heap.size w W)
    (fun cc pre W => (cc = .exit 0 ∧ ∃ q : Nat, Boxed W (w.heap.size + 1) 3 (.int .i64 (q : Int)) ∧ Hid (comR (labsOf pre) ts.reverse = q ∧ q < pre.length ∧ q ≤ m)) ∧ Below w.heap.size w W)
    (OwnFrom.and (OwnFrom.and (OwnFrom.and ((boxed_own _ _ _).from _) ((boxed_own _ _ _).from _)) (ownFrom_pure _ _)) (ownFrom_below (Nat.le_refl _) (by omega)))
    (fun cc => OwnFrom.and (fun s A B row hs hg hr => by
      obtain ⟨e1, q, e2, e3⟩ := hs
      exact ⟨e1, q, ((boxed_own (β := Unit) (w.heap.size + 1) 3 (fun _ => .int .i64 (q : Int))).from _) () A B row e2 hg hr, e3⟩) (ownFrom_below (Nat.le_refl _) (by omega)))
    ⟨⟨⟨bB0, bS0⟩, by simp [labsOf, comR], Nat.zero_le _⟩, hB0⟩
    (fun x => { tmps := #[.slice a n c, .slice b m d, undef, .pointer (some ⟨w.heap.size, 0, none⟩), .int .i64 0, .pointer (some ⟨w.heap.size + 1, 0, none⟩), undef, .string x.1.2, .slice a n c, .func (.func 83) #[] #[.pointer (some ⟨w.heap.size + 1 + 1, 0, none⟩)], .int .i64 x.1.1, .string x.1.2, undef, undef, undef, undef, undef, undef, undef, undef, undef, undef, undef, undef, undef, undef, undef, undef, undef, undef, undef, undef], defers := [] }) ?assign ?body ?done ?stop
  case assign =>
    intro l x W K hK
    gi_wp2
    exact hK
  case body =>
    rintro l pre ⟨⟨xi, s⟩, hsz⟩ W ⟨⟨⟨hbB, hbS⟩, HC⟩, hB⟩ _
    have hcB := hbB.cell
    have hcS := hbS.cell
    have hfS := hbS.frozen
    clear bB0 bS0 bN0
    have hpl : (pre ++ [(⟨(xi, s), hsz⟩ : Lab)]).length = pre.length + 1 := by simp
    have HL : Hid (labsOf (pre ++ [(⟨(xi, s), hsz⟩ : Lab)]) = labsOf pre ++ [s] ∧ (labsOf pre).length = pre.length) := ⟨by simp [labsOf], by simp [labsOf]⟩
    have HSn : Hid (comR (labsOf pre ++ [s]) ts.reverse = if pre.length < m ∧ cmp s (ts.reverse[pre.length]?.getD ⟨#[]⟩) = 0 then pre.length + 1 else pre.length) := by
      have := comR_snoc (labsOf pre) ts.reverse s (by rw [HL.out.2]; exact HC.out.1)
      rw [HL.out.2, HT.out] at this
      exact this
    have hle := HC.out.2
    generalize hq : pre.length = q at *
    dsimp only at hsz ⊢
    by_cases hm : q = m
    · have hfin : comR (labsOf pre ++ [s]) ts.reverse = q := by rw [HSn.out, if_neg (by omega)]
      have hb1 : ((q : Int) == (m : Int)) = true := by simp [hm]
      have HI : Hid (comR (labsOf (pre ++ [(⟨(xi, s), hsz⟩ : Lab)])) ts.reverse = q ∧ q < q + 1 ∧ q ≤ m) := ⟨by rw [HL.out.1]; exact hfin, by omega, by omega⟩
      clear HSn hfin HL
      have HIx : Hid ((pre ++ [(⟨(xi, s), hsz⟩ : Lab)]).length = q + 1) := hpl
      clear hpl
      gi_wp2
      refine ⟨trivial, ?_⟩
      gi_wp2
      refine ⟨KeepsFrom.refl _ _, ⟨rfl, q, ?_, ?_⟩, hB⟩
      · exact hbS
      · show _ ∧ _; rw [HIx.out]; exact HI.out
    · have hm' : q < m := by omega
      have hb1 : ((q : Int) == (m : Int)) = false := by simp; omega
      have p2 : ts.length - 1 - q < ts.length := by omega
      obtain ⟨b2, o2, rfl, l2, c2⟩ := (hR'.below hB).at (ts.length - 1 - q) p2
      have z2 := HM.out _ (List.getElem_mem p2)
      have hrev : ts.reverse[q]?.getD ⟨#[]⟩ = ts[ts.length - 1 - q] := by
        rw [List.getElem?_eq_getElem (by rw [HT.out]; exact hm')]
        simp
      have HSs : Hid (comR (labsOf (pre ++ [(⟨(xi, s), hsz⟩ : Lab)])) ts.reverse = if cmp s ts[ts.length - 1 - q] = 0 then q + 1 else q) := by
        show _ = _
        rw [HL.out.1, HSn.out, hrev]
        by_cases hc : cmp s ts[ts.length - 1 - q] = 0
        · rw [if_pos ⟨hm', hc⟩, if_pos hc]
        · rw [if_neg (fun h => hc h.2), if_neg hc]
      have KC : Hid (∀ W, Calls Try.prog 60 #[.string s, .string ts[ts.length - 1 - q]] W fun e w' => e = .returned (.bool (cmp s ts[ts.length - 1 - q] == 0)) ∧ Hid (Below W.heap.size W w')) := fun W => same_any _ _ W (by omega) (by omega)
      clear HSn HL hrev
      generalize ts[ts.length - 1 - q] = t at *
      rw [hl'] at c2
      obtain ⟨j2, hj2⟩ : ∃ j, m - 1 - q = j := ⟨_, rfl⟩
      rw [hj2] at c2
      have e3 : IntKind.i64.wrap ((m : Int) - 1) = (m : Int) - 1 := by rw [IntKind.wrap_i64]; omega
      have e4 : IntKind.i64.wrap ((m : Int) - 1 - (q : Int)) = (j2 : Int) := by rw [IntKind.wrap_i64]; omega
      have q2 : (j2 : Int) < (m : Int) := by omega
      have HIx : Hid ((pre ++ [(⟨(xi, s), hsz⟩ : Lab)]).length = q + 1) := hpl
      have HB : Hid (Below w.heap.size w W ∧ Boxed W (w.heap.size + 1) 3 (.int .i64 (q : Int)) ∧ Boxed W w.heap.size 23 (.slice (some ⟨b2, o2, none⟩) m d)) := ⟨hB, hbS, hbB⟩
      clear hpl p2 z2 hj2 hR hR' hB0 hB hbS hbB hm
      generalize hr : (cmp s t == 0) = r at *
      have HAll : Hid (∀ w2, Below W.heap.size W w2 → KeepsFrom W0.heap.size W w2 ∧ KpB w.heap.size (w.heap.size + 1 + 1) W w2 ∧ Below w.heap.size w w2 ∧ Boxed w2 (w.heap.size + 1) 3 (.int .i64 (q : Int)) ∧ Boxed w2 w.heap.size 23 (.slice (some ⟨b2, o2, none⟩) m d)) := fun w2 H2 =>
        ⟨⟨H2.size, fun k o _ hk _ => (H2.block k (Array.getElem?_eq_some_iff.1 hk).1).trans hk⟩, ⟨H2.mono HB.out.1.size, fun v hv => (H2.block _ hv.lt).trans hv⟩, HB.out.1.trans (H2.mono HB.out.1.size), (H2.block _ HB.out.2.1.lt).trans HB.out.2.1, (H2.block _ HB.out.2.2.lt).trans HB.out.2.2⟩
      cases r with
      | true =>
        have h0 : cmp s t = 0 := by simpa using hr
        have HI : Hid (comR (labsOf (pre ++ [(⟨(xi, s), hsz⟩ : Lab)])) ts.reverse = q + 1) := by show _ = _; rw [HSs.out, if_pos h0]
        clear HSs h0 hr
        gi_wp2_with (refine ⟨trivial, ?_⟩; gi_at_call 60; refine (CallsIn.inRound l (callsIn_wide.2 (KC.out _))).mono ?_; rintro e w2 ⟨rfl, H2⟩; have hcS2 := (HAll.out w2 H2.out).2.2.2.1.cell; have hfS2 := (HAll.out w2 H2.out).2.2.2.1.frozen)
        obtain ⟨k1, k2, k3, k4, k5⟩ := HAll.out w2 H2.out
        refine ⟨k1.trans ((KeepsOthers.setCell _ _ _).from _), kpB_t k2 ⟨(Below.refl _ _).setCell (p := ⟨w.heap.size + 1, 0, none⟩) (by simp) _, fun v hv => hv.other (by omega) _⟩, ⟨⟨k5.other (by omega) _, ?_⟩, ?_⟩, k3.setCell (p := ⟨w.heap.size + 1, 0, none⟩) (by simp) _⟩
        · rw [HIx.out]
          exact k4.set _
        · show _ ∧ _
          rw [HIx.out]
          exact ⟨HI.out, by omega⟩
      | false =>
        have h0 : ¬ cmp s t = 0 := by simpa using hr
        have HI : Hid (comR (labsOf (pre ++ [(⟨(xi, s), hsz⟩ : Lab)])) ts.reverse = q) := by show _ = _; rw [HSs.out, if_neg h0]
        clear HSs h0 hr
        gi_wp2_with (refine ⟨trivial, ?_⟩; gi_at_call 60; refine (CallsIn.inRound l (callsIn_wide.2 (KC.out _))).mono ?_; rintro e w2 ⟨rfl, H2⟩)
        obtain ⟨k1, k2, k3, k4, k5⟩ := HAll.out w2 H2.out
        refine ⟨k1, ⟨rfl, q, k4, ?_⟩, k3⟩
        show _ ∧ _
        rw [HIx.out]
        exact ⟨HI.out, by omega, by omega⟩
  case done =>
    rintro D ys W hD rfl ⟨⟨⟨hbB, hbS⟩, HC⟩, hB⟩ hK
    have hcS := hbS.cell
    have hT : ncom ss ts = (bup ss hs n).length := by
      have := HC.out.1
      rw [labsOf_bup ss hs n (by omega), List.take_of_length_le (by simp; omega)] at this
      exact this
    have HT2 : Hid (ncom ss ts = (bup ss hs n).length) := hT
    clear hT HC
    generalize (bup ss hs n).length = q at *
    gi_wp2
    refine ⟨by simp, .inl ⟨_, _, rfl, run_takeDeferred hK, ?_⟩⟩
    exact ⟨_, results_tmp rfl _ _ _, by rw [HT2.out]; rfl, hB.trans (belowK_b (w := w) (Nat.le_refl _) W D _ _ (by omega) hK rfl rfl)⟩
  case stop =>
    rintro D cc pre W hD ⟨k, hk, rfl⟩ ⟨⟨rfl, q, hbS, HC⟩, hB⟩ hK
    have hcS := hbS.cell
    have hT : ncom ss ts = q := by
      have := HC.out
      rw [bup_len, labsOf_bup ss hs k (by omega)] at this
      have e := comR_more (ss.reverse.take k) (ss.reverse.drop k) ts.reverse (by rw [this.1, List.length_take]; simp; omega)
      rw [List.take_append_drop] at e
      rw [ncom, e, this.1]
    have HT2 : Hid (ncom ss ts = q) := hT
    clear hT HC
    gi_wp2
    refine ⟨by simp, .inl ⟨_, _, rfl, run_takeDeferred hK, ?_⟩⟩
    exact ⟨_, results_tmp rfl _ _ _, by rw [HT2.out]; rfl, hB.trans (belowK_b (w := w) (Nat.le_refl _) W D _ _ (by omega) hK rfl rfl)⟩
end Go.Proofs.Ytkbpjaojgkpffaa
