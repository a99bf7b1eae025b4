/- Texts laid together, in parts: Fle Nxd Nxe Ftm Ftg Ftn Fto Ftp Fts Fth Fti. -/
import Derived.Test.YtkjnbgekaifdfaaGreatWgg
import Derived.BigQuiet
import Derived.Lib.SliceRun
namespace Go.Proofs.YtkjnbgekaifdfaaGreat
open Go.ChangeShapes Go.WideShapes Go.ChangeAt Go.RowKit
set_option linter.unusedVariables false
set_option linter.unusedSimpArgs false
set_option maxRecDepth 100000 in
set_option maxHeartbeats 1000000 in
theorem fold_any (s : ByteArray) (w : World) (hs : s.size ≤ 9223372036854775807) :
    Calls Tryz.prog 161 #[.string s] w fun e w' => e = .returned (.string ⟨(txt ((nums s).map fz)).toArray⟩) ∧ Hid (Below w.heap.size w w') := by
  obtain ⟨zs, hc, hb, ht, hl⟩ := conv_new s w
  have H0 : Hid (Blk2 (w.drew.alloc (.cells (zs.map (Value.int .u8)).toArray 5 (zs.length, zs.length + 1))) w.heap.size zs ∧ FSt (nums s) zs 0 ∧ Below w.heap.size w (w.drew.alloc (.cells (zs.map (Value.int .u8)).toArray 5 (zs.length, zs.length + 1)))) := by
    refine ⟨hb, FSt.zero (by rw [nums_len]; exact ht) (by rw [nums_len]; exact hl), (Below.refl _ _).drew.alloc (Nat.le_refl _) _⟩
  have HLn : Hid (zs.length = zs.length) := rfl
  clear hb ht
  go_enter Tryz.func161, Tryz.ntmps161
  generalize hzl : zs.length = C at *
  have HZ : Hid (zs.length = C) := hzl
  clear hzl
  generalize (w.drew.alloc (.cells (zs.map (Value.int .u8)).toArray 5 (C, C + 1))) = W0 at *
  go_wp2_with fail
  go_loopw [10] (fun x wr => ∃ k : Nat, k ≤ s.size ∧ x = .int .i64 k ∧ Hid (∃ ys, ys.length = C ∧ Blk2 wr w.heap.size ys ∧ FSt (nums s) ys k) ∧ Hid (Below w.heap.size w wr)) (fun x _ => s.size - (intOf x).toNat)
  case atStart => exact ⟨0, Nat.zero_le _, rfl, ⟨zs, HZ.out, H0.out.1, H0.out.2.1⟩, H0.out.2.2⟩
  case round =>
    obtain ⟨k, hk, rfl, HW, HB⟩ := hrel
    clear H0 hc
    by_cases hlt : k < s.size
    · have hlt' : (k : Int) < (s.size : Int) := by omega
      obtain ⟨ys, e1, e2, e3⟩ := HW.out
      have hcell := e2.cell k (by omega)
      have hfr := e2.frozen k (by omega)
      have hv := e3.2 k (by rw [nums_len]; exact hlt)
      rw [if_neg (by omega)] at hv
      rw [hv] at hcell
      have hbd := nums_bd s k
      have HY : Hid (ys.length = C ∧ Blk2 wr w.heap.size ys ∧ FSt (nums s) ys k) := ⟨e1, e2, e3⟩
      have HK : Hid (k < (nums s).length) := (show k < _ by rw [nums_len]; exact hlt)
      have HF : Hid (fz ((nums s).getD k 0) = if 65 ≤ (nums s).getD k 0 ∧ (nums s).getD k 0 ≤ 90 then (nums s).getD k 0 + 32 else (nums s).getD k 0) := (show _ = _ from rfl)
      have HS1 : Hid (fz ((nums s).getD k 0) = (nums s).getD k 0 → FSt (nums s) ys (k + 1)) := fun h => e3.same h
      have HS2 : Hid (FSt (nums s) (ys.set k (fz ((nums s).getD k 0))) (k + 1)) := e3.set HK.out
      clear e1 e2 e3 hv
      generalize (nums s).getD k 0 = z at *
      by_cases hu : 65 ≤ z ∧ z ≤ 90
      · have hz1 : fz z = z + 32 := by rw [HF.out, if_pos hu]
        rw [hz1] at HS2
        have HB3 : Hid (Blk2 (wr.setCell ⟨w.heap.size, k, none⟩ (.int .u8 (z + 32))) w.heap.size (ys.set k (z + 32)) ∧ Below w.heap.size w (wr.setCell ⟨w.heap.size, k, none⟩ (.int .u8 (z + 32)))) := ⟨HY.out.2.1.stored k _ (by omega), HB.out.setCell (Nat.le_refl _) _⟩
        clear hz1
        go_wp2
        rw [show z - 65 + 97 = z + 32 by omega]
        refine ⟨⟨k + 1, by omega, by go_num, ⟨_, ?_, HB3.out.1, HS2.out⟩, HB3.out.2⟩, by simp [intOf]; omega⟩
        rw [List.length_set]; exact HY.out.1
      · have hz1 : fz z = z := by rw [HF.out, if_neg hu]
        have HS3 : Hid (FSt (nums s) ys (k + 1)) := HS1.out hz1
        clear hz1 HS1 HS2
        have hor : z < 65 ∨ 90 < z := by omega
        clear HF
        rcases hor with ho | ho
        all_goals
          go_wp2
          exact ⟨⟨k + 1, by omega, by go_num, ⟨ys, HY.out.1, HY.out.2.1, HS3.out⟩, HB.out⟩, by simp [intOf]; omega⟩
    · have hge : (s.size : Int) ≤ (k : Int) := by omega
      obtain ⟨ys, e1, e2, e3⟩ := HW.out
      have hks : k = s.size := by omega
      have hd : ys.take s.size = (nums s).map fz := by
        have := FSt.done (l := nums s) (zs := ys) (by rw [nums_len, ← hks]; exact e3)
        rw [nums_len] at this
        exact this
      have hrd := e2.rd s.size
      rw [hd] at hrd
      have hcv := conv_rd (some ⟨w.heap.size, 0, none⟩) s.size C ((nums s).map fz) wr hrd (by rw [List.length_map, nums_len])
      clear hrd hd e1 e2 e3
      go_wp2
      go_ret
      exact ⟨rfl, HB.out⟩
theorem call163 (a b : ByteArray) (w : World) : (callFunc 163 #[.string a, .string b]).run Tryz.prog w = .ok (.value (.int .i64 (Lib.compareBytes a.data.toList b.data.toList))) w := by
  rw [run_callFunc_extern Tryz.func163 (by kernel_rfl) (by kernel_rfl) (by kernel_rfl) (by kernel_rfl) _ w]
  show ((Extern.BytealgCompare.compare #[.string a, .string b]).run Tryz.prog w).andThen _ = _
  rw [Lib.run_compareString]
  rfl
set_option maxRecDepth 100000 in
set_option maxHeartbeats 400000 in
theorem cmpstr_any (a b : ByteArray) (w : World) : Calls Tryz.prog 162 #[.string a, .string b] w fun e w' => e = .returned (.int .i64 (Lib.compareBytes a.data.toList b.data.toList)) ∧ w' = w := by
  have h := call163 a b
  go_enter Tryz.func162, Tryz.ntmps162
  go_wp2
  go_ret
  exact ⟨rfl, rfl⟩
set_option maxRecDepth 100000 in
set_option maxHeartbeats 400000 in
theorem scmp_any (a b : ByteArray) (w : World) : Calls Tryz.prog 160 #[.string a, .string b] w fun e w' => e = .returned (.int .i64 (Lib.compareBytes a.data.toList b.data.toList)) ∧ w' = w := by
  go_enter Tryz.func160, Tryz.ntmps160
  go_wp2_with fail
  refine (cmpstr_any a b _).mono ?_
  rintro e w1 ⟨rfl, rfl⟩
  go_wp2
  go_ret
  exact ⟨rfl, rfl⟩
set_option maxRecDepth 100000 in
set_option maxHeartbeats 400000 in
theorem compare_any (a b : ByteArray) (w : World) (ha : a.size ≤ 9223372036854775807) (hb : b.size ≤ 9223372036854775807) : Calls Tryz.prog 157 #[.string a, .string b] w fun e w' => e = .returned (.int .i64 (cmp a b)) ∧ Hid (Below w.heap.size w w') := by
  have HA : Hid (∀ W, Calls Tryz.prog 161 #[.string a] W fun e w' => e = .returned (.string ⟨(txt (fl a)).toArray⟩) ∧ Hid (Below W.heap.size W w')) := fun W => fold_any a W ha
  have HB : Hid (∀ W, Calls Tryz.prog 161 #[.string b] W fun e w' => e = .returned (.string ⟨(txt (fl b)).toArray⟩) ∧ Hid (Below W.heap.size W w')) := fun W => fold_any b W hb
  have HC : Hid (∀ W, Calls Tryz.prog 160 #[.string ⟨(txt (fl a)).toArray⟩, .string ⟨(txt (fl b)).toArray⟩] W fun e w' => e = .returned (.int .i64 (cmp a b)) ∧ w' = W) := fun W => scmp_any _ _ W
  go_enter Tryz.func157, Tryz.ntmps157
  go_wp2_with fail
  refine (HA.out _).mono ?_
  rintro e w1 ⟨rfl, H1⟩
  go_wp2_with fail
  refine (HB.out _).mono ?_
  rintro e w2 ⟨rfl, H2⟩
  go_wp2_with fail
  refine (HC.out _).mono ?_
  rintro e w3 ⟨rfl, rfl⟩
  go_wp2
  go_ret
  exact ⟨rfl, H1.out.trans (H2.out.mono H1.out.size)⟩
set_option maxRecDepth 100000 in
set_option maxHeartbeats 400000 in
theorem same_any (a b : ByteArray) (w : World) (ha : a.size ≤ 9223372036854775807) (hb : b.size ≤ 9223372036854775807) : Calls Tryz.prog 147 #[.string a, .string b] w fun e w' => e = .returned (.bool (cmp a b == 0)) ∧ Hid (Below w.heap.size w w') := by
  go_enter Tryz.func147, Tryz.ntmps147
  go_wp2_with fail
  refine (compare_any a b _ ha hb).mono ?_
  rintro e w1 ⟨rfl, H1⟩
  go_wp2
  go_ret
  exact ⟨rfl, H1.out⟩
end Go.Proofs.YtkjnbgekaifdfaaGreat
namespace Go.Proofs.YtkjnbgekaifdfaaGreat
open Go.ChangeShapes Go.WideShapes Go.ChangeAt Go.RowKit Go.Shelf
set_option linter.unusedVariables false
set_option linter.unusedSimpArgs false
attribute [local go_sem] Oper.semAt_some
theorem comR_snoc : ∀ (P Q : List ByteArray) (x : ByteArray), comR P Q = P.length → comR (P ++ [x]) Q = if P.length < Q.length ∧ cmp x (Q[P.length]?.getD ⟨#[]⟩) = 0 then P.length + 1 else P.length
  | [], [], x, _ => by simp [comR]
  | [], y :: Q, x, _ => by simp [comR]
  | p :: P, [], x, h => by simp [comR] at h
  | p :: P, y :: Q, x, h => by
    simp only [comR] at h
    by_cases hc : cmp p y = 0
    · rw [if_pos hc] at h
      have ih := comR_snoc P Q x (by simpa using h)
      simp only [List.cons_append, comR, if_pos hc, ih, List.length_cons, List.getElem?_cons_succ, Nat.add_lt_add_iff_right]
      split <;> rfl
    · rw [if_neg hc] at h
      simp at h
theorem comR_more : ∀ (P R Q : List ByteArray), comR P Q < P.length → comR (P ++ R) Q = comR P Q
  | [], _, _, h => by simp at h
  | p :: P, R, [], _ => by simp [comR]
  | p :: P, R, y :: Q, h => by
    simp only [comR] at h
    by_cases hc : cmp p y = 0
    · rw [if_pos hc] at h
      simp only [List.cons_append, comR, if_pos hc]
      rw [comR_more P R Q (by simpa using h)]
    · simp only [List.cons_append, comR, if_neg hc]
set_option maxRecDepth 100000 in
set_option maxHeartbeats 2000000 in
theorem pcommon_any (a b : Option Addr) (n m c d : Nat) (ss ts : List ByteArray) (w : World) (h : Nm w a n ss) (h' : Nm w b m ts) : Calls Tryz.prog 133 #[.slice a n c, .slice b m d] w fun e w' => e = .returned (.int .i64 (ncom ss ts)) ∧ Hid (Below w.heap.size w w') := by
  have hs : ∀ s ∈ ss.reverse, s.size ≤ 1000000000000 := fun s hs => h.mem s (by simpa using hs)
  have hR := h.rd
  have hR' := h'.rd
  have hl := h.len
  have hl' := h'.len
  have hn63 := h.n63
  have hm63 := h'.n63
  have HM : Hid (∀ s ∈ ts, s.size ≤ 1000000000000) := h'.mem
  clear h h'
  refine (callsIn_wide (n := 3)).1 ?_
  refine callsIn_of_wp_marks Tryz.func133 rfl trivial ?_ rfl
  simp only [Tryz.ntmps133, List.size_toArray, List.length_cons, List.length_nil, Nat.reduceAdd, Nat.reduceSub, Array.replicate_succ, Array.replicate_zero, List.push_toArray, List.append_toArray, List.nil_append, List.cons_append]
  gi_wp2_with (refine ⟨trivial, ?_⟩; gi_at_call 146; refine (callsIn_wide.2 (back_any _ _ _ _)).mono ?_; rintro e w' ⟨rfl, rfl⟩)
  have bB0 := ((Boxed.new w 51 (.slice b m d)).alloc (.cells #[.int .i64 0] 3)).alloc (.cells #[.slice a n c] 51)
  have bS0 := (Boxed.new (w.alloc (.cells #[.slice b m d] 51)) 3 (.int .i64 0)).alloc (.cells #[.slice a n c] 51)
  have bN0 := Boxed.new ((w.alloc (.cells #[.slice b m d] 51)).alloc (.cells #[.int .i64 0] 3)) 51 (.slice a n c)
  simp only [World.size_alloc] at bS0 bN0
  have hB0 : Below w.heap.size w (((w.alloc (.cells #[.slice b m d] 51)).alloc (.cells #[.int .i64 0] 3)).alloc (.cells #[.slice a n c] 51)) := (((Below.refl _ w).alloc (Nat.le_refl _) _).alloc (by simp) _).alloc (by simp; omega) _
  have hz0 : (((w.alloc (.cells #[.slice b m d] 51)).alloc (.cells #[.int .i64 0] 3)).alloc (.cells #[.slice a n c] 51)).heap.size = w.heap.size + 3 := by simp
  generalize ((w.alloc (.cells #[.slice b m d] 51)).alloc (.cells #[.int .i64 0] 3)).alloc (.cells #[.slice a n c] 51) = W0 at *
  have HT : Hid (ts.reverse.length = m) := by show _ = _; rw [List.length_reverse, hl']
  refine wpIn_rangeFunc_ownG rfl (by omega) (gf := 156) (lb := #[.pointer (some ⟨w.heap.size + 1 + 1, 0, none⟩)]) rfl trivial (enters_of Tryz.func156 (by kernel_rfl) rfl)
    (back_stops Fence.wide _ trivial rfl (by omega) (w.heap.size + 1 + 1) a n c ss hs hl hn63 w W0 hR hB0 bN0) kpB_t (kpB_b (by omega)) (Below.refl _ _) (fun _ => rfl)
    (fun pre W => ((Boxed W w.heap.size 51 (.slice b m d) ∧ Boxed W (w.heap.size + 1) 3 (.int .i64 (pre.length : Int))) ∧ Hid (comR (labsOf pre) ts.reverse = pre.length ∧ pre.length ≤ m)) ∧ Below w.heap.size w W)
    (fun cc pre W => (cc = .exit 0 ∧ ∃ q : Nat, Boxed W (w.heap.size + 1) 3 (.int .i64 (q : Int)) ∧ Hid (comR (labsOf pre) ts.reverse = q ∧ q < pre.length ∧ q ≤ m)) ∧ Below w.heap.size w W)
    (OwnFrom.and (OwnFrom.and (OwnFrom.and ((boxed_own _ _ _).from _) ((boxed_own _ _ _).from _)) (ownFrom_pure _ _)) (ownFrom_below (Nat.le_refl _) (by omega)))
    (fun cc => OwnFrom.and (fun s A B row hs hg hr => by
      obtain ⟨e1, q, e2, e3⟩ := hs
      exact ⟨e1, q, ((boxed_own (β := Unit) (w.heap.size + 1) 3 (fun _ => .int .i64 (q : Int))).from _) () A B row e2 hg hr, e3⟩) (ownFrom_below (Nat.le_refl _) (by omega)))
    ⟨⟨⟨bB0, bS0⟩, by simp [labsOf, comR], Nat.zero_le _⟩, hB0⟩
    (fun x => { tmps := #[.slice a n c, .slice b m d, undef, .pointer (some ⟨w.heap.size, 0, none⟩), .int .i64 0, .pointer (some ⟨w.heap.size + 1, 0, none⟩), undef, .string x.1.2, .slice a n c, .func (.func 156) #[] #[.pointer (some ⟨w.heap.size + 1 + 1, 0, none⟩)], .int .i64 x.1.1, .string x.1.2, undef, undef, undef, undef, undef, undef, undef, undef, undef, undef, undef, undef, undef, undef, undef, undef, undef, undef, undef, undef], defers := [] }) ?assign ?body ?done ?stop
  case assign =>
    intro l x W K hK
    gi_wp2
    exact hK
  case body =>
    rintro l pre ⟨⟨xi, s⟩, hsz⟩ W ⟨⟨⟨hbB, hbS⟩, HC⟩, hB⟩ _
    have hcB := hbB.cell
    have hcS := hbS.cell
    have hfS := hbS.frozen
    clear bB0 bS0 bN0
    have hpl : (pre ++ [(⟨(xi, s), hsz⟩ : Lab)]).length = pre.length + 1 := by simp
    have HL : Hid (labsOf (pre ++ [(⟨(xi, s), hsz⟩ : Lab)]) = labsOf pre ++ [s] ∧ (labsOf pre).length = pre.length) := ⟨by simp [labsOf], by simp [labsOf]⟩
    have HSn : Hid (comR (labsOf pre ++ [s]) ts.reverse = if pre.length < m ∧ cmp s (ts.reverse[pre.length]?.getD ⟨#[]⟩) = 0 then pre.length + 1 else pre.length) := by
      have := comR_snoc (labsOf pre) ts.reverse s (by rw [HL.out.2]; exact HC.out.1)
      rw [HL.out.2, HT.out] at this
      exact this
    have hle := HC.out.2
    generalize hq : pre.length = q at *
    dsimp only at hsz ⊢
    by_cases hm : q = m
    · have hfin : comR (labsOf pre ++ [s]) ts.reverse = q := by rw [HSn.out, if_neg (by omega)]
      have hb1 : ((q : Int) == (m : Int)) = true := by simp [hm]
      have HI : Hid (comR (labsOf (pre ++ [(⟨(xi, s), hsz⟩ : Lab)])) ts.reverse = q ∧ q < q + 1 ∧ q ≤ m) := ⟨by rw [HL.out.1]; exact hfin, by omega, by omega⟩
      clear HSn hfin HL
      have HIx : Hid ((pre ++ [(⟨(xi, s), hsz⟩ : Lab)]).length = q + 1) := hpl
      clear hpl
      gi_wp2
      refine ⟨trivial, ?_⟩
      gi_wp2
      refine ⟨KeepsFrom.refl _ _, ⟨rfl, q, ?_, ?_⟩, hB⟩
      · exact hbS
      · show _ ∧ _; rw [HIx.out]; exact HI.out
    · have hm' : q < m := by omega
      have hb1 : ((q : Int) == (m : Int)) = false := by simp; omega
      have p2 : ts.length - 1 - q < ts.length := by omega
      obtain ⟨b2, o2, rfl, l2, c2⟩ := (hR'.below hB).at (ts.length - 1 - q) p2
      have z2 := HM.out _ (List.getElem_mem p2)
      have hrev : ts.reverse[q]?.getD ⟨#[]⟩ = ts[ts.length - 1 - q] := by
        rw [List.getElem?_eq_getElem (by rw [HT.out]; exact hm')]
        simp
      have HSs : Hid (comR (labsOf (pre ++ [(⟨(xi, s), hsz⟩ : Lab)])) ts.reverse = if cmp s ts[ts.length - 1 - q] = 0 then q + 1 else q) := by
        show _ = _
        rw [HL.out.1, HSn.out, hrev]
        by_cases hc : cmp s ts[ts.length - 1 - q] = 0
        · rw [if_pos ⟨hm', hc⟩, if_pos hc]
        · rw [if_neg (fun h => hc h.2), if_neg hc]
      have KC : Hid (∀ W, Calls Tryz.prog 147 #[.string s, .string ts[ts.length - 1 - q]] W fun e w' => e = .returned (.bool (cmp s ts[ts.length - 1 - q] == 0)) ∧ Hid (Below W.heap.size W w')) := fun W => same_any _ _ W (by omega) (by omega)
      clear HSn HL hrev
      generalize ts[ts.length - 1 - q] = t at *
      rw [hl'] at c2
      obtain ⟨j2, hj2⟩ : ∃ j, m - 1 - q = j := ⟨_, rfl⟩
      rw [hj2] at c2
      have e3 : IntKind.i64.wrap ((m : Int) - 1) = (m : Int) - 1 := by rw [IntKind.wrap_i64]; omega
      have e4 : IntKind.i64.wrap ((m : Int) - 1 - (q : Int)) = (j2 : Int) := by rw [IntKind.wrap_i64]; omega
      have q2 : (j2 : Int) < (m : Int) := by omega
      have HIx : Hid ((pre ++ [(⟨(xi, s), hsz⟩ : Lab)]).length = q + 1) := hpl
      have HB : Hid (Below w.heap.size w W ∧ Boxed W (w.heap.size + 1) 3 (.int .i64 (q : Int)) ∧ Boxed W w.heap.size 51 (.slice (some ⟨b2, o2, none⟩) m d)) := ⟨hB, hbS, hbB⟩
      clear hpl p2 z2 hj2 hR hR' hB0 hB hbS hbB hm
      generalize hr : (cmp s t == 0) = r at *
      have HAll : Hid (∀ w2, Below W.heap.size W w2 → KeepsFrom W0.heap.size W w2 ∧ KpB w.heap.size (w.heap.size + 1 + 1) W w2 ∧ Below w.heap.size w w2 ∧ Boxed w2 (w.heap.size + 1) 3 (.int .i64 (q : Int)) ∧ Boxed w2 w.heap.size 51 (.slice (some ⟨b2, o2, none⟩) m d)) := fun w2 H2 =>
        ⟨⟨H2.size, fun k o _ hk _ => (H2.block k (Array.getElem?_eq_some_iff.1 hk).1).trans hk⟩, ⟨H2.mono HB.out.1.size, fun v hv => (H2.block _ hv.lt).trans hv⟩, HB.out.1.trans (H2.mono HB.out.1.size), (H2.block _ HB.out.2.1.lt).trans HB.out.2.1, (H2.block _ HB.out.2.2.lt).trans HB.out.2.2⟩
      cases r with
      | true =>
        have h0 : cmp s t = 0 := by simpa using hr
        have HI : Hid (comR (labsOf (pre ++ [(⟨(xi, s), hsz⟩ : Lab)])) ts.reverse = q + 1) := by show _ = _; rw [HSs.out, if_pos h0]
        clear HSs h0 hr
        gi_wp2_with (refine ⟨trivial, ?_⟩; gi_at_call 147; refine (CallsIn.inRound l (callsIn_wide.2 (KC.out _))).mono ?_; rintro e w2 ⟨rfl, H2⟩; have hcS2 := (HAll.out w2 H2.out).2.2.2.1.cell; have hfS2 := (HAll.out w2 H2.out).2.2.2.1.frozen)
        obtain ⟨k1, k2, k3, k4, k5⟩ := HAll.out w2 H2.out
        refine ⟨k1.trans ((KeepsOthers.setCell _ _ _).from _), kpB_t k2 ⟨(Below.refl _ _).setCell (p := ⟨w.heap.size + 1, 0, none⟩) (by simp) _, fun v hv => hv.other (by omega) _⟩, ⟨⟨k5.other (by omega) _, ?_⟩, ?_⟩, k3.setCell (p := ⟨w.heap.size + 1, 0, none⟩) (by simp) _⟩
        · rw [HIx.out]
          exact k4.set _
        · show _ ∧ _
          rw [HIx.out]
          exact ⟨HI.out, by omega⟩
      | false =>
        have h0 : ¬ cmp s t = 0 := by simpa using hr
        have HI : Hid (comR (labsOf (pre ++ [(⟨(xi, s), hsz⟩ : Lab)])) ts.reverse = q) := by show _ = _; rw [HSs.out, if_neg h0]
        clear HSs h0 hr
        gi_wp2_with (refine ⟨trivial, ?_⟩; gi_at_call 147; refine (CallsIn.inRound l (callsIn_wide.2 (KC.out _))).mono ?_; rintro e w2 ⟨rfl, H2⟩)
        obtain ⟨k1, k2, k3, k4, k5⟩ := HAll.out w2 H2.out
        refine ⟨k1, ⟨rfl, q, k4, ?_⟩, k3⟩
        show _ ∧ _
        rw [HIx.out]
        exact ⟨HI.out, by omega, by omega⟩
  case done =>
    rintro D ys W hD rfl ⟨⟨⟨hbB, hbS⟩, HC⟩, hB⟩ hK
    have hcS := hbS.cell
    have hT : ncom ss ts = (bup ss hs n).length := by
      have := HC.out.1
      rw [labsOf_bup ss hs n (by omega), List.take_of_length_le (by simp; omega)] at this
      exact this
    have HT2 : Hid (ncom ss ts = (bup ss hs n).length) := hT
    clear hT HC
    generalize (bup ss hs n).length = q at *
    gi_wp2
    refine ⟨by simp, .inl ⟨_, _, rfl, run_takeDeferred hK, ?_⟩⟩
    exact ⟨_, results_tmp rfl _ _ _, by rw [HT2.out]; rfl, hB.trans (belowK_b (w := w) (Nat.le_refl _) W D _ _ (by omega) hK rfl rfl)⟩
  case stop =>
    rintro D cc pre W hD ⟨k, hk, rfl⟩ ⟨⟨rfl, q, hbS, HC⟩, hB⟩ hK
    have hcS := hbS.cell
    have hT : ncom ss ts = q := by
      have := HC.out
      rw [bup_len, labsOf_bup ss hs k (by omega)] at this
      have e := comR_more (ss.reverse.take k) (ss.reverse.drop k) ts.reverse (by rw [this.1, List.length_take]; simp; omega)
      rw [List.take_append_drop] at e
      rw [ncom, e, this.1]
    have HT2 : Hid (ncom ss ts = q) := hT
    clear hT HC
    gi_wp2
    refine ⟨by simp, .inl ⟨_, _, rfl, run_takeDeferred hK, ?_⟩⟩
    exact ⟨_, results_tmp rfl _ _ _, by rw [HT2.out]; rfl, hB.trans (belowK_b (w := w) (Nat.le_refl _) W D _ _ (by omega) hK rfl rfl)⟩
end Go.Proofs.YtkjnbgekaifdfaaGreat
namespace Go.Proofs.YtkjnbgekaifdfaaGreat
open Go.ChangeShapes Go.WideShapes Go.ChangeAt Go.RowKit
set_option linter.unusedVariables false
set_option linter.unusedSimpArgs false
set_option maxRecDepth 100000 in
set_option maxHeartbeats 1000000 in
theorem punder_any (a b : Option Addr) (n m c d : Nat) (ss ts : List ByteArray) (w : World) (h : Nm w a n ss) (h' : Nm w b m ts) :
    Calls Tryz.prog 121 #[.slice a n c, .slice b m d] w fun e w' => e = .returned (.bool (nunder ss ts)) ∧ Hid (Below w.heap.size w w') := by
  have KM : Hid (Calls Tryz.prog 133 #[.slice a n c, .slice b m d] w fun e w' => e = .returned (.int .i64 (ncom ss ts)) ∧ Hid (Below w.heap.size w w')) := pcommon_any a b n m c d ss ts w h h'
  have hn := h.n63
  have hm := h'.n63
  have HE : Hid (nunder ss ts = (ncom ss ts == m)) := by show _ = _; unfold nunder; rw [h'.len]
  clear h h'
  generalize ncom ss ts = k at *
  go_enter Tryz.func121, Tryz.ntmps121
  go_wp2_with fail
  refine KM.out.mono ?_
  rintro e w1 ⟨rfl, H1⟩
  go_wp2
  go_ret
  refine ⟨?_, H1⟩
  rw [HE.out]
  exact ret_bool (beq_nat _ _)
set_option maxRecDepth 100000 in
set_option maxHeartbeats 1000000 in
theorem psame_any (a b : Option Addr) (n m c d : Nat) (ss ts : List ByteArray) (w : World) (h : Nm w a n ss) (h' : Nm w b m ts) :
    Calls Tryz.prog 105 #[.slice a n c, .slice b m d] w fun e w' => e = .returned (.bool (nsame ss ts)) ∧ Hid (Below w.heap.size w w') := by
  have KM : Hid (Calls Tryz.prog 121 #[.slice a n c, .slice b m d] w fun e w' => e = .returned (.bool (nunder ss ts)) ∧ Hid (Below w.heap.size w w')) := punder_any a b n m c d ss ts w h h'
  have hn := h.n63
  have hm := h'.n63
  have HE : Hid (nsame ss ts = (n == m && nunder ss ts)) := by
    show _ = _
    unfold nsame nunder
    rw [h.len, h'.len]
    by_cases hq : n = m
    · rw [hq]
    · rw [show (n == m) = false from beq_eq_false_iff_ne.2 hq, Bool.false_and, Bool.false_and]
  clear h h'
  generalize nunder ss ts = k at *
  by_cases hq : n = m
  · subst hq
    go_enter Tryz.func105, Tryz.ntmps105
    go_wp2_with fail
    refine KM.out.mono ?_
    rintro e w1 ⟨rfl, H1⟩
    go_wp2
    go_ret
    refine ⟨?_, H1⟩
    rw [HE.out]
    exact ret_bool (by simp)
  · have hq' : ((n : Int) == (m : Int)) = false := by simp; omega
    have HF : Hid (nsame ss ts = false) := by show _ = _; rw [HE.out]; simp [hq]
    go_enter Tryz.func105, Tryz.ntmps105
    go_wp2
    go_ret
    exact ⟨by rw [HF.out]; rfl, Below.refl _ _⟩
end Go.Proofs.YtkjnbgekaifdfaaGreat
namespace Go.Proofs.YtkjnbgekaifdfaaGreat
open Go.ChangeShapes Go.WideShapes Go.ChangeAt Go.RowKit
set_option linter.unusedVariables false
set_option linter.unusedSimpArgs false
theorem newT_below (w : World) (a b : Obj) : Below w.heap.size w ((w.alloc a).alloc b) := ((Below.refl _ w).alloc (Nat.le_refl _) _).alloc (by simp) _
set_option maxRecDepth 100000 in
set_option maxHeartbeats 4000000 in
theorem together78 (x y : RA) (r s : Rec) (w : World) (h1 : TRd w x.o r.ow) (h2 : TRd w y.o s.ow) (z1 : nsz r.ow ≤ 1000) (z2 : nsz s.ow ≤ 1000) : Calls Tryz.prog 78 #[.agg #[.slice x.o.a x.o.n x.o.c, .int .u16 r.t, .int .u16 r.cl, .int .u32 r.tt, .slice x.d.p1.a x.d.p1.n x.d.p1.c, .slice x.d.p2.a x.d.p2.n x.d.p2.c, .slice x.d.p3.a x.d.p3.n x.d.p3.c, .slice x.d.p4.a x.d.p4.n x.d.p4.c], .agg #[.slice y.o.a y.o.n y.o.c, .int .u16 s.t, .int .u16 s.cl, .int .u32 s.tt, .slice y.d.p1.a y.d.p1.n y.d.p1.c, .slice y.d.p2.a y.d.p2.n y.d.p2.c, .slice y.d.p3.a y.d.p3.n y.d.p3.c, .slice y.d.p4.a y.d.p4.n y.d.p4.c]] w fun e w' => e = .returned (.bool (togF r s)) ∧ Hid (Below w.heap.size w w') := by
  have hb := newT_below w (.cells #[.slice x.o.a x.o.n x.o.c, .int .u16 r.t, .int .u16 r.cl, .int .u32 r.tt, .slice x.d.p1.a x.d.p1.n x.d.p1.c, .slice x.d.p2.a x.d.p2.n x.d.p2.c, .slice x.d.p3.a x.d.p3.n x.d.p3.c, .slice x.d.p4.a x.d.p4.n x.d.p4.c] 62) (.cells #[.slice y.o.a y.o.n y.o.c, .int .u16 s.t, .int .u16 s.cl, .int .u32 s.tt, .slice y.d.p1.a y.d.p1.n y.d.p1.c, .slice y.d.p2.a y.d.p2.n y.d.p2.c, .slice y.d.p3.a y.d.p3.n y.d.p3.c, .slice y.d.p4.a y.d.p4.n y.d.p4.c] 62)
  have n1 : Nm ((w.alloc (.cells #[.slice x.o.a x.o.n x.o.c, .int .u16 r.t, .int .u16 r.cl, .int .u32 r.tt, .slice x.d.p1.a x.d.p1.n x.d.p1.c, .slice x.d.p2.a x.d.p2.n x.d.p2.c, .slice x.d.p3.a x.d.p3.n x.d.p3.c, .slice x.d.p4.a x.d.p4.n x.d.p4.c] 62)).alloc (.cells #[.slice y.o.a y.o.n y.o.c, .int .u16 s.t, .int .u16 s.cl, .int .u32 s.tt, .slice y.d.p1.a y.d.p1.n y.d.p1.c, .slice y.d.p2.a y.d.p2.n y.d.p2.c, .slice y.d.p3.a y.d.p3.n y.d.p3.c, .slice y.d.p4.a y.d.p4.n y.d.p4.c] 62)) x.o.a x.o.n r.ow := ⟨(h1.below hb).rd, h1.len, by omega⟩
  have n2 : Nm ((w.alloc (.cells #[.slice x.o.a x.o.n x.o.c, .int .u16 r.t, .int .u16 r.cl, .int .u32 r.tt, .slice x.d.p1.a x.d.p1.n x.d.p1.c, .slice x.d.p2.a x.d.p2.n x.d.p2.c, .slice x.d.p3.a x.d.p3.n x.d.p3.c, .slice x.d.p4.a x.d.p4.n x.d.p4.c] 62)).alloc (.cells #[.slice y.o.a y.o.n y.o.c, .int .u16 s.t, .int .u16 s.cl, .int .u32 s.tt, .slice y.d.p1.a y.d.p1.n y.d.p1.c, .slice y.d.p2.a y.d.p2.n y.d.p2.c, .slice y.d.p3.a y.d.p3.n y.d.p3.c, .slice y.d.p4.a y.d.p4.n y.d.p4.c] 62)) y.o.a y.o.n s.ow := ⟨(h2.below hb).rd, h2.len, by omega⟩
  have KS := Lib.hid (psame_any x.o.a y.o.a x.o.n y.o.n x.o.c y.o.c r.ow s.ow _ n1 n2)
  have HB := Lib.hid hb
  clear h1 h2 z1 z2 hb n1 n2
  have ht : togF r s = (decide (r.t = s.t) && decide (r.cl = s.cl) && nsame r.ow s.ow) := rfl
  obtain ⟨⟨xa, xn, xc⟩, ⟨⟨xa1, xn1, xc1⟩, ⟨xa2, xn2, xc2⟩, ⟨xa3, xn3, xc3⟩, ⟨xa4, xn4, xc4⟩⟩⟩ := x
  obtain ⟨⟨ya, yn, yc⟩, ⟨⟨ya1, yn1, yc1⟩, ⟨ya2, yn2, yc2⟩, ⟨ya3, yn3, yc3⟩, ⟨ya4, yn4, yc4⟩⟩⟩ := y
  obtain ⟨ow, t, cl, tt, dd⟩ := r
  obtain ⟨ow', t', cl', tt', dd'⟩ := s
  simp only at *
  rw [ht]
  generalize nsame ow ow' = q at *
  clear ht
  by_cases e1 : t = t'
  · subst e1
    by_cases e2 : cl = cl'
    · subst e2
      go_enter Tryz.func78, Tryz.ntmps78
      go_wp2_with fail
      refine KS.out.mono ?_
      rintro e w2 ⟨rfl, H2⟩
      have HE : Hid (Below w.heap.size w w2) := HB.out.trans (H2.out.mono HB.out.size)
      go_wp2
      go_ret
      exact ⟨by simp, HE.out⟩
    · have e2' : ((cl : Int) == (cl' : Int)) = false := by simp; omega
      have e2'' : ¬ (cl : Int) = (cl' : Int) := by omega
      clear KS
      go_enter Tryz.func78, Tryz.ntmps78
      go_wp2
      go_ret
      exact ⟨by simp [e2], HB.out⟩
  · have e1' : ((t : Int) == (t' : Int)) = false := by simp; omega
    have e1'' : ¬ (t : Int) = (t' : Int) := by omega
    clear KS
    go_enter Tryz.func78, Tryz.ntmps78
    go_wp2
    go_ret
    exact ⟨by simp [e1], HB.out⟩
end Go.Proofs.YtkjnbgekaifdfaaGreat
namespace Go.Proofs.YtkjnbgekaifdfaaGreat
open Go.ChangeShapes Go.WideShapes Go.ChangeAt Go.RowKit
set_option linter.unusedVariables false
set_option linter.unusedSimpArgs false
def fltP (l : List (RA × Rec)) : List (RA × Rec) := l.filter fun p => !isO p.2
theorem fltP_map (l : List (RA × Rec)) : (fltP l).map (·.2) = flt (l.map (·.2)) := by
  induction l with
  | nil => rfl
  | cons p l ih =>
    unfold fltP flt at *
    by_cases h : isO p.2 <;> simp [h, ih]
theorem fltP_snoc (l : List (RA × Rec)) (p : RA × Rec) : fltP (l ++ [p]) = if isO p.2 then fltP l else fltP l ++ [p] := by
  unfold fltP
  by_cases h : isO p.2 <;> simp [h]
theorem fltP_all {l : List (RA × Rec)} (h : ∀ p ∈ l, isO p.2 = false) : fltP l = l := List.filter_eq_self.2 fun p hp => by simp [h p hp]
theorem row_put8 {B g n c k : Nat} {w : World} {ps : List (RA × Rec)} {y : RA} {r : Rec} (h : w.ownsRow B 62 8 (.slice (some ⟨g, 0, none⟩) n c) n (cellsR ps)) (hn : ps.length = n) (hk : k < n) : ((((((((w.setCell ⟨g, k * 8, none⟩ (.slice y.o.a y.o.n y.o.c)).setCell ⟨g, k * 8 + 1, none⟩ (.int .u16 r.t)).setCell ⟨g, k * 8 + 2, none⟩ (.int .u16 r.cl)).setCell ⟨g, k * 8 + 3, none⟩ (.int .u32 r.tt)).setCell ⟨g, k * 8 + 4, none⟩ (.slice y.d.p1.a y.d.p1.n y.d.p1.c)).setCell ⟨g, k * 8 + 5, none⟩ (.slice y.d.p2.a y.d.p2.n y.d.p2.c)).setCell ⟨g, k * 8 + 6, none⟩ (.slice y.d.p3.a y.d.p3.n y.d.p3.c)).setCell ⟨g, k * 8 + 7, none⟩ (.slice y.d.p4.a y.d.p4.n y.d.p4.c)).ownsRow B 62 8 (.slice (some ⟨g, 0, none⟩) n c) n (cellsR (ps.set k (y, r))) := by
  refine row_put h hn hk fun cur hg hsz _ => ⟨_, heap_set (heap_set (heap_set (heap_set (heap_set (heap_set (heap_set (heap_set hg _ _) _ _) _ _) _ _) _ _) _ _) _ _) _ _, by simp, fun q hq => ?_, fun j hj => ?_⟩
  · have hq' : q = 0 ∨ q = 1 ∨ q = 2 ∨ q = 3 ∨ q = 4 ∨ q = 5 ∨ q = 6 ∨ q = 7 := by omega
    rcases hq' with rfl | rfl | rfl | rfl | rfl | rfl | rfl | rfl <;> simp [Array.getElem?_setIfInBounds, recCells] <;> first | omega | skip
  · simp only [Array.getElem?_setIfInBounds]
    rw [if_neg (by omega), if_neg (by omega), if_neg (by omega), if_neg (by omega), if_neg (by omega), if_neg (by omega), if_neg (by omega), if_neg (by omega)]
theorem grown_tr {w w1 w2 : World} {g : Option Nat} (h : w.grownBy w1 g) (k : w1.grownBy w2 g) : w.grownBy w2 g :=
  ⟨k.os.trans h.os, k.tape.trans h.tape, k.output.trans h.output, Nat.le_trans h.size k.size, fun j hj hg => (k.block j (Nat.lt_of_lt_of_le hj h.size) hg).trans (h.block j hj hg)⟩
theorem grown_bel {w w1 : World} (g : Option Nat) (h : Below w.heap.size w w1) : w.grownBy w1 g := ⟨h.os, h.tape, h.output, h.size, fun j hj _ => h.block j hj⟩
theorem grown8 (w : World) (g p0 p1 p2 p3 p4 p5 p6 p7 : Nat) (a0 a1 a2 a3 a4 a5 a6 a7 : Value) : w.grownBy ((((((((w.setCell ⟨g, p0, none⟩ a0).setCell ⟨g, p1, none⟩ a1).setCell ⟨g, p2, none⟩ a2).setCell ⟨g, p3, none⟩ a3).setCell ⟨g, p4, none⟩ a4).setCell ⟨g, p5, none⟩ a5).setCell ⟨g, p6, none⟩ a6).setCell ⟨g, p7, none⟩ a7) (some g) :=
  grown_tr (grown_tr (grown_tr (grown_tr (grown_tr (grown_tr (grown_tr (grown_set w g p0 a0) (grown_set _ g p1 a1)) (grown_set _ g p2 a2)) (grown_set _ g p3 a3)) (grown_set _ g p4 a4)) (grown_set _ g p5 a5)) (grown_set _ g p6 a6)) (grown_set _ g p7 a7)
theorem setCells_blk {t : TypeId} (g : Nat) : ∀ (vs : List Value) (o : Nat) (w : World) (cur : Array Value), w.heap[g]? = some (.cells cur t) → w.grownBy (w.setCells g o vs) (some g) ∧ ∃ cur', (w.setCells g o vs).heap[g]? = some (.cells cur' t) ∧ cur'.size = cur.size ∧ ∀ j, j < o → cur'[j]? = cur[j]?
  | [], o, w, cur, h => ⟨World.grownBy.refl _ _, cur, h, rfl, fun _ _ => rfl⟩
  | v :: r, o, w, cur, h => by
    obtain ⟨h1, cur', h2, h3, h4⟩ := setCells_blk g r (o + 1) (w.setCell ⟨g, o, none⟩ v) _ (heap_set h o v)
    refine ⟨grown_tr (grown_set w g o v) h1, cur', h2, by simpa using h3, fun j hj => ?_⟩
    rw [h4 j (by omega), Array.getElem?_setIfInBounds, if_neg (by omega)]
theorem run_clear_rec (w : World) (ty : TypeId) (g i n c : Nat) (cur : Array Value) (hg : w.heap[g]? = some (.cells cur 62)) (hn : 0 < n) (hs : i * 8 + n * 8 ≤ cur.size) : ∃ w', (Builtin.clear_ #[24] ty #[.slice (some ⟨g, i * 8, none⟩) n c]).run Tryz.prog w = .ok (.tuple #[]) w' ∧ w.grownBy w' (some g) ∧ ∃ cur', w'.heap[g]? = some (.cells cur' 62) ∧ cur'.size = cur.size ∧ ∀ j, j < i * 8 → cur'[j]? = cur[j]? := by
  obtain ⟨inf, hi, hz0, hz1, hz2⟩ := inf61
  have hv : ∀ w, (zeroValue 62).run Tryz.prog w = .ok (.agg #[.slice none 0 0, .int .u16 0, .int .u16 0, .int .u32 0, .slice none 0 0, .slice none 0 0, .slice none 0 0, .slice none 0 0]) w := fun w => by kernel_rfl
  obtain ⟨zs, hzs⟩ : ∃ zs, zs = (Builtin.zeroCells (Value.agg #[.slice none 0 0, .int .u16 0, .int .u16 0, .int .u32 0, .slice none 0 0, .slice none 0 0, .slice none 0 0, .slice none 0 0]).cells n).toList := ⟨_, rfl⟩
  have hl : zs.length = n * 8 := by
    rw [hzs]
    simp [Builtin.zeroCells, Value.cells]
  have h1 : ∀ v ∈ zs, v.oneCell' = true := by
    intro v hv'
    rw [hzs] at hv'
    simp only [Builtin.zeroCells, Value.cells, Array.toList_map, List.mem_map] at hv'
    obtain ⟨q, _, rfl⟩ := hv'
    have : q % 8 = 0 ∨ q % 8 = 1 ∨ q % 8 = 2 ∨ q % 8 = 3 ∨ q % 8 = 4 ∨ q % 8 = 5 ∨ q % 8 = 6 ∨ q % 8 = 7 := by omega
    simp only [show (#[Value.slice none 0 0, .int .u16 0, .int .u16 0, .int .u32 0, .slice none 0 0, .slice none 0 0, .slice none 0 0, .slice none 0 0] : Array Value).size = 8 from rfl]
    rcases this with e | e | e | e | e | e | e | e <;> rw [e] <;> rfl
  have hst := run_storeCells_cells (P := Tryz.prog) g (i * 8) zs 0 w (fun j hj => by
    rw [Nat.add_zero]
    unfold World.cell?
    simp [hg]
    omega) (fun j hj => by rw [Nat.add_zero]; exact box_frozen hg _) h1
  rw [Nat.add_zero] at hst
  obtain ⟨g1, cur', g2, g3, g4⟩ := setCells_blk g zs (i * 8) w cur hg
  refine ⟨_, ?_, g1, cur', g2, g3, g4⟩
  obtain ⟨m, rfl⟩ : ∃ m, n = m + 1 := ⟨n - 1, by omega⟩
  simp [Builtin.clear_, run_underlying Tryz.underlying24, hv, ← hzs, hst]
end Go.Proofs.YtkjnbgekaifdfaaGreat
namespace Go.Proofs.YtkjnbgekaifdfaaGreat
open Go.ChangeShapes Go.WideShapes Go.ChangeAt Go.RowKit
set_option linter.unusedVariables false
set_option linter.unusedSimpArgs false
theorem neq108_none (w : World) : (binOp .neq 108 (.pointer none) (.pointer none)).run Tryz.prog w = .ok (.bool false) w := by kernel_rfl
theorem neq108_some (a : Addr) (w : World) : (binOp .neq 108 (.pointer (some a)) (.pointer none)).run Tryz.prog w = .ok (.bool true) w := by kernel_rfl
theorem follow48 (w : World) : Calls Tryz.prog 48 #[] w fun e w' => e = .returned (.func (.func 77) #[] #[.pointer (some ⟨w.heap.size, 0, none⟩)]) ∧ w' = w.alloc (.cells #[.pointer none] 108) := by
  go_enter Tryz.func48, Tryz.ntmps48
  go_wp2
  go_ret
  exact ⟨rfl, rfl⟩
/-- What the closure holds: nothing, or the record ahead. -/
def Ahd (w : World) (p : Nat) (o : Option (RA × Rec)) : Prop := match o with
  | none => w.heap[p]? = some (.cells #[.pointer none] 108)
  | some (y, s) => ∃ q, q ≠ p ∧ w.heap[p]? = some (.cells #[.pointer (some ⟨q, 0, none⟩)] 108) ∧ w.heap[q]? = some (.cells #[.slice y.o.a y.o.n y.o.c, .int .u16 s.t, .int .u16 s.cl, .int .u32 s.tt, .slice y.d.p1.a y.d.p1.n y.d.p1.c, .slice y.d.p2.a y.d.p2.n y.d.p2.c, .slice y.d.p3.a y.d.p3.n y.d.p3.c, .slice y.d.p4.a y.d.p4.n y.d.p4.c] 62)
set_option maxRecDepth 100000 in
set_option maxHeartbeats 4000000 in
theorem follow77_none (p : Nat) (x : RA) (r : Rec) (w : World) (hp : w.heap[p]? = some (.cells #[.pointer none] 108)) : Calls Tryz.prog 77 #[.agg #[.slice x.o.a x.o.n x.o.c, .int .u16 r.t, .int .u16 r.cl, .int .u32 r.tt, .slice x.d.p1.a x.d.p1.n x.d.p1.c, .slice x.d.p2.a x.d.p2.n x.d.p2.c, .slice x.d.p3.a x.d.p3.n x.d.p3.c, .slice x.d.p4.a x.d.p4.n x.d.p4.c], .pointer (some ⟨p, 0, none⟩)] w fun e w' => e = .returned (.bool false) ∧ Hid (Ahd w' p (some (x, r)) ∧ w.grownBy w' (some p)) := by
  have hb := newF_below w (.cells #[.slice x.o.a x.o.n x.o.c, .int .u16 r.t, .int .u16 r.cl, .int .u32 r.tt, .slice x.d.p1.a x.d.p1.n x.d.p1.c, .slice x.d.p2.a x.d.p2.n x.d.p2.c, .slice x.d.p3.a x.d.p3.n x.d.p3.c, .slice x.d.p4.a x.d.p4.n x.d.p4.c] 62)
  have hp1 : (w.alloc (.cells #[.slice x.o.a x.o.n x.o.c, .int .u16 r.t, .int .u16 r.cl, .int .u32 r.tt, .slice x.d.p1.a x.d.p1.n x.d.p1.c, .slice x.d.p2.a x.d.p2.n x.d.p2.c, .slice x.d.p3.a x.d.p3.n x.d.p3.c, .slice x.d.p4.a x.d.p4.n x.d.p4.c] 62)).heap[p]? = some (.cells #[.pointer none] 108) := (hb.block p (box_lt hp)).trans hp
  have hq1 : (w.alloc (.cells #[.slice x.o.a x.o.n x.o.c, .int .u16 r.t, .int .u16 r.cl, .int .u32 r.tt, .slice x.d.p1.a x.d.p1.n x.d.p1.c, .slice x.d.p2.a x.d.p2.n x.d.p2.c, .slice x.d.p3.a x.d.p3.n x.d.p3.c, .slice x.d.p4.a x.d.p4.n x.d.p4.c] 62)).heap[w.heap.size]? = some (.cells #[.slice x.o.a x.o.n x.o.c, .int .u16 r.t, .int .u16 r.cl, .int .u32 r.tt, .slice x.d.p1.a x.d.p1.n x.d.p1.c, .slice x.d.p2.a x.d.p2.n x.d.p2.c, .slice x.d.p3.a x.d.p3.n x.d.p3.c, .slice x.d.p4.a x.d.p4.n x.d.p4.c] 62) := heap_alloc_new _ _
  have lp := box_lt hp
  have HB := Lib.hid hb
  have HP := Lib.hid hp1
  have HQ := Lib.hid hq1
  have c0 : (w.alloc (.cells #[.slice x.o.a x.o.n x.o.c, .int .u16 r.t, .int .u16 r.cl, .int .u32 r.tt, .slice x.d.p1.a x.d.p1.n x.d.p1.c, .slice x.d.p2.a x.d.p2.n x.d.p2.c, .slice x.d.p3.a x.d.p3.n x.d.p3.c, .slice x.d.p4.a x.d.p4.n x.d.p4.c] 62)).drew.cell? ⟨p, 0, none⟩ = some (.pointer none) := box_cell hp1 0 _ rfl
  have nn := neq108_none
  clear hp hb hp1 hq1
  go_enter Tryz.func77, Tryz.ntmps77
  go_wp2_with fail
  generalize w.alloc (.cells #[.slice x.o.a x.o.n x.o.c, .int .u16 r.t, .int .u16 r.cl, .int .u32 r.tt, .slice x.d.p1.a x.d.p1.n x.d.p1.c, .slice x.d.p2.a x.d.p2.n x.d.p2.c, .slice x.d.p3.a x.d.p3.n x.d.p3.c, .slice x.d.p4.a x.d.p4.n x.d.p4.c] 62) = w0 at *
  have c1 := box_cell HP.out 0 _ rfl
  have l0 := box_lt HP.out
  go_quiet (fail)
  have HP2 : Hid ((w0.drewN nq).heap[p]? = some (.cells #[.pointer none] 108)) := HP.out
  have HQ2 : Hid ((w0.drewN nq).heap[w.heap.size]? = some (.cells #[.slice x.o.a x.o.n x.o.c, .int .u16 r.t, .int .u16 r.cl, .int .u32 r.tt, .slice x.d.p1.a x.d.p1.n x.d.p1.c, .slice x.d.p2.a x.d.p2.n x.d.p2.c, .slice x.d.p3.a x.d.p3.n x.d.p3.c, .slice x.d.p4.a x.d.p4.n x.d.p4.c] 62)) := HQ.out
  have HB2 : Hid (w.grownBy (w0.drewN nq) (some p)) := ⟨HB.out.os, HB.out.tape, HB.out.output, HB.out.size, fun j hj _ => HB.out.block j hj⟩
  clear HP HQ HB c0 c1 l0
  generalize w0.drewN nq = w2 at *
  have c1 := box_cell HP2.out 0 _ rfl
  have f1 : w2.frozen? ⟨p, 0, none⟩ = false := box_frozen HP2.out _
  have l1 := box_lt HP2.out
  have HE : Hid (Ahd (w2.setCell ⟨p, 0, none⟩ (.pointer (some ⟨w.heap.size, 0, none⟩))) p (some (x, r)) ∧ w.grownBy (w2.setCell ⟨p, 0, none⟩ (.pointer (some ⟨w.heap.size, 0, none⟩))) (some p)) := by
    refine ⟨⟨w.heap.size, by omega, heap_set HP2.out 0 _, ?_⟩, grown_tr HB2.out (grown_set _ _ _ _)⟩
    exact (Below.heap_setCell _ _ _ _ (by simp only; omega)).trans HQ2.out
  go_wp2
  go_ret
  exact ⟨rfl, HE.out⟩
set_option maxRecDepth 100000 in
set_option maxHeartbeats 8000000 in
theorem follow77_some (p q : Nat) (x y : RA) (r s : Rec) (w : World) (hqp : q ≠ p) (hp : w.heap[p]? = some (.cells #[.pointer (some ⟨q, 0, none⟩)] 108)) (hq : w.heap[q]? = some (.cells #[.slice y.o.a y.o.n y.o.c, .int .u16 s.t, .int .u16 s.cl, .int .u32 s.tt, .slice y.d.p1.a y.d.p1.n y.d.p1.c, .slice y.d.p2.a y.d.p2.n y.d.p2.c, .slice y.d.p3.a y.d.p3.n y.d.p3.c, .slice y.d.p4.a y.d.p4.n y.d.p4.c] 62)) (h1 : ∀ W, Below w.heap.size w W → TRd W y.o s.ow) (h2 : ∀ W, Below w.heap.size w W → TRd W x.o r.ow) (z1 : nsz s.ow ≤ 1000) (z2 : nsz r.ow ≤ 1000) : Calls Tryz.prog 77 #[.agg #[.slice x.o.a x.o.n x.o.c, .int .u16 r.t, .int .u16 r.cl, .int .u32 r.tt, .slice x.d.p1.a x.d.p1.n x.d.p1.c, .slice x.d.p2.a x.d.p2.n x.d.p2.c, .slice x.d.p3.a x.d.p3.n x.d.p3.c, .slice x.d.p4.a x.d.p4.n x.d.p4.c], .pointer (some ⟨p, 0, none⟩)] w fun e w' => e = .returned (.bool (togF s r)) ∧ Hid (Ahd w' p (some (x, r)) ∧ w.grownBy w' (some p)) := by
  have hb := newF_below w (.cells #[.slice x.o.a x.o.n x.o.c, .int .u16 r.t, .int .u16 r.cl, .int .u32 r.tt, .slice x.d.p1.a x.d.p1.n x.d.p1.c, .slice x.d.p2.a x.d.p2.n x.d.p2.c, .slice x.d.p3.a x.d.p3.n x.d.p3.c, .slice x.d.p4.a x.d.p4.n x.d.p4.c] 62)
  have hp1 : (w.alloc (.cells #[.slice x.o.a x.o.n x.o.c, .int .u16 r.t, .int .u16 r.cl, .int .u32 r.tt, .slice x.d.p1.a x.d.p1.n x.d.p1.c, .slice x.d.p2.a x.d.p2.n x.d.p2.c, .slice x.d.p3.a x.d.p3.n x.d.p3.c, .slice x.d.p4.a x.d.p4.n x.d.p4.c] 62)).heap[p]? = some (.cells #[.pointer (some ⟨q, 0, none⟩)] 108) := (hb.block p (box_lt hp)).trans hp
  have hs1 : (w.alloc (.cells #[.slice x.o.a x.o.n x.o.c, .int .u16 r.t, .int .u16 r.cl, .int .u32 r.tt, .slice x.d.p1.a x.d.p1.n x.d.p1.c, .slice x.d.p2.a x.d.p2.n x.d.p2.c, .slice x.d.p3.a x.d.p3.n x.d.p3.c, .slice x.d.p4.a x.d.p4.n x.d.p4.c] 62)).heap[q]? = some (.cells #[.slice y.o.a y.o.n y.o.c, .int .u16 s.t, .int .u16 s.cl, .int .u32 s.tt, .slice y.d.p1.a y.d.p1.n y.d.p1.c, .slice y.d.p2.a y.d.p2.n y.d.p2.c, .slice y.d.p3.a y.d.p3.n y.d.p3.c, .slice y.d.p4.a y.d.p4.n y.d.p4.c] 62) := (hb.block q (box_lt hq)).trans hq
  have hq1 : (w.alloc (.cells #[.slice x.o.a x.o.n x.o.c, .int .u16 r.t, .int .u16 r.cl, .int .u32 r.tt, .slice x.d.p1.a x.d.p1.n x.d.p1.c, .slice x.d.p2.a x.d.p2.n x.d.p2.c, .slice x.d.p3.a x.d.p3.n x.d.p3.c, .slice x.d.p4.a x.d.p4.n x.d.p4.c] 62)).heap[w.heap.size]? = some (.cells #[.slice x.o.a x.o.n x.o.c, .int .u16 r.t, .int .u16 r.cl, .int .u32 r.tt, .slice x.d.p1.a x.d.p1.n x.d.p1.c, .slice x.d.p2.a x.d.p2.n x.d.p2.c, .slice x.d.p3.a x.d.p3.n x.d.p3.c, .slice x.d.p4.a x.d.p4.n x.d.p4.c] 62) := heap_alloc_new _ _
  have lp := box_lt hp
  have lq := box_lt hq
  have HB := Lib.hid hb
  have HP := Lib.hid hp1
  have HQ := Lib.hid hq1
  have HS := Lib.hid hs1
  have K78 : Hid (∀ W, Below w.heap.size w W → Calls Tryz.prog 78 #[.agg #[.slice y.o.a y.o.n y.o.c, .int .u16 s.t, .int .u16 s.cl, .int .u32 s.tt, .slice y.d.p1.a y.d.p1.n y.d.p1.c, .slice y.d.p2.a y.d.p2.n y.d.p2.c, .slice y.d.p3.a y.d.p3.n y.d.p3.c, .slice y.d.p4.a y.d.p4.n y.d.p4.c], .agg #[.slice x.o.a x.o.n x.o.c, .int .u16 r.t, .int .u16 r.cl, .int .u32 r.tt, .slice x.d.p1.a x.d.p1.n x.d.p1.c, .slice x.d.p2.a x.d.p2.n x.d.p2.c, .slice x.d.p3.a x.d.p3.n x.d.p3.c, .slice x.d.p4.a x.d.p4.n x.d.p4.c]] W fun e w' => e = .returned (.bool (togF s r)) ∧ Hid (Below W.heap.size W w')) := fun W hW => together78 y x s r W (h1 W hW) (h2 W hW) z1 z2
  have nn := neq108_some ⟨q, 0, none⟩
  generalize togF s r = tg at *
  clear hp hq hb hp1 hq1 hs1 h1 h2 z1 z2
  obtain ⟨B, hB⟩ : ∃ B, B = w.heap.size := ⟨_, rfl⟩
  go_enter Tryz.func77, Tryz.ntmps77
  go_wp2_with fail
  generalize w.alloc (.cells #[.slice x.o.a x.o.n x.o.c, .int .u16 r.t, .int .u16 r.cl, .int .u32 r.tt, .slice x.d.p1.a x.d.p1.n x.d.p1.c, .slice x.d.p2.a x.d.p2.n x.d.p2.c, .slice x.d.p3.a x.d.p3.n x.d.p3.c, .slice x.d.p4.a x.d.p4.n x.d.p4.c] 62) = w0 at *
  rw [← hB] at HQ ⊢
  have HBB := Lib.hid hB
  have lB : p < B ∧ q < B := by omega
  clear hB lp lq
  have KS : ∀ W, Below w0.heap.size w0 W → W.cell? ⟨p, 0, none⟩ = some (.pointer (some ⟨q, 0, none⟩)) ∧ W.cell? ⟨q, 0, none⟩ = some (.slice y.o.a y.o.n y.o.c) ∧ W.cell? ⟨q, 1, none⟩ = some (.int .u16 s.t) ∧ W.cell? ⟨q, 2, none⟩ = some (.int .u16 s.cl) ∧ W.cell? ⟨q, 3, none⟩ = some (.int .u32 s.tt) ∧ W.cell? ⟨q, 4, none⟩ = some (.slice y.d.p1.a y.d.p1.n y.d.p1.c) ∧ W.cell? ⟨q, 5, none⟩ = some (.slice y.d.p2.a y.d.p2.n y.d.p2.c) ∧ W.cell? ⟨q, 6, none⟩ = some (.slice y.d.p3.a y.d.p3.n y.d.p3.c) ∧ W.cell? ⟨q, 7, none⟩ = some (.slice y.d.p4.a y.d.p4.n y.d.p4.c) ∧ W.cell? ⟨B, 0, none⟩ = some (.slice x.o.a x.o.n x.o.c) ∧ W.cell? ⟨B, 1, none⟩ = some (.int .u16 r.t) ∧ W.cell? ⟨B, 2, none⟩ = some (.int .u16 r.cl) ∧ W.cell? ⟨B, 3, none⟩ = some (.int .u32 r.tt) ∧ W.cell? ⟨B, 4, none⟩ = some (.slice x.d.p1.a x.d.p1.n x.d.p1.c) ∧ W.cell? ⟨B, 5, none⟩ = some (.slice x.d.p2.a x.d.p2.n x.d.p2.c) ∧ W.cell? ⟨B, 6, none⟩ = some (.slice x.d.p3.a x.d.p3.n x.d.p3.c) ∧ W.cell? ⟨B, 7, none⟩ = some (.slice x.d.p4.a x.d.p4.n x.d.p4.c) := fun W hW => by
    have a1 := (hW.block p (box_lt HP.out)).trans HP.out
    have a2 := (hW.block q (box_lt HS.out)).trans HS.out
    have a3 := (hW.block B (box_lt HQ.out)).trans HQ.out
    exact ⟨box_cell a1 0 _ rfl, box_cell a2 0 _ rfl, box_cell a2 1 _ rfl, box_cell a2 2 _ rfl, box_cell a2 3 _ rfl, box_cell a2 4 _ rfl, box_cell a2 5 _ rfl, box_cell a2 6 _ rfl, box_cell a2 7 _ rfl, box_cell a3 0 _ rfl, box_cell a3 1 _ rfl, box_cell a3 2 _ rfl, box_cell a3 3 _ rfl, box_cell a3 4 _ rfl, box_cell a3 5 _ rfl, box_cell a3 6 _ rfl, box_cell a3 7 _ rfl⟩
  have l1 := box_lt HP.out
  have l2 := box_lt HS.out
  have l3 := box_lt HQ.out
  go_region_held3 (fun W => W.cell? ⟨p, 0, none⟩ = some (.pointer (some ⟨q, 0, none⟩)) ∧ W.cell? ⟨q, 0, none⟩ = some (.slice y.o.a y.o.n y.o.c) ∧ W.cell? ⟨q, 1, none⟩ = some (.int .u16 s.t) ∧ W.cell? ⟨q, 2, none⟩ = some (.int .u16 s.cl) ∧ W.cell? ⟨q, 3, none⟩ = some (.int .u32 s.tt) ∧ W.cell? ⟨q, 4, none⟩ = some (.slice y.d.p1.a y.d.p1.n y.d.p1.c) ∧ W.cell? ⟨q, 5, none⟩ = some (.slice y.d.p2.a y.d.p2.n y.d.p2.c) ∧ W.cell? ⟨q, 6, none⟩ = some (.slice y.d.p3.a y.d.p3.n y.d.p3.c) ∧ W.cell? ⟨q, 7, none⟩ = some (.slice y.d.p4.a y.d.p4.n y.d.p4.c) ∧ W.cell? ⟨B, 0, none⟩ = some (.slice x.o.a x.o.n x.o.c) ∧ W.cell? ⟨B, 1, none⟩ = some (.int .u16 r.t) ∧ W.cell? ⟨B, 2, none⟩ = some (.int .u16 r.cl) ∧ W.cell? ⟨B, 3, none⟩ = some (.int .u32 r.tt) ∧ W.cell? ⟨B, 4, none⟩ = some (.slice x.d.p1.a x.d.p1.n x.d.p1.c) ∧ W.cell? ⟨B, 5, none⟩ = some (.slice x.d.p2.a x.d.p2.n x.d.p2.c) ∧ W.cell? ⟨B, 6, none⟩ = some (.slice x.d.p3.a x.d.p3.n x.d.p3.c) ∧ W.cell? ⟨B, 7, none⟩ = some (.slice x.d.p4.a x.d.p4.n x.d.p4.c)) (first | exact KS _ HB6.out | exact KS _ (Below.refl w0.heap.size w0).drew | exact KS _ (Below.refl w0.heap.size w0)) (first
    | (go_simp; go_at_call 78; refine (K78.out _ HB.out.drew).mono ?_; rintro e w6 ⟨rfl, H6⟩; have HB6 : Hid (Below w0.heap.size w0 w6) := ((Below.refl w0.heap.size w0).drew.trans H6.out))
    | fail)
  have HP6 : Hid (w6.heap[p]? = some (.cells #[.pointer (some ⟨q, 0, none⟩)] 108)) := (HB6.out.block p l1).trans HP.out
  have HQ6 : Hid (w6.heap[B]? = some (.cells #[.slice x.o.a x.o.n x.o.c, .int .u16 r.t, .int .u16 r.cl, .int .u32 r.tt, .slice x.d.p1.a x.d.p1.n x.d.p1.c, .slice x.d.p2.a x.d.p2.n x.d.p2.c, .slice x.d.p3.a x.d.p3.n x.d.p3.c, .slice x.d.p4.a x.d.p4.n x.d.p4.c] 62)) := (HB6.out.block B l3).trans HQ.out
  have hg6 : w.grownBy w6 (some p) := grown_tr (grown_bel _ HB.out) (grown_bel _ (HB6.out))
  have HG6 := Lib.hid hg6
  rename_i hheld
  clear hheld KS l1 l2 l3 hg6
  have c1 := box_cell HP6.out 0 _ rfl
  have f1 : w6.frozen? ⟨p, 0, none⟩ = false := box_frozen HP6.out _
  have l1 := box_lt HP6.out
  have HE : Hid (Ahd (w6.setCell ⟨p, 0, none⟩ (.pointer (some ⟨B, 0, none⟩))) p (some (x, r)) ∧ w.grownBy (w6.setCell ⟨p, 0, none⟩ (.pointer (some ⟨B, 0, none⟩))) (some p)) := by
    refine ⟨⟨B, by omega, heap_set HP6.out 0 _, ?_⟩, grown_tr HG6.out (grown_set _ _ _ _)⟩
    exact (Below.heap_setCell _ _ _ _ (by simp only; omega)).trans HQ6.out
  go_wp2
  go_ret
  exact ⟨rfl, HE.out⟩
def AhdOk (w : World) (o : Option (RA × Rec)) : Prop := ∀ y s, o = some (y, s) → (∀ W, Below w.heap.size w W → TRd W y.o s.ow) ∧ nsz s.ow ≤ 1000
theorem follow77 (p : Nat) (o : Option (RA × Rec)) (x : RA) (r : Rec) (w0 w : World) (h : Ahd w p o) (hb : Below w0.heap.size w0 w) (ho : AhdOk w0 o) (h2 : ∀ W, Below w0.heap.size w0 W → TRd W x.o r.ow) (z2 : nsz r.ow ≤ 1000) : Calls Tryz.prog 77 #[.agg #[.slice x.o.a x.o.n x.o.c, .int .u16 r.t, .int .u16 r.cl, .int .u32 r.tt, .slice x.d.p1.a x.d.p1.n x.d.p1.c, .slice x.d.p2.a x.d.p2.n x.d.p2.c, .slice x.d.p3.a x.d.p3.n x.d.p3.c, .slice x.d.p4.a x.d.p4.n x.d.p4.c], .pointer (some ⟨p, 0, none⟩)] w fun e w' => e = .returned (.bool (o.any fun a => togF a.2 r)) ∧ Hid (Ahd w' p (some (x, r)) ∧ w.grownBy w' (some p)) := by
  cases o with
  | none => exact follow77_none p x r w h
  | some a =>
    obtain ⟨y, s⟩ := a
    obtain ⟨q, q1, q2, q3⟩ := h
    have := ho y s rfl
    exact follow77_some p q x y r s w q1 q2 q3 (fun W hW => this.1 W (hb.trans (hW.mono hb.size))) (fun W hW => h2 W (hb.trans (hW.mono hb.size))) this.2 z2
end Go.Proofs.YtkjnbgekaifdfaaGreat
namespace Go.Proofs.YtkjnbgekaifdfaaGreat
open Go.ChangeShapes Go.WideShapes Go.ChangeAt Go.RowKit
set_option linter.unusedVariables false
set_option linter.unusedSimpArgs false
/-- A list of numbers that can be read. -/
structure IRd (w : World) (s : Sl) (cs : List Nat) : Prop where
  rd : cs = [] ∨ ∃ b o, s.a = some ⟨b, o, none⟩ ∧ b < w.heap.size ∧ ∀ i (h : i < cs.length), w.cell? ⟨b, o + i, none⟩ = some (.int .i64 (cs[i] : Nat))
  len : cs.length = s.n
  cap : s.n ≤ s.c ∧ s.c ≤ 9223372036854775807
  nil : s.a = none → s.c = 0
theorem IRd.below {w w' : World} {s : Sl} {cs : List Nat} (h : IRd w s cs) (hb : Below w.heap.size w w') : IRd w' s cs := by
  refine ⟨?_, h.len, h.cap, h.nil⟩
  rcases h.rd with e | ⟨b, o, e, h1, h2⟩
  · exact .inl e
  · exact .inr ⟨b, o, e, Nat.lt_of_lt_of_le h1 hb.size, fun i hi => (hb.cell (p := ⟨b, o + i, none⟩) h1).trans (h2 i hi)⟩
def ivs (cs : List Nat) : List Value := cs.map fun c => .int .i64 (c : Nat)
/-- A row of numbers of one's own. -/
def CRow (B : Nat) (w : World) (s : Sl) (cs : List Nat) : Prop := cs.length = s.n ∧ w.ownsRow B 3 1 (.slice s.a s.n s.c) s.n (ivs cs)
theorem inf3 : ∃ i, Tryz.prog.info? 3 = some i ∧ i.zero = some (.int .i64 0) ∧ i.size = 1 ∧ i.bytes = 8 := by
  have h : (Tryz.prog.info? 3).map (fun i => (i.zero, i.size, i.bytes)) = some (some (.int .i64 0), 1, 8) := by kernel_rfl
  obtain ⟨i, h1, h2⟩ := Option.map_eq_some_iff.1 h
  simp only [Prod.mk.injEq] at h2
  exact ⟨i, h1, h2.1, h2.2.1, h2.2.2⟩
theorem CRow.ird {B : Nat} {w : World} {s : Sl} {cs : List Nat} (h : CRow B w s cs) : IRd w s cs := by
  obtain ⟨h1, h2⟩ := h
  rcases h2.2 with ⟨e, h0⟩ | ⟨g, cap, cur, e, hb, hg, k1, k2, k3, k4⟩
  · simp only [Value.slice.injEq] at e
    have : cs = [] := List.length_eq_zero_iff.1 (by omega)
    exact ⟨.inl this, h1, ⟨by omega, by omega⟩, fun _ => e.2.2⟩
  · simp only [Value.slice.injEq] at e
    refine ⟨.inr ⟨g, 0, e.1, box_lt hg, fun i hi => ?_⟩, h1, ⟨by omega, by simp only [maxLen] at k2; omega⟩, fun e2 => by rw [e.1] at e2; cases e2⟩
    have := h2.cells (g := g) (by rw [e.1]; rfl) i (.int .i64 (cs[i] : Nat)) (by simp [ivs, hi])
    rw [show (⟨g, 0, none⟩ : Addr).add i = ⟨g, 0 + i, none⟩ by unfold Addr.add; split <;> simp_all] at this
    exact this
theorem CRow.kind {B : Nat} {w : World} {s : Sl} {cs : List Nat} (h : CRow B w s cs) : ∀ g, (Value.slice s.a s.n s.c).ownBlock = some g → ∃ cur, w.heap[g]? = some (.cells cur 3) := by
  intro g hg
  rcases h.2.2 with ⟨e, h0⟩ | ⟨g', cap, cur, e, hb, hg', _⟩
  · rw [e] at hg; cases hg
  · rw [e] at hg
    simp only [Value.ownBlock, Option.some.injEq] at hg
    subst hg
    exact ⟨cur, hg'⟩
theorem CRow.same {B : Nat} {w w' : World} {s : Sl} {cs : List Nat} (h : CRow B w s cs) (hb : ∀ g, (Value.slice s.a s.n s.c).ownBlock = some g → w'.heap[g]? = w.heap[g]?) : CRow B w' s cs := ⟨h.1, row_same h.2 hb⟩
/-- What the closure holds lies in no row of numbers. -/
theorem Ahd.off {w : World} {p : Nat} {o : Option (RA × Rec)} (h : Ahd w p o) {g : Nat} (hk : ∃ cur, w.heap[g]? = some (.cells cur 3)) : g ≠ p := by
  obtain ⟨cur, hc⟩ := hk
  rintro rfl
  cases o with
  | none => have h' : w.heap[g]? = _ := h; rw [h'] at hc; injection hc with hc; injection hc with _ hc; cases hc
  | some a =>
    obtain ⟨q, _, h', _⟩ := h
    rw [h'] at hc; injection hc with hc; injection hc with _ hc; cases hc
theorem Ahd.keep {w w' : World} {p : Nat} {o : Option (RA × Rec)} (h : Ahd w p o) (hb : ∀ j, (∀ cur, w.heap[j]? ≠ some (.cells cur 3)) → j < w.heap.size → w'.heap[j]? = w.heap[j]?) : Ahd w' p o := by
  cases o with
  | none =>
    have h' : w.heap[p]? = _ := h
    exact (hb p (fun cur e => by rw [h'] at e; injection e with e; injection e with _ e; cases e) (box_lt h')).trans h'
  | some a =>
    obtain ⟨q, q1, h1, h2⟩ := h
    exact ⟨q, q1, (hb p (fun cur e => by rw [h1] at e; injection e with e; injection e with _ e; cases e) (box_lt h1)).trans h1, (hb q (fun cur e => by rw [h2] at e; injection e with e; injection e with _ e; cases e) (box_lt h2)).trans h2⟩
theorem CRow.bump {B g n c : Nat} {w : World} {cs : List Nat} (h : CRow B w ⟨some ⟨g, 0, none⟩, n, c⟩ cs) (hn : 0 < n) (z : Nat) (hz : cs[n - 1]? = some z) : CRow B (w.setCell ⟨g, n - 1, none⟩ (.int .i64 ((z + 1 : Nat) : Int))) ⟨some ⟨g, 0, none⟩, n, c⟩ (bumpF cs) := by
  obtain ⟨h1, h2⟩ := h
  simp only at h1
  have hne : cs ≠ [] := by intro e; rw [e] at h1; simp at h1; omega
  refine ⟨by rw [bump_len hne]; exact h1, by unfold ivs; rw [List.length_map, bump_len hne, h1]; simp, ?_⟩
  rcases h2.2 with ⟨e, _⟩ | ⟨g', cap, cur, e, hb, hg, k1, k2, k3, k4⟩
  · cases e
  · simp only [Value.slice.injEq, Option.some.injEq, Addr.mk.injEq, and_true, true_and] at e
    obtain ⟨rfl, rfl⟩ := e
    refine .inr ⟨g, c, _, rfl, hb, heap_set hg _ _, k1, k2, by simpa using k3, ?_⟩
    have e1 : bumpF cs = cs.set (n - 1) (z + 1) := by
      unfold bumpF
      rcases List.eq_nil_or_concat cs with e | ⟨l, x, rfl⟩
      · exact absurd e hne
      · simp at h1
        have : n - 1 = l.length := by omega
        rw [this] at hz ⊢
        simp at hz
        subst hz
        simp
    rw [e1]
    simp only [Nat.mul_one] at k4 ⊢
    unfold ivs at *
    rw [List.map_set, ← k4]
    refine List.ext_getElem? fun q => ?_
    simp only [List.getElem?_take, Array.getElem?_toList, Array.getElem?_setIfInBounds, List.getElem?_set, List.length_take, Array.length_toList]
    have hcs : n ≤ cur.size := by simp only [Nat.mul_one] at k3; simp only at k1; omega
    by_cases hq : q < n
    · by_cases hq1 : n - 1 = q
      · subst hq1
        simp [hq]
        rw [if_pos (by omega), if_pos (by omega)]
      · rw [if_pos hq, if_neg hq1, if_neg hq1, if_pos hq]
    · rw [if_neg hq]
      split
      · split
        · omega
        · rfl
      · rfl
end Go.Proofs.YtkjnbgekaifdfaaGreat
namespace Go.Proofs.YtkjnbgekaifdfaaGreat
open Go.ChangeShapes Go.WideShapes Go.ChangeAt Go.RowKit
set_option linter.unusedVariables false
set_option linter.unusedSimpArgs false
def pick3 (s1 s2 s3 : Sl) (j : Nat) : Sl := if j = 0 then s1 else if j = 1 then s2 else s3
theorem ix84_0 (s1 s2 s3 : Sl) (w : World) : (Instr.index 84 (.agg #[(.slice s1.a s1.n s1.c), (.slice s2.a s2.n s2.c), (.slice s3.a s3.n s3.c)]) (.int .i64 0)).run Tryz.prog w = .ok (.slice s1.a s1.n s1.c) w := by kernel_rfl
theorem ix84_1 (s1 s2 s3 : Sl) (w : World) : (Instr.index 84 (.agg #[(.slice s1.a s1.n s1.c), (.slice s2.a s2.n s2.c), (.slice s3.a s3.n s3.c)]) (.int .i64 1)).run Tryz.prog w = .ok (.slice s2.a s2.n s2.c) w := by kernel_rfl
theorem ix84_2 (s1 s2 s3 : Sl) (w : World) : (Instr.index 84 (.agg #[(.slice s1.a s1.n s1.c), (.slice s2.a s2.n s2.c), (.slice s3.a s3.n s3.c)]) (.int .i64 2)).run Tryz.prog w = .ok (.slice s3.a s3.n s3.c) w := by kernel_rfl
theorem ix84 (s1 s2 s3 : Sl) (j : Nat) (hj : j < 3) (w : World) : (Instr.index 84 (.agg #[(.slice s1.a s1.n s1.c), (.slice s2.a s2.n s2.c), (.slice s3.a s3.n s3.c)]) (.int .i64 (j : Int))).run Tryz.prog w = .ok (.slice (pick3 s1 s2 s3 j).a (pick3 s1 s2 s3 j).n (pick3 s1 s2 s3 j).c) w := by
  have : j = 0 ∨ j = 1 ∨ j = 2 := by omega
  rcases this with rfl | rfl | rfl
  · exact ix84_0 s1 s2 s3 w
  · exact ix84_1 s1 s2 s3 w
  · exact ix84_2 s1 s2 s3 w
theorem others_mem : ∀ {l : List Rec} {r : Rec}, r ∈ othersF l → r ∈ l
  | [], _, h => h
  | a :: l, r, h => by
    unfold othersF at h
    split at h
    · exact List.mem_cons_of_mem _ h
    · rcases List.mem_cons.1 h with h | h
      · rw [h]; exact List.mem_cons_self
      · exact List.mem_cons_of_mem _ (others_mem h)
theorem le_sumS : ∀ (l : List Nat) (x : Nat), x ∈ l → x ≤ l.sum
  | y :: l, x, h => by
    rcases List.mem_cons.1 h with rfl | h
    · simp
    · have := le_sumS l x h; simp; omega
theorem cntJ_sum (m : Mg) (j : Nat) : (cntJ m j).sum ≤ totF m := by
  unfold totF
  unfold cntJ
  split <;> simp [run_sum] <;> omega
theorem goes_any {l : List Rec} {k : Nat} (hk : k < l.length) {o : Option (RA × Rec)} (ho : o.map (·.2) = if k = 0 then none else l[k - 1]?) : (o.any fun a => togF a.2 l[k]) = goesF l k := by
  unfold goesF
  by_cases h0 : k = 0
  · subst h0
    rw [if_pos rfl] at ho
    cases o with
    | none => simp [hk]
    | some a => cases ho
  · rw [if_neg h0] at ho
    have h1 : k - 1 < l.length := by omega
    rw [List.getElem?_eq_getElem h1] at ho
    cases o with
    | none => cases ho
    | some a =>
      injection ho with ho
      rw [List.getElem?_eq_getElem h1, List.getElem?_eq_getElem hk]
      have : 0 < k := by omega
      simp [← ho, this]
set_option maxRecDepth 100000 in
set_option maxHeartbeats 8000000 in
theorem sets22 (H : Hd) (x : MA) (m : Mg) (w : World) (hm : MRd w H x m) (hc : ChkOk m) : Calls Tryz.prog 22 #[.agg #[.int .u16 H.id, .bool H.rs, .int .i64 H.op, .bool H.aa, .bool H.tc, .bool H.rd, .bool H.ra, .bool H.ad, .bool H.cd, .int .i64 H.rc, .slice x.q.a x.q.n x.q.c, .slice x.l1.a x.l1.n x.l1.c, .slice x.l2.a x.l2.n x.l2.c, .slice x.l3.a x.l3.n x.l3.c]] w fun e w' => ∃ t : Sl, e = .returned (.slice t.a t.n t.c) ∧ Hid (IRd w' t (setsF m) ∧ Below w.heap.size w w') := by
  have hb0 := newF_below w (.cells #[.int .u16 H.id, .bool H.rs, .int .i64 H.op, .bool H.aa, .bool H.tc, .bool H.rd, .bool H.ra, .bool H.ad, .bool H.cd, .int .i64 H.rc, .slice x.q.a x.q.n x.q.c, .slice x.l1.a x.l1.n x.l1.c, .slice x.l2.a x.l2.n x.l2.c, .slice x.l3.a x.l3.n x.l3.c] 26)
  have hx0 : (w.alloc (.cells #[.int .u16 H.id, .bool H.rs, .int .i64 H.op, .bool H.aa, .bool H.tc, .bool H.rd, .bool H.ra, .bool H.ad, .bool H.cd, .int .i64 H.rc, .slice x.q.a x.q.n x.q.c, .slice x.l1.a x.l1.n x.l1.c, .slice x.l2.a x.l2.n x.l2.c, .slice x.l3.a x.l3.n x.l3.c] 26)).heap[w.heap.size]? = some (.cells #[.int .u16 H.id, .bool H.rs, .int .i64 H.op, .bool H.aa, .bool H.tc, .bool H.rd, .bool H.ra, .bool H.ad, .bool H.cd, .int .i64 H.rc, .slice x.q.a x.q.n x.q.c, .slice x.l1.a x.l1.n x.l1.c, .slice x.l2.a x.l2.n x.l2.c, .slice x.l3.a x.l3.n x.l3.c] 26) := heap_alloc_new _ _
  have htot := hc.nr
  unfold tot at htot
  have K47 := Lib.hid (fun W (hW : Below w.heap.size w W) => wsaying47 x.l3 m.l3 W (hm.l3.below hW) (by have := hm.l3.len; omega))
  have HM := Lib.hid hm
  have HCK := Lib.hid hc
  have HB0 := Lib.hid hb0
  have HX0 := Lib.hid hx0
  clear hm hc hb0 hx0
  obtain ⟨b, hbb⟩ : ∃ b, b = w.heap.size := ⟨_, rfl⟩
  have HBW := Lib.hid hbb
  go_enter Tryz.func22, Tryz.ntmps22
  go_wp2_with fail
  generalize w.alloc (.cells #[.int .u16 H.id, .bool H.rs, .int .i64 H.op, .bool H.aa, .bool H.tc, .bool H.rd, .bool H.ra, .bool H.ad, .bool H.cd, .int .i64 H.rc, .slice x.q.a x.q.n x.q.c, .slice x.l1.a x.l1.n x.l1.c, .slice x.l2.a x.l2.n x.l2.c, .slice x.l3.a x.l3.n x.l3.c] 26) = w0 at *
  rw [← hbb] at HX0 ⊢
  clear hbb
  have KS : ∀ W, Below w0.heap.size w0 W → W.cell? ⟨b, 11, none⟩ = some (.slice x.l1.a x.l1.n x.l1.c) ∧ W.cell? ⟨b, 12, none⟩ = some (.slice x.l2.a x.l2.n x.l2.c) ∧ W.cell? ⟨b, 13, none⟩ = some (.slice x.l3.a x.l3.n x.l3.c) := fun W hW => by
    have a1 := (hW.block b (box_lt HX0.out)).trans HX0.out
    exact ⟨box_cell a1 11 _ rfl, box_cell a1 12 _ rfl, box_cell a1 13 _ rfl⟩
  have l1 := box_lt HX0.out
  go_region_held3 (fun W => W.cell? ⟨b, 11, none⟩ = some (.slice x.l1.a x.l1.n x.l1.c) ∧ W.cell? ⟨b, 12, none⟩ = some (.slice x.l2.a x.l2.n x.l2.c) ∧ W.cell? ⟨b, 13, none⟩ = some (.slice x.l3.a x.l3.n x.l3.c)) (first | exact KS _ HB6.out | exact KS _ (Below.refl w0.heap.size w0).drew | exact KS _ (Below.refl w0.heap.size w0)) (first
    | (go_simp; go_at_call 47; refine (K47.out _ HB0.out.drew).mono ?_; rintro e w6 ⟨⟨ta, tn, tc⟩, rfl, H6⟩; have HB6 : Hid (Below w0.heap.size w0 w6) := ((Below.refl w0.heap.size w0).drew.trans H6.out.2))
    | fail)
  rename_i hheld
  clear hheld
  have HL : Hid (∀ j, j < 3 → LRd w6 (pick3 x.l1 x.l2 ⟨ta, tn, tc⟩ j) (lstJ m j)) := fun j hj => by
    have hb6 := HB0.out.trans (HB6.out.mono HB0.out.size)
    have : j = 0 ∨ j = 1 ∨ j = 2 := by omega
    rcases this with rfl | rfl | rfl
    · exact HM.out.l1.below hb6
    · exact HM.out.l2.below hb6
    · exact H6.out.1
  have HLR : Hid (∀ j, ∀ r ∈ lstJ m j, nsz r.ow ≤ 1000) := fun j r hr => by
    have hk : nck r.ow = 0 := by
      unfold lstJ at hr
      split at hr
      · exact (HCK.out.l1 r hr).1
      · split at hr
        · exact (HCK.out.l2 r hr).1
        · exact (HCK.out.l3 r (others_mem hr)).1
    have := (nck_small hk).1
    omega
  have HCN : Hid (∀ j, (cntJ m j).length ≤ 512) := fun j => by
    have := cntJ_len m j
    have := (others_len m.l3).1
    unfold totF at *
    omega
  have HLN : Hid (∀ j, (lstJ m j).length ≤ 512) := fun j => by
    have := (others_len m.l3).1
    unfold lstJ
    split
    · omega
    · split <;> omega
  have HBE6 : Hid (Below w.heap.size w w6) := HB0.out.trans (HB6.out.mono HB0.out.size)
  have HI := Lib.hid inf3
  clear K47 KS H6 HB6 HX0 HB0 l1
  go_wp2_with fail
  go_loopw [3, 17] (fun v z wr => ∃ (j : Nat) (ca : Option Addr) (cn cc : Nat), j ≤ 3 ∧ v = .slice ca cn cc ∧ z = .int .i64 (j : Int) ∧ Hid (CRow w6.heap.size wr ⟨ca, cn, cc⟩ (cntJ m j) ∧ Below w6.heap.size w6 wr)) (fun _ z _ => 3 - (intOf z).toNat)
  case atStart => exact ⟨0, none, 0, 0, by omega, rfl, rfl, ⟨rfl, rfl, .inl ⟨rfl, rfl⟩⟩, Below.refl _ _⟩
  case round =>
    obtain ⟨j, ca, cn, cc, hj, rfl, rfl, HK⟩ := hrel
    obtain ⟨wo, hwo⟩ : ∃ x, x = wr := ⟨_, rfl⟩
    rw [← hwo] at HK ⊢
    clear hwo
    by_cases hlt3 : j < 3
    · have h3 : (j : Int) < 3 := by omega
      have hix := ix84 x.l1 x.l2 ⟨ta, tn, tc⟩ j hlt3
      have HLJ := Lib.hid (HL.out j hlt3)
      obtain ⟨⟨sa, n, sc⟩, hse⟩ : ∃ s, s = pick3 x.l1 x.l2 ⟨ta, tn, tc⟩ j := ⟨_, rfl⟩
      rw [← hse] at hix HLJ
      simp only at hix
      obtain ⟨l, hl⟩ : ∃ l, l = lstJ m j := ⟨_, rfl⟩
      have HZ : Hid (∀ r ∈ l, nsz r.ow ≤ 1000) := by rw [hl]; exact HLR.out j
      rw [← hl] at HLJ
      have HCJ : Hid (cntJ m (j + 1) = runF (cntJ m j) l l.length ∧ (cntJ m j).length ≤ 512) := ⟨by rw [hl]; exact cntJ_step m j hlt3, HCN.out _⟩
      have HCS : Hid ((cntJ m j).sum ≤ 1000) := by
        have h1 := cntJ_sum m j
        have h2 := (others_len m.l3).1
        unfold totF at h1
        show _ ≤ _
        omega
      have hl5 : l.length ≤ 512 := by rw [hl]; exact HLN.out j
      clear hse hl
      have hln := HLJ.out.len
      have hlc := HLJ.out.cap
      simp only at hln hlc
      have hn5 : n ≤ 512 := by omega
      go_wp2_with fail
      refine (follow48 _).mono ?_
      rintro e w7 ⟨rfl, rfl⟩
      have HP7 : Hid (Ahd (wo.alloc (.cells #[.pointer none] 108)) wo.heap.size none) := heap_alloc_new wo _
      have HB7 : Hid (Below w6.heap.size w6 (wo.alloc (.cells #[.pointer none] 108))) := HK.out.2.alloc HK.out.2.size _
      have HC7 : Hid (CRow w6.heap.size (wo.alloc (.cells #[.pointer none] 108)) ⟨ca, cn, cc⟩ (cntJ m j)) := HK.out.1.same fun g hg => Below.heap_alloc _ _ _ (HK.out.1.2.lt g hg).2
      obtain ⟨p, hp⟩ : ∃ p, p = wo.heap.size := ⟨_, rfl⟩
      have HPB : Hid (w6.heap.size ≤ p) := by show _ ≤ _; rw [hp]; exact HK.out.2.size
      rw [← hp] at HP7 ⊢
      clear hp HK
      go_wp2_with fail
      generalize wo.alloc (.cells #[.pointer none] 108) = w8 at *
      obtain ⟨cs, hcs⟩ : ∃ cs, cs = cntJ m j := ⟨_, rfl⟩
      rw [← hcs] at HC7 HCJ HCS
      clear hcs
      go_loopw [3, 23] (fun v z wi => ∃ (k : Nat) (ca : Option Addr) (cn cc : Nat), k ≤ n ∧ v = .slice ca cn cc ∧ z = .int .i64 (k : Int) ∧ Hid (CRow w6.heap.size wi ⟨ca, cn, cc⟩ (runF cs l k) ∧ Below w6.heap.size w6 wi ∧ ∃ o, Ahd wi p o ∧ AhdOk w6 o ∧ o.map (·.2) = if k = 0 then none else l[k - 1]?)) (fun _ z _ => n - (intOf z).toNat)
      case atStart => exact ⟨0, ca, cn, cc, Nat.zero_le _, rfl, rfl, HC7.out, HB7.out, none, HP7.out, fun _ _ h => (by cases h), rfl⟩
      case round =>
        obtain ⟨k, ea, en, ec, hk, rfl, rfl, HW⟩ := hrel
        clear HC7 HB7 HP7
        by_cases hlt : k < n
        · have hlt' : (k : Int) < (n : Int) := by omega
          have hkl : k < l.length := by omega
          obtain ⟨o, o1, o2, o3⟩ := HW.out.2.2
          obtain ⟨b', o', e0, hbb', y, he, hy⟩ := HLJ.out.rd.at k hkl
          simp only at e0
          subst e0
          have hgo := goes_any hkl o3
          have hyr : ∀ W, Below w6.heap.size w6 W → TRd W y.o l[k].ow := fun W hW => hy.1.below hW
          have hz := HZ.out _ (List.getElem_mem hkl)
          have hcell : ∀ q, q < 8 → wr.cell? ⟨b', o' + k * 8 + q, none⟩ = (recCells y l[k])[q]? := fun q hq => (HW.out.2.1.cell (p := ⟨b', o' + k * 8 + q, none⟩) hbb').trans (he q hq)
          have hbr : b' < wr.heap.size := Nat.lt_of_lt_of_le hbb' HW.out.2.1.size
          have KF := Lib.hid (fun W (h : Ahd W p o) (hb : Below w6.heap.size w6 W) => follow77 p o y l[k] w6 W h hb o2 hyr hz)
          have HAO := Lib.hid (show AhdOk w6 (some (y, l[k])) from fun y' s' e => by injection e with e; injection e with e1 e2; subst e1; subst e2; exact ⟨hyr, hz⟩)
          have HA := Lib.hid o1
          have HNX : Hid ((some (y, l[k]) : Option (RA × Rec)).map (·.2) = if k + 1 = 0 then none else l[k + 1 - 1]?) := by show _ = _; simp [hkl]
          rw [hgo] at KF
          obtain ⟨q, hq⟩ : ∃ q, q = goesF l k := ⟨_, rfl⟩
          rw [← hq] at KF
          have HQ := Lib.hid hq
          have HRS : Hid (runF cs l (k + 1) = if goesF l k then bumpF (runF cs l k) else runF cs l k ++ [1]) := rfl
          have HRL := Lib.hid (run_len cs l k)
          have HRM := Lib.hid (run_sum cs l k)
          obtain ⟨r, hr⟩ : ∃ r, r = l[k] := ⟨_, rfl⟩
          rw [← hr] at KF hcell HAO HNX
          clear he hy hyr hz hgo o1 o2 o3 hq hr
          obtain ⟨⟨xa, xn, xc⟩, ⟨⟨xa1, xn1, xc1⟩, ⟨xa2, xn2, xc2⟩, ⟨xa3, xn3, xc3⟩, ⟨xa4, xn4, xc4⟩⟩⟩ := y
          obtain ⟨ow, t, cl, tt, dd⟩ := r
          have c0 := hcell 0 (by omega)
          have c1 := hcell 1 (by omega)
          have c2 := hcell 2 (by omega)
          have c3 := hcell 3 (by omega)
          have c4 := hcell 4 (by omega)
          have c5 := hcell 5 (by omega)
          have c6 := hcell 6 (by omega)
          have c7 := hcell 7 (by omega)
          simp only [recCells, Nat.add_zero, List.getElem?_cons_zero, List.getElem?_cons_succ] at c0 c1 c2 c3 c4 c5 c6 c7 KF
          clear hcell
          have HNB := Lib.hid (newF_below wr (.cells #[.slice xa xn xc, .int .u16 (t : Int), .int .u16 (cl : Int), .int .u32 (tt : Int), .slice xa1 xn1 xc1, .slice xa2 xn2 xc2, .slice xa3 xn3 xc3, .slice xa4 xn4 xc4] 62))
          have HA1 : Hid (Ahd (wr.alloc (.cells #[.slice xa xn xc, .int .u16 (t : Int), .int .u16 (cl : Int), .int .u32 (tt : Int), .slice xa1 xn1 xc1, .slice xa2 xn2 xc2, .slice xa3 xn3 xc3, .slice xa4 xn4 xc4] 62)) p o) := HA.out.keep fun i _ hi => HNB.out.block i hi
          have HB1 : Hid (Below w6.heap.size w6 (wr.alloc (.cells #[.slice xa xn xc, .int .u16 (t : Int), .int .u16 (cl : Int), .int .u32 (tt : Int), .slice xa1 xn1 xc1, .slice xa2 xn2 xc2, .slice xa3 xn3 xc3, .slice xa4 xn4 xc4] 62))) := HW.out.2.1.alloc HW.out.2.1.size _
          have HC1 : Hid (CRow w6.heap.size (wr.alloc (.cells #[.slice xa xn xc, .int .u16 (t : Int), .int .u16 (cl : Int), .int .u32 (tt : Int), .slice xa1 xn1 xc1, .slice xa2 xn2 xc2, .slice xa3 xn3 xc3, .slice xa4 xn4 xc4] 62)) ⟨ea, en, ec⟩ (runF cs l k)) := HW.out.1.same fun g hg => HNB.out.block g (HW.out.1.2.lt g hg).2
          have HK2 : Hid (∀ w2, (wr.alloc (.cells #[.slice xa xn xc, .int .u16 (t : Int), .int .u16 (cl : Int), .int .u32 (tt : Int), .slice xa1 xn1 xc1, .slice xa2 xn2 xc2, .slice xa3 xn3 xc3, .slice xa4 xn4 xc4] 62)).grownBy w2 (some p) → CRow w6.heap.size w2 ⟨ea, en, ec⟩ (runF cs l k) ∧ Below w6.heap.size w6 w2) := fun w2 hg2 => ⟨HC1.out.same fun g hg => hg2.block g (HC1.out.2.lt g hg).2 (fun e => by injection e with e; exact HA1.out.off (HC1.out.kind g hg) e), HB1.out.grown hg2 HB1.out.size (fun i e => by injection e with e; rw [← e]; exact HPB.out)⟩
          have hen : en ≤ 1024 := by have h1 := HW.out.1.1; have h2 := HRL.out.1; have h3 := HCJ.out.2; simp only at h1; omega
          clear HNB HA HC1 HW
          cases q
          · go_wp2_with fail
            refine (KF.out _ HA1.out HB1.out).mono ?_
            rintro e w2 ⟨rfl, H2⟩
            obtain ⟨k1, k2⟩ := HK2.out w2 H2.out.2
            have HC2 := Lib.hid k1
            have HB2 := Lib.hid k2
            obtain ⟨i3, hi3, hz0, hz1, hz2⟩ := HI.out
            have HI3 := Lib.hid (show Tryz.prog.info? 3 = some i3 ∧ i3.zero = some (.int .i64 0) ∧ i3.size = 1 ∧ i3.bytes = 8 from ⟨hi3, hz0, hz1, hz2⟩)
            have HN3 := Lib.hid (newF_below w2 (.cells #[.int .i64 1] 3))
            have HOW : Hid ((w2.alloc (.cells #[.int .i64 1] 3)).ownsRow w6.heap.size 3 1 (.slice ea en ec) en (ivs (runF cs l k))) := ownsRow_stays HC2.out.2 HN3.out
            have HSRC : Hid (∀ j u, ([.int .i64 1] : List Value)[j]? = some u → (w2.alloc (.cells #[.int .i64 1] 3)).cell? ((⟨w2.heap.size, 0, none⟩ : Addr).add j) = some u) := fun j u hu => by
              have ad : (⟨w2.heap.size, 0, none⟩ : Addr).add j = ⟨w2.heap.size, j, none⟩ := by unfold Addr.add; split <;> simp_all
              rw [ad]
              unfold World.cell?
              rw [heap_alloc_new]
              simpa using hu
            have HONE : Hid (∀ u ∈ ([.int .i64 1] : List Value), u.oneCell' = true) := fun u hu => by rw [List.mem_singleton.1 hu]; rfl
            have HSZ : Hid (w6.heap.size ≤ (w2.alloc (.cells #[.int .i64 1] 3)).heap.size) := Nat.le_trans HB2.out.size HN3.out.size
            clear k1 k2 hi3 hz0 hz1 hz2 c0 c1 c2 c3 c4 c5 c6 c7
            go_wp2_with (at_builtin; refine wpList_append_lies _ rfl _ _ 43 rfl w6.heap.size 3 i3 _ 1 8 Tryz.underlying43 HI3.out.1 HI3.out.2.1 HI3.out.2.2.1 HI3.out.2.2.2 rfl (by omega) (.slice ea en ec) en (ivs (runF cs l k)) rfl HOW.out ⟨w2.heap.size, 0, none⟩ 1 1 [.int .i64 1] rfl rfl HSRC.out HONE.out (by omega) (by simp only [maxLen]; omega) (by omega) HSZ.out _ rfl ?_; intro g cap w3 h5 h6 h7 h8; have H5 := Lib.hid h5; have H6 := Lib.hid h6; clear h5 h6 h7 h8)
            have HE : Hid (CRow w6.heap.size w3 ⟨some ⟨g, 0, none⟩, en + 1, cap⟩ (runF cs l (k + 1)) ∧ Below w6.heap.size w6 w3 ∧ ∃ o, Ahd w3 p o ∧ AhdOk w6 o ∧ o.map (·.2) = if k + 1 = 0 then none else l[k + 1 - 1]?) := by
              have hq := HQ.out
              have h1 := HC2.out.1
              refine ⟨?_, ?_, _, ?_, HAO.out, HNX.out⟩
              · rw [HRS.out, ← hq, if_neg (by simp)]
                refine ⟨by simp [h1], ?_⟩
                have := H5.out
                simpa [ivs] using this
              · have hb3 := HB2.out.trans (HN3.out.mono HB2.out.size)
                exact hb3.grown H6.out hb3.size (fun i e => (HC2.out.2.lt i e).1)
              · refine H2.out.1.keep fun i hi hi2 => ?_
                rw [H6.out.block i (Nat.lt_of_lt_of_le hi2 HN3.out.size) (fun e => by obtain ⟨cur, hc⟩ := HC2.out.kind i e.symm; exact hi cur hc)]
                exact HN3.out.block i hi2
            go_wp2_with fail
            exact ⟨⟨k + 1, some ⟨g, 0, none⟩, en + 1, cap, by omega, rfl, by go_num, HE.out⟩, by simp [intOf]; omega⟩
          · have hk0 : 1 ≤ k := by
              have hq := HQ.out
              unfold goesF at hq
              split at hq
              · next => simp at hq; omega
              · cases hq
            have hrl := HRL.out.2 hk0
            go_wp2_with fail
            refine (KF.out _ HA1.out HB1.out).mono ?_
            rintro e w2 ⟨rfl, H2⟩
            obtain ⟨k1, k2⟩ := HK2.out w2 H2.out.2
            have HC2 := Lib.hid k1
            have HB2 := Lib.hid k2
            have h1 := HC2.out.1
            simp only at h1
            have hen1 : 1 ≤ en := by omega
            obtain ⟨g, hg⟩ := rowr_shape HC2.out.2 (by simp only; omega)
            simp only at hg
            subst hg
            obtain ⟨e', he'⟩ : ∃ e', en = e' + 1 := ⟨en - 1, by omega⟩
            subst he'
            have hel : e' < (runF cs l k).length := by omega
            obtain ⟨z, hz⟩ : ∃ z, z = (runF cs l k)[e'] := ⟨_, rfl⟩
            have hzle : z ≤ 2000000 := by
              have h2 := le_sumS _ _ (List.getElem_mem hel)
              have h3 := HRM.out
              have h4 := HCS.out
              rw [← hz] at h2
              omega
            have hcz : w2.cell? ⟨g, e', none⟩ = some (.int .i64 (z : Int)) := by
              have := HC2.out.2.cells (g := g) rfl e' (.int .i64 (z : Nat)) (by simp [ivs, hel, hz])
              rw [show (⟨g, 0, none⟩ : Addr).add e' = ⟨g, 0 + e', none⟩ by unfold Addr.add; split <;> simp_all, Nat.zero_add] at this
              exact this
            have hgl := (row_lt HC2.out.2).2.1
            have hfz : w2.frozen? ⟨g, e', none⟩ = false := row_frozen HC2.out.2 _
            have HE : Hid (CRow w6.heap.size (w2.setCell ⟨g, e', none⟩ (.int .i64 ((z : Int) + 1))) ⟨some ⟨g, 0, none⟩, e' + 1, ec⟩ (runF cs l (k + 1)) ∧ Below w6.heap.size w6 (w2.setCell ⟨g, e', none⟩ (.int .i64 ((z : Int) + 1))) ∧ ∃ o, Ahd (w2.setCell ⟨g, e', none⟩ (.int .i64 ((z : Int) + 1))) p o ∧ AhdOk w6 o ∧ o.map (·.2) = if k + 1 = 0 then none else l[k + 1 - 1]?) := by
              have hq := HQ.out
              refine ⟨?_, HB2.out.setCell (p := ⟨g, e', none⟩) (row_lt HC2.out.2).1 _, _, ?_, HAO.out, HNX.out⟩
              · rw [HRS.out, ← hq, if_pos rfl]
                exact HC2.out.bump (by omega) z (by rw [hz]; simp [hel])
              · refine H2.out.1.keep fun i hi hi2 => Below.heap_setCell _ _ _ _ ?_
                rintro rfl
                obtain ⟨cur, hc⟩ := HC2.out.kind i rfl
                exact hi cur hc
            clear k1 k2 c0 c1 c2 c3 c4 c5 c6 c7 h1 hz hel hrl
            go_wp2_with fail
            exact ⟨⟨k + 1, some ⟨g, 0, none⟩, e' + 1, ec, by omega, rfl, by go_num, HE.out⟩, by simp [intOf]; omega⟩
        · have hkk : n = k := by omega
          subst hkk
          have HE : Hid (CRow w6.heap.size wr ⟨ea, en, ec⟩ (cntJ m (j + 1)) ∧ Below w6.heap.size w6 wr) := by
            refine ⟨?_, HW.out.2.1⟩
            rw [HCJ.out.1, hln]
            exact HW.out.1
          clear HW
          go_wp2_with fail
          exact ⟨⟨j + 1, ea, en, ec, by omega, rfl, by go_num, HE.out⟩, by simp [intOf]; omega⟩
    · have hjj : j = 3 := by omega
      subst hjj
      have HE : Hid (IRd wo ⟨ca, cn, cc⟩ (setsF m) ∧ Below w.heap.size w wo) := ⟨HK.out.1.ird, HBE6.out.trans (HK.out.2.mono HBE6.out.size)⟩
      clear HK
      go_wp2
      go_ret
      exact ⟨⟨ca, cn, cc⟩, rfl, HE.out⟩
end Go.Proofs.YtkjnbgekaifdfaaGreat
namespace Go.Proofs.YtkjnbgekaifdfaaGreat
open Go.ChangeShapes Go.WideShapes Go.ChangeAt Go.RowKit
set_option linter.unusedVariables false
set_option linter.unusedSimpArgs false
theorem take_sum1 (cs : List Nat) (i : Nat) (h : i < cs.length) : (cs.take (i + 1)).sum = (cs.take i).sum + cs[i] := by
  rw [List.take_succ_eq_append_getElem h, List.sum_append]
  simp only [List.sum_cons, List.sum_nil, Nat.add_zero]
theorem IRd.at {w : World} {s : Sl} {cs : List Nat} (h : IRd w s cs) (i : Nat) (hi : i < cs.length) : ∃ b o, s.a = some ⟨b, o, none⟩ ∧ b < w.heap.size ∧ w.cell? ⟨b, o + i, none⟩ = some (.int .i64 (cs[i] : Nat)) := by
  rcases h.rd with e | ⟨b, o, e, h1, h2⟩
  · subst e; simp at hi
  · exact ⟨b, o, e, h1, h2 i hi⟩
set_option maxRecDepth 100000 in
set_option maxHeartbeats 8000000 in
theorem rfit40 (H : Hd) (x : MA) (m : Mg) (size : Int) (w : World) (hm : MRd w H x m) (hc : ChkOk m) : Calls Tryz.prog 40 #[.agg #[.int .u16 H.id, .bool H.rs, .int .i64 H.op, .bool H.aa, .bool H.tc, .bool H.rd, .bool H.ra, .bool H.ad, .bool H.cd, .int .i64 H.rc, .slice x.q.a x.q.n x.q.c, .slice x.l1.a x.l1.n x.l1.c, .slice x.l2.a x.l2.n x.l2.c, .slice x.l3.a x.l3.n x.l3.c], .int .i64 size] w fun e w' => e = .returned (.int .i64 ((fitN m size 0 (setsF m) : Nat) : Int)) ∧ Hid (Below w.heap.size w w') := by
  have hb0 := newF_below w (.cells #[.int .u16 H.id, .bool H.rs, .int .i64 H.op, .bool H.aa, .bool H.tc, .bool H.rd, .bool H.ra, .bool H.ad, .bool H.cd, .int .i64 H.rc, .slice x.q.a x.q.n x.q.c, .slice x.l1.a x.l1.n x.l1.c, .slice x.l2.a x.l2.n x.l2.c, .slice x.l3.a x.l3.n x.l3.c] 26)
  have hx0 : (w.alloc (.cells #[.int .u16 H.id, .bool H.rs, .int .i64 H.op, .bool H.aa, .bool H.tc, .bool H.rd, .bool H.ra, .bool H.ad, .bool H.cd, .int .i64 H.rc, .slice x.q.a x.q.n x.q.c, .slice x.l1.a x.l1.n x.l1.c, .slice x.l2.a x.l2.n x.l2.c, .slice x.l3.a x.l3.n x.l3.c] 26)).heap[w.heap.size]? = some (.cells #[.int .u16 H.id, .bool H.rs, .int .i64 H.op, .bool H.aa, .bool H.tc, .bool H.rd, .bool H.ra, .bool H.ad, .bool H.cd, .int .i64 H.rc, .slice x.q.a x.q.n x.q.c, .slice x.l1.a x.l1.n x.l1.c, .slice x.l2.a x.l2.n x.l2.c, .slice x.l3.a x.l3.n x.l3.c] 26) := heap_alloc_new _ _
  have K22 := Lib.hid (sets22 H x m _ (hm.below hb0) hc)
  have K39 := Lib.hid (fun W (hW : Below w.heap.size w W) (k : Nat) (hk : k ≤ totF m) => first39 H x m k W (hm.below hW) hc hk)
  have K37 := Lib.hid (fun W (k : Nat) (Y : MA) (h : MRd W (headF m H k) Y (firstM m k)) => fits37 (headF m H k) Y (firstM m k) size W h (hc.first k))
  have HB0 := Lib.hid hb0
  have HX0 := Lib.hid hx0
  have htot : totF m ≤ 512 := by
    have h1 := hc.nr
    have h2 := (others_len m.l3).1
    unfold tot at h1
    unfold totF
    omega
  have HSM := Lib.hid (sets_sum m)
  have HSP := Lib.hid (fun j => take_sum_le (setsF m) j)
  obtain ⟨cs, hcs⟩ : ∃ cs, cs = setsF m := ⟨_, rfl⟩
  rw [← hcs] at K22 HSM HSP ⊢
  obtain ⟨R, hR⟩ : ∃ R, R = fitN m size 0 cs := ⟨_, rfl⟩
  rw [← hR]
  have HR := Lib.hid hR
  clear hm hc hb0 hx0 hcs hR
  obtain ⟨b, hbb⟩ : ∃ b, b = w.heap.size := ⟨_, rfl⟩
  have HBW := Lib.hid hbb
  have k0 := box_cell HX0.out 0 _ rfl
  have k1 := box_cell HX0.out 1 _ rfl
  have k2 := box_cell HX0.out 2 _ rfl
  have k3 := box_cell HX0.out 3 _ rfl
  have k4 := box_cell HX0.out 4 _ rfl
  have k5 := box_cell HX0.out 5 _ rfl
  have k6 := box_cell HX0.out 6 _ rfl
  have k7 := box_cell HX0.out 7 _ rfl
  have k8 := box_cell HX0.out 8 _ rfl
  have k9 := box_cell HX0.out 9 _ rfl
  have k10 := box_cell HX0.out 10 _ rfl
  have k11 := box_cell HX0.out 11 _ rfl
  have k12 := box_cell HX0.out 12 _ rfl
  have k13 := box_cell HX0.out 13 _ rfl
  have lb0 := box_lt HX0.out
  go_enter Tryz.func40, Tryz.ntmps40
  go_wp2_with fail
  refine K22.out.mono ?_
  rintro e w1 ⟨⟨sa, n, sc⟩, rfl, H1⟩
  have HX1 : Hid (w1.heap[b]? = some (.cells #[.int .u16 H.id, .bool H.rs, .int .i64 H.op, .bool H.aa, .bool H.tc, .bool H.rd, .bool H.ra, .bool H.ad, .bool H.cd, .int .i64 H.rc, .slice x.q.a x.q.n x.q.c, .slice x.l1.a x.l1.n x.l1.c, .slice x.l2.a x.l2.n x.l2.c, .slice x.l3.a x.l3.n x.l3.c] 26)) := by show _ = _; rw [hbb]; exact (H1.out.2.block _ lb0).trans HX0.out
  have HB1 : Hid (Below w.heap.size w w1) := HB0.out.trans (H1.out.2.mono HB0.out.size)
  have HI := Lib.hid H1.out.1
  have hln := H1.out.1.len
  have hcap := H1.out.1.cap
  simp only at hln hcap
  clear k0 k1 k2 k3 k4 k5 k6 k7 k8 k9 k10 k11 k12 k13 lb0 K22 H1 HX0 HB0
  generalize w.alloc (.cells #[.int .u16 H.id, .bool H.rs, .int .i64 H.op, .bool H.aa, .bool H.tc, .bool H.rd, .bool H.ra, .bool H.ad, .bool H.cd, .int .i64 H.rc, .slice x.q.a x.q.n x.q.c, .slice x.l1.a x.l1.n x.l1.c, .slice x.l2.a x.l2.n x.l2.c, .slice x.l3.a x.l3.n x.l3.c] 26) = wz at *
  rw [← hbb]
  clear hbb
  go_wp2_with fail
  go_loopw [5, 11] (fun y z wr => ∃ i q : Nat, i ≤ n ∧ y = .int .i64 (q : Int) ∧ z = .int .i64 (i : Int) ∧ Hid (fitN m size q (cs.drop i) = R ∧ q = (cs.take i).sum ∧ wr.heap[b]? = some (.cells #[.int .u16 H.id, .bool H.rs, .int .i64 H.op, .bool H.aa, .bool H.tc, .bool H.rd, .bool H.ra, .bool H.ad, .bool H.cd, .int .i64 H.rc, .slice x.q.a x.q.n x.q.c, .slice x.l1.a x.l1.n x.l1.c, .slice x.l2.a x.l2.n x.l2.c, .slice x.l3.a x.l3.n x.l3.c] 26) ∧ Below w1.heap.size w1 wr)) (fun _ z _ => n - (intOf z).toNat)
  case atStart => exact ⟨0, 0, Nat.zero_le _, rfl, rfl, by rw [HR.out]; rfl, rfl, HX1.out, Below.refl _ _⟩
  case round =>
    obtain ⟨i, q, hi, rfl, rfl, HW⟩ := hrel
    clear HX1
    by_cases hlt : i < n
    · have hlt' : (i : Int) < (n : Int) := by omega
      have hil : i < cs.length := by omega
      obtain ⟨b', o', e0, hbb', he⟩ := HI.out.at i hil
      simp only at e0
      subst e0
      have hcell : wr.cell? ⟨b', o' + i, none⟩ = some (.int .i64 ((cs[i] : Nat) : Int)) := (HW.out.2.2.2.cell (p := ⟨b', o' + i, none⟩) hbb').trans he
      have hbr : b' < wr.heap.size := Nat.lt_of_lt_of_le hbb' HW.out.2.2.2.size
      have hq1 : q + cs[i] ≤ totF m := by
        have h1 := HSP.out (i + 1)
        rw [take_sum1 cs i hil] at h1
        have h2 := HW.out.2.1
        have h3 := HSM.out
        omega
      have HD : Hid (cs.drop i = cs[i] :: cs.drop (i + 1)) := List.drop_eq_getElem_cons hil
      have HT : Hid ((cs.take (i + 1)).sum = (cs.take i).sum + cs[i]) := take_sum1 cs i hil
      have hbw : Below w.heap.size w wr := HB1.out.trans (HW.out.2.2.2.mono HB1.out.size)
      obtain ⟨c, hc⟩ : ∃ c, c = cs[i] := ⟨_, rfl⟩
      rw [← hc] at hcell hq1 HD HT
      have KA := Lib.hid (K39.out wr hbw (q + c) hq1)
      rw [Int.natCast_add] at KA
      clear he hc hbw
      have k0 := box_cell HW.out.2.2.1 0 _ rfl
      have k1 := box_cell HW.out.2.2.1 1 _ rfl
      have k2 := box_cell HW.out.2.2.1 2 _ rfl
      have k3 := box_cell HW.out.2.2.1 3 _ rfl
      have k4 := box_cell HW.out.2.2.1 4 _ rfl
      have k5 := box_cell HW.out.2.2.1 5 _ rfl
      have k6 := box_cell HW.out.2.2.1 6 _ rfl
      have k7 := box_cell HW.out.2.2.1 7 _ rfl
      have k8 := box_cell HW.out.2.2.1 8 _ rfl
      have k9 := box_cell HW.out.2.2.1 9 _ rfl
      have k10 := box_cell HW.out.2.2.1 10 _ rfl
      have k11 := box_cell HW.out.2.2.1 11 _ rfl
      have k12 := box_cell HW.out.2.2.1 12 _ rfl
      have k13 := box_cell HW.out.2.2.1 13 _ rfl
      have lb := box_lt HW.out.2.2.1
      go_wp2_with fail
      refine KA.out.mono ?_
      rintro e w2 ⟨Y, rfl, H2⟩
      have KB := Lib.hid (K37.out w2 (q + c) Y H2.out.1)
      have HQ : Hid (fitN m size q (cs.drop i) = if fitsF (firstM m (q + c)) size then fitN m size (q + c) (cs.drop (i + 1)) else q) := by show _ = _; rw [HD.out]; rfl
      generalize fitsF (firstM m (q + c)) size = ft at *
      clear hcell k0 k1 k2 k3 k4 k5 k6 k7 k8 k9 k10 k11 k12 k13 lb
      go_wp2_with fail
      refine KB.out.mono ?_
      rintro e w3 ⟨rfl, H3⟩
      have HB3 : Hid (Below w1.heap.size w1 w3 ∧ w3.heap[b]? = some (.cells #[.int .u16 H.id, .bool H.rs, .int .i64 H.op, .bool H.aa, .bool H.tc, .bool H.rd, .bool H.ra, .bool H.ad, .bool H.cd, .int .i64 H.rc, .slice x.q.a x.q.n x.q.c, .slice x.l1.a x.l1.n x.l1.c, .slice x.l2.a x.l2.n x.l2.c, .slice x.l3.a x.l3.n x.l3.c] 26)) := ⟨HW.out.2.2.2.trans ((H2.out.2.trans (H3.out.mono H2.out.2.size)).mono HW.out.2.2.2.size), ((H2.out.2.trans (H3.out.mono H2.out.2.size)).block b (box_lt HW.out.2.2.1)).trans HW.out.2.2.1⟩
      cases ft
      · have HE : Hid (q = R ∧ Below w.heap.size w w3) := ⟨by have h1 := HQ.out; rw [if_neg (by simp)] at h1; rw [← h1]; exact HW.out.1, HB1.out.trans (HB3.out.1.mono HB1.out.size)⟩
        go_wp2
        go_ret
        exact ⟨by rw [← HE.out.1]; rfl, HE.out.2⟩
      · have HE : Hid (fitN m size (q + c) (cs.drop (i + 1)) = R ∧ q + c = (cs.take (i + 1)).sum ∧ w3.heap[b]? = some (.cells #[.int .u16 H.id, .bool H.rs, .int .i64 H.op, .bool H.aa, .bool H.tc, .bool H.rd, .bool H.ra, .bool H.ad, .bool H.cd, .int .i64 H.rc, .slice x.q.a x.q.n x.q.c, .slice x.l1.a x.l1.n x.l1.c, .slice x.l2.a x.l2.n x.l2.c, .slice x.l3.a x.l3.n x.l3.c] 26) ∧ Below w1.heap.size w1 w3) := ⟨by have h1 := HQ.out; rw [if_pos rfl] at h1; rw [← h1]; exact HW.out.1, by rw [HT.out, ← HW.out.2.1], HB3.out.2, HB3.out.1⟩
        go_wp2
        go_round
        case rel => exact ⟨i + 1, q + c, by omega, by go_num, by go_num, HE.out⟩
        case measure => simp [intOf]; omega
    · have hii : n = i := by omega
      subst hii
      have HE : Hid (q = R ∧ Below w.heap.size w wr) := ⟨by
        have h1 := HW.out.1
        rw [List.drop_eq_nil_of_le (by omega)] at h1
        exact h1, HB1.out.trans (HW.out.2.2.2.mono HB1.out.size)⟩
      go_wp2
      go_ret
      exact ⟨by rw [← HE.out.1]; rfl, HE.out.2⟩
end Go.Proofs.YtkjnbgekaifdfaaGreat
namespace Go.Proofs.YtkjnbgekaifdfaaGreat
open Go.ChangeShapes Go.WideShapes Go.ChangeAt Go.RowKit
set_option linter.unusedVariables false
set_option linter.unusedSimpArgs false
/-- A row in the midst of a deletion: the first i places hold what was kept of the first j. -/
def DelS (S3 : Nat) (ps : List (RA × Rec)) (g n c i j : Nat) (w wr : World) : Prop := ∃ qs : List (RA × Rec), qs.length = n ∧ wr.ownsRow S3 62 8 (.slice (some ⟨g, 0, none⟩) n c) n (cellsR qs) ∧ qs.take i = fltP (ps.take j) ∧ i = (fltP (ps.take j)).length ∧ qs.drop j = ps.drop j ∧ w.grownBy wr (some g)
theorem dels_keep {S3 g n c i j : Nat} {ps : List (RA × Rec)} {w wr w2 w3 : World} (h : DelS S3 ps g n c i j w wr) (hl : ps.length = n) (hj : j < n) (ho : isO (ps[j]'(by omega)).2 = true) (hb : Below wr.heap.size wr w2) : DelS S3 ps g n c i (j + 1) w w2 := by
  obtain ⟨qs, h1, h2, h3, h4, h5, h6⟩ := h
  have e : fltP (ps.take (j + 1)) = fltP (ps.take j) := by rw [List.take_succ_eq_append_getElem (by omega), fltP_snoc, if_pos ho]
  refine ⟨qs, h1, ownsRow_stays h2 hb, by rw [e, h3], by rw [e]; exact h4, ?_, grown_tr h6 (grown_bel _ hb)⟩
  rw [← List.drop_drop, h5, List.drop_drop]
theorem dels_move {S3 g n c i j : Nat} {ps : List (RA × Rec)} {w wr w2 w3 : World} (h : DelS S3 ps g n c i j w wr) (hl : ps.length = n) (hj : j < n) (hij : i < j) (ho : isO (ps[j]'(by omega)).2 = false) (hb : Below wr.heap.size wr w2) (hr : ∀ qs : List (RA × Rec), qs.length = n → w2.ownsRow S3 62 8 (.slice (some ⟨g, 0, none⟩) n c) n (cellsR qs) → w3.ownsRow S3 62 8 (.slice (some ⟨g, 0, none⟩) n c) n (cellsR (qs.set i (ps[j]'(by omega))))) (hg : w2.grownBy w3 (some g)) : DelS S3 ps g n c (i + 1) (j + 1) w w3 := by
  obtain ⟨qs, h1, h2, h3, h4, h5, h6⟩ := h
  have e : fltP (ps.take (j + 1)) = fltP (ps.take j) ++ [ps[j]'(by omega)] := by rw [List.take_succ_eq_append_getElem (by omega), fltP_snoc, if_neg (by simp [ho])]
  refine ⟨qs.set i (ps[j]'(by omega)), by simp [h1], hr qs h1 (ownsRow_stays h2 hb), ?_, by rw [e]; simp [← h4], ?_, grown_tr h6 (grown_tr (grown_bel _ hb) hg)⟩
  · rw [e, ← h3, List.take_succ_eq_append_getElem (by simp; omega), List.take_set_of_le (Nat.le_refl i)]
    simp
  · rw [List.drop_set_of_lt (by omega), ← List.drop_drop, h5, List.drop_drop]
theorem dels_at {S3 g n c i j : Nat} {ps : List (RA × Rec)} {w wr : World} (h : DelS S3 ps g n c i j w wr) (hl : ps.length = n) (hj : j < n) (hij : i < j) : (∀ q, q < 8 → wr.cell? ⟨g, j * 8 + q, none⟩ = (recCells (ps[j]'(by omega)).1 (ps[j]'(by omega)).2)[q]?) ∧ (∃ p : RA × Rec, ∀ q, q < 8 → wr.cell? ⟨g, i * 8 + q, none⟩ = (recCells p.1 p.2)[q]?) ∧ (∀ q, wr.frozen? ⟨g, q, none⟩ = false) ∧ g < wr.heap.size := by
  obtain ⟨qs, h1, h2, h3, h4, h5, h6⟩ := h
  have e : qs[j]'(by omega) = ps[j]'(by omega) := by
    have a1 := List.getElem_drop (xs := qs) (i := j) (j := 0) (h := by simp; omega)
    have a2 := List.getElem_drop (xs := ps) (i := j) (j := 0) (h := by simp; omega)
    simp only [Nat.add_zero] at a1 a2
    rw [← a1, ← a2]
    congr 1
  refine ⟨fun q hq => ?_, ⟨qs[i]'(by omega), rowr_at h2 h1 (by omega)⟩, fun q => row_frozen h2 q, (row_lt h2).2.1⟩
  rw [← e]
  exact rowr_at h2 h1 hj q hq
set_option maxRecDepth 100000 in
set_option maxHeartbeats 4000000 in
theorem delete61 (S3 S : Nat) (s : Sl) (rs : List Rec) (w : World) (h : RowC S3 S s rs w) (hn : s.n ≤ 1000000) : Calls Tryz.prog 61 #[(.slice s.a s.n s.c), .func (.func 62) #[] #[]] w fun e w' => ∃ t : Sl, e = .returned (.slice t.a t.n t.c) ∧ Hid (RowC S3 S t (flt rs) w' ∧ w.grownBy w' (Value.slice s.a s.n s.c).ownBlock) := by
  have K := Lib.hid (index94_62 isO asks62 s rs w h.lrd)
  have HR := Lib.hid h
  obtain ⟨ps, p1, p2, p3, pB, p4, p5⟩ := h
  obtain ⟨sa, n, sc⟩ := s
  simp only at *
  have HP := Lib.hid (show ps.map (·.2) = rs ∧ ps.length = n ∧ w.ownsRow S3 62 8 (.slice sa n sc) n (cellsR ps) ∧ S3 ≤ S ∧ (∀ g, (Value.slice sa n sc).ownBlock = some g → g < S) ∧ Stb S w.heap.size (fun W => ∀ p ∈ ps, RRd W p.1 p.2) w from ⟨p1, p2, p3, pB, p4, p5⟩)
  clear p1 p2 p3 pB p4 p5
  go_enter Tryz.func61, Tryz.ntmps61
  go_wp2_with fail
  refine K.out.mono ?_
  rintro e w1 (⟨k, hk, h1, h2, rfl, H1⟩ | ⟨h2, rfl, H1⟩)
  · have hpl := HP.out.2.1
    have hrl : rs.length = n := by rw [← HP.out.1]; simp [hpl]
    obtain ⟨g, hg⟩ := rowr_shape HP.out.2.2.1 (by omega)
    subst hg
    have hcap := (row_lt HP.out.2.2.1).2.2
    have HD0 : Hid (DelS S3 ps g n sc k (k + 1) w w1) := by
      have hkp : k < ps.length := by omega
      have hpk : ps[k].2 = rs[k] := by have e := HP.out.1; subst e; simp
      have ht : ∀ p ∈ ps.take k, isO p.2 = false := fun p hp => h2 _ (by rw [← HP.out.1, ← List.map_take]; exact List.mem_map_of_mem (f := (·.2)) hp)
      have e : fltP (ps.take (k + 1)) = ps.take k := by rw [List.take_succ_eq_append_getElem hkp, fltP_snoc, if_pos (by rw [hpk]; exact h1), fltP_all ht]
      exact ⟨ps, hpl, ownsRow_stays HP.out.2.2.1 H1.out, e.symm, by rw [e, List.length_take]; omega, rfl, grown_bel _ H1.out⟩
    have hkn : k < n := by omega
    clear h1 h2 H1 K
    have hk1 : ¬ (k : Int) = -1 := by omega
    have hkb : ((k : Int) == -1) = false := by simp
    go_wp2_with fail
    go_loopw [5, 6] (fun y z wr => ∃ i j : Nat, i < j ∧ j ≤ n ∧ y = .int .i64 (i : Int) ∧ z = .int .i64 (j : Int) ∧ Hid (DelS S3 ps g n sc i j w wr)) (fun _ z _ => n - (intOf z).toNat)
    case atStart => exact ⟨k, k + 1, by omega, by omega, rfl, by go_num, HD0.out⟩
    case round =>
      obtain ⟨i, j, hij, hjn, rfl, rfl, HD⟩ := hrel
      clear HD0 hk1 hkb hkn hk
      by_cases hlt : j < n
      · have hlt' : (j : Int) < (n : Int) := by omega
        obtain ⟨d1, ⟨pi, d2⟩, d3, d4⟩ := dels_at HD.out hpl hlt hij
        have HA := Lib.hid (show (∀ q, q < 8 → wr.cell? ⟨g, i * 8 + q, none⟩ = (recCells pi.1 pi.2)[q]?) ∧ (∀ q, wr.frozen? ⟨g, q, none⟩ = false) ∧ g < wr.heap.size from ⟨d2, d3, d4⟩)
        have KA := Lib.hid (fun W => asks62 (ps[j]'(by omega)).1 (ps[j]'(by omega)).2 W)
        obtain ⟨q, hq⟩ : ∃ q, q = isO (ps[j]'(by omega)).2 := ⟨_, rfl⟩
        have HQ := Lib.hid hq
        rw [← hq] at KA
        obtain ⟨p, hp⟩ : ∃ p, p = ps[j]'(by omega) := ⟨_, rfl⟩
        have HPJ := Lib.hid hp
        rw [← hp] at KA d1
        clear hq hp d2 d3
        obtain ⟨⟨⟨xa, xn, xc⟩, ⟨⟨xa1, xn1, xc1⟩, ⟨xa2, xn2, xc2⟩, ⟨xa3, xn3, xc3⟩, ⟨xa4, xn4, xc4⟩⟩⟩, ⟨ow, t, cl, tt, dd⟩⟩ := p
        obtain ⟨⟨⟨ia, ii, ic⟩, ⟨⟨ia1, ii1, ic1⟩, ⟨ia2, ii2, ic2⟩, ⟨ia3, ii3, ic3⟩, ⟨ia4, ii4, ic4⟩⟩⟩, ⟨iow, it, icl, itt, idd⟩⟩ := pi
        have c0 := d1 0 (by omega)
        have c1 := d1 1 (by omega)
        have c2 := d1 2 (by omega)
        have c3 := d1 3 (by omega)
        have c4 := d1 4 (by omega)
        have c5 := d1 5 (by omega)
        have c6 := d1 6 (by omega)
        have c7 := d1 7 (by omega)
        simp only [recCells, Nat.add_zero, List.getElem?_cons_zero, List.getElem?_cons_succ] at c0 c1 c2 c3 c4 c5 c6 c7 KA HA
        clear d1
        have nb := newF_below wr (.cells #[.slice xa xn xc, .int .u16 (t : Int), .int .u16 (cl : Int), .int .u32 (tt : Int), .slice xa1 xn1 xc1, .slice xa2 xn2 xc2, .slice xa3 xn3 xc3, .slice xa4 xn4 xc4] 62)
        have bx : (wr.alloc (.cells #[.slice xa xn xc, .int .u16 (t : Int), .int .u16 (cl : Int), .int .u32 (tt : Int), .slice xa1 xn1 xc1, .slice xa2 xn2 xc2, .slice xa3 xn3 xc3, .slice xa4 xn4 xc4] 62)).heap[wr.heap.size]? = some (.cells #[.slice xa xn xc, .int .u16 (t : Int), .int .u16 (cl : Int), .int .u32 (tt : Int), .slice xa1 xn1 xc1, .slice xa2 xn2 xc2, .slice xa3 xn3 xc3, .slice xa4 xn4 xc4] 62) := heap_alloc_new _ _
        have HNB := Lib.hid nb
        have HBX := Lib.hid bx
        clear nb bx
        cases q
        · go_wp2_with fail
          refine (KA.out _).mono ?_
          rintro e w2 ⟨rfl, H2⟩
          have HB2 : Hid (Below wr.heap.size wr w2) := HNB.out.trans (H2.out.mono HNB.out.size)
          have hb2 : w2.heap[wr.heap.size]? = some (.cells #[.slice xa xn xc, .int .u16 (t : Int), .int .u16 (cl : Int), .int .u32 (tt : Int), .slice xa1 xn1 xc1, .slice xa2 xn2 xc2, .slice xa3 xn3 xc3, .slice xa4 xn4 xc4] 62) := (H2.out.block _ (box_lt HBX.out)).trans HBX.out
          have m0 := box_cell hb2 0 _ rfl
          have m1 := box_cell hb2 1 _ rfl
          have m2 := box_cell hb2 2 _ rfl
          have m3 := box_cell hb2 3 _ rfl
          have m4 := box_cell hb2 4 _ rfl
          have m5 := box_cell hb2 5 _ rfl
          have m6 := box_cell hb2 6 _ rfl
          have m7 := box_cell hb2 7 _ rfl
          have ml := box_lt hb2
          obtain ⟨R, hR⟩ : ∃ R, R = wr.heap.size := ⟨_, rfl⟩
          simp only [← hR] at m0 m1 m2 m3 m4 m5 m6 m7 ml ⊢
          have hgR : g < R := by omega
          have hgw : g < w2.heap.size := by omega
          have hCI : ∀ q v, wr.cell? ⟨g, i * 8 + q, none⟩ = v → w2.cell? ⟨g, i * 8 + q, none⟩ = v := fun q v e => (HB2.out.cell (p := ⟨g, i * 8 + q, none⟩) d4).trans e
          have i0 := hCI 0 _ (HA.out.1 0 (by omega))
          have i1 := hCI 1 _ (HA.out.1 1 (by omega))
          have i2 := hCI 2 _ (HA.out.1 2 (by omega))
          have i3 := hCI 3 _ (HA.out.1 3 (by omega))
          have i4 := hCI 4 _ (HA.out.1 4 (by omega))
          have i5 := hCI 5 _ (HA.out.1 5 (by omega))
          have i6 := hCI 6 _ (HA.out.1 6 (by omega))
          have i7 := hCI 7 _ (HA.out.1 7 (by omega))
          simp only [Nat.add_zero, List.getElem?_cons_zero, List.getElem?_cons_succ] at i0 i1 i2 i3 i4 i5 i6 i7
          have fz : ∀ q, w2.frozen? ⟨g, q, none⟩ = false := fun q => (World.frozen?_of_block (a := ⟨g, q, none⟩) (HB2.out.block g d4)).trans (HA.out.2.1 q)
          have hin : (i : Int) < (n : Int) := by omega
          have HEND : Hid (DelS S3 ps g n sc (i + 1) (j + 1) w ((((((((w2.setCell ⟨g, i * 8, none⟩ (.slice xa xn xc)).setCell ⟨g, i * 8 + 1, none⟩ (.int .u16 (t : Int))).setCell ⟨g, i * 8 + 2, none⟩ (.int .u16 (cl : Int))).setCell ⟨g, i * 8 + 3, none⟩ (.int .u32 (tt : Int))).setCell ⟨g, i * 8 + 4, none⟩ (.slice xa1 xn1 xc1)).setCell ⟨g, i * 8 + 5, none⟩ (.slice xa2 xn2 xc2)).setCell ⟨g, i * 8 + 6, none⟩ (.slice xa3 xn3 xc3)).setCell ⟨g, i * 8 + 7, none⟩ (.slice xa4 xn4 xc4))) := by
            refine dels_move HD.out hpl hlt hij HQ.out.symm HB2.out (fun qs q1 q2 => ?_) (grown8 _ _ _ _ _ _ _ _ _ _ _ _ _ _ _ _ _ _)
            rw [← HPJ.out]
            exact row_put8 (y := ⟨⟨xa, xn, xc⟩, ⟨⟨xa1, xn1, xc1⟩, ⟨xa2, xn2, xc2⟩, ⟨xa3, xn3, xc3⟩, ⟨xa4, xn4, xc4⟩⟩⟩) (r := ⟨ow, t, cl, tt, dd⟩) q2 q1 (by omega)
          clear hR hCI c0 c1 c2 c3 c4 c5 c6 c7 d4 hb2
          go_wp2
          go_round
          case rel => exact ⟨i + 1, j + 1, by omega, by omega, by go_num, by go_num, HEND.out⟩
          case measure => simp [intOf]; omega
        · go_wp2_with fail
          refine (KA.out _).mono ?_
          rintro e w2 ⟨rfl, H2⟩
          have HB2 : Hid (Below wr.heap.size wr w2) := HNB.out.trans (H2.out.mono HNB.out.size)
          go_wp2
          go_round
          case rel => exact ⟨i, j + 1, by omega, by omega, rfl, by go_num, dels_keep (w3 := w2) HD.out hpl hlt HQ.out.symm HB2.out⟩
          case measure => simp [intOf]; omega
      · have hjj : n = j := by omega
        subst hjj
        have hcl : ∃ W, (∀ ty, (Builtin.clear_ #[24] ty #[.slice (some ⟨g, i * 8, none⟩) (n - i) (sc - i)]).run Tryz.prog wr = .ok (.tuple #[]) W) ∧ Hid (RowC S3 S ⟨some ⟨g, 0, none⟩, i, sc⟩ (flt rs) W ∧ w.grownBy W (some g)) := by
          obtain ⟨qs, h1, h2, h3, h4, h5, h6⟩ := HD.out
          rcases h2.2 with ⟨e, _⟩ | ⟨g', cap, cur, e, hb, hg, k1, k2, k3, k4⟩
          · cases e
          · simp only [Value.slice.injEq, Option.some.injEq, Addr.mk.injEq, and_true, true_and] at e
            obtain ⟨rfl, rfl⟩ := e
            have hsz : n * 8 ≤ cur.size := by rw [k3]; exact Nat.mul_le_mul_right 8 k1
            obtain ⟨W, r1, r2, cur', r3, r4, r5⟩ := run_clear_rec wr 24 g i (n - i) (sc - i) cur hg (by omega) (by omega)
            refine ⟨W, fun ty => by rw [← r1]; rfl, ?_, grown_tr h6 r2⟩
            rw [List.take_of_length_le (by omega : ps.length ≤ n)] at h3 h4
            have hpr := HP.out
            refine ⟨fltP ps, by rw [fltP_map, hpr.1], h4.symm, ?_, hpr.2.2.2.1, hpr.2.2.2.2.1, ?_⟩
            · refine ⟨by rw [cellsR_len, ← h4], .inr ⟨g, sc, cur', rfl, hb, r3, by simp only; omega, k2, by rw [r4, k3], ?_⟩⟩
              rw [← h3]
              have e1 : cellsR (qs.take i) = (cellsR qs).take (i * 8) := by
                conv => rhs; rw [← List.take_append_drop i qs, cellsR_app, List.take_append_of_le_length (by rw [cellsR_len]; simp; omega), List.take_of_length_le (by rw [cellsR_len]; simp; omega)]
              rw [e1, ← k4, List.take_take, Nat.min_eq_left (by omega)]
              refine List.ext_getElem? fun q => ?_
              simp only [List.getElem?_take, Array.getElem?_toList]
              split
              · exact r5 q (by omega)
              · rfl
            · have h7 := hpr.2.2.2.2.2
              have hgS := hpr.2.2.2.2.1 g rfl
              have hgr := grown_tr h6 r2
              have h8 := h7.up (S' := W.heap.size) (w' := W) hgr.size (Nat.le_refl _) fun q q1 q2 => hgr.block q q2 (by simp; omega)
              exact ⟨h8.1, fun W' e1 e2 p hp => h8.2 W' e1 e2 p ((List.mem_filter.1 hp).1)⟩
        obtain ⟨W, hcl, HE⟩ := hcl
        have hci : ¬ sc = i := by omega
        go_wp2
        go_ret
        exact ⟨⟨some ⟨g, 0, none⟩, i, sc⟩, rfl, HE.out⟩
  · have hfl : flt rs = rs := flt_none (cnt_zero.2 h2)
    have HE : Hid (RowC S3 S ⟨sa, n, sc⟩ (flt rs) w1 ∧ w.grownBy w1 (Value.slice sa n sc).ownBlock) := by
      refine ⟨?_, grown_bel _ H1.out⟩
      rw [hfl]
      exact HR.out.go H1.out.size (fun j _ j2 => H1.out.block j j2)
    clear h2 hfl
    go_wp2
    go_ret
    exact ⟨⟨sa, n, sc⟩, rfl, HE.out⟩
end Go.Proofs.YtkjnbgekaifdfaaGreat
namespace Go.Proofs.YtkjnbgekaifdfaaGreat
open Go.ChangeShapes Go.WideShapes Go.ChangeAt Go.RowKit
set_option linter.unusedVariables false
set_option linter.unusedSimpArgs false
def woM (m : Mg) : Mg := ⟨m.h, m.qs, m.l1, m.l2, flt m.l3⟩
theorem Stb.low {B B' S : Nat} {P : World → Prop} {w : World} (h : Stb B S P w) (hB : B' ≤ B) : Stb B' S P w := ⟨h.1, fun w' h1 h2 => h.2 w' h1 fun j j1 j2 => h2 j (by omega) j2⟩
theorem MCp.low {w W w' : World} {x : MA} {m : Mg} (h : MCp W x m w') (hs : w.heap.size ≤ W.heap.size) : MCp w x m w' := by
  obtain ⟨S3, S, h1, h2, h3⟩ := h
  exact ⟨S3, S, by omega, h2, h3.low (by omega)⟩
theorem MCp.go {w w1 w2 : World} {x : MA} {m : Mg} (h : MCp w x m w1) (hs : w1.heap.size ≤ w2.heap.size) (hb : ∀ j, w.heap.size ≤ j → j < w1.heap.size → w2.heap[j]? = w1.heap[j]?) : MCp w x m w2 := by
  obtain ⟨S3, S, q1, q2, q3⟩ := h
  refine ⟨S3, S, q1, q2.go hs (fun i i1 i2 => hb i (by omega) i2), q3.go hs (fun i i1 i2 => hb i (by omega) (by have := q3.1; omega))⟩
set_option maxRecDepth 100000 in
set_option maxHeartbeats 8000000 in
theorem without36 (H : Hd) (x : MA) (m : Mg) (w : World) (hm : MRd w H x m) (hF : Fin m) : Calls Tryz.prog 36 #[.agg #[.int .u16 H.id, .bool H.rs, .int .i64 H.op, .bool H.aa, .bool H.tc, .bool H.rd, .bool H.ra, .bool H.ad, .bool H.cd, .int .i64 H.rc, .slice x.q.a x.q.n x.q.c, .slice x.l1.a x.l1.n x.l1.c, .slice x.l2.a x.l2.n x.l2.c, .slice x.l3.a x.l3.n x.l3.c]] w fun e w' => ∃ X : MA, e = .returned (.agg #[.int .u16 H.id, .bool H.rs, .int .i64 H.op, .bool H.aa, .bool H.tc, .bool H.rd, .bool H.ra, .bool H.ad, .bool H.cd, .int .i64 H.rc, .slice X.q.a X.q.n X.q.c, .slice X.l1.a X.l1.n X.l1.c, .slice X.l2.a X.l2.n X.l2.c, .slice X.l3.a X.l3.n X.l3.c]) ∧ Hid (MCp w X (woM m) w' ∧ Below w.heap.size w w') := by
  have hf := two_new H x w
  have HF := Lib.hid hf
  unfold zeroM at HF
  have K38 := Lib.hid (fun W (hW : Below w.heap.size w W) => copy38 H x m W (hm.below hW) hF)
  have HN : Hid (m.l3.length ≤ 1000000) := by have := hF.t; unfold tot at this; show _ ≤ _; omega
  clear hm hF hf
  have k0 := box_cell HF.out.2.1 0 _ rfl
  have k1 := box_cell HF.out.2.1 1 _ rfl
  have k2 := box_cell HF.out.2.1 2 _ rfl
  have k3 := box_cell HF.out.2.1 3 _ rfl
  have k4 := box_cell HF.out.2.1 4 _ rfl
  have k5 := box_cell HF.out.2.1 5 _ rfl
  have k6 := box_cell HF.out.2.1 6 _ rfl
  have k7 := box_cell HF.out.2.1 7 _ rfl
  have k8 := box_cell HF.out.2.1 8 _ rfl
  have k9 := box_cell HF.out.2.1 9 _ rfl
  have k10 := box_cell HF.out.2.1 10 _ rfl
  have k11 := box_cell HF.out.2.1 11 _ rfl
  have k12 := box_cell HF.out.2.1 12 _ rfl
  have k13 := box_cell HF.out.2.1 13 _ rfl
  have lb0 := box_lt HF.out.2.1
  go_enter Tryz.func36, Tryz.ntmps36
  go_wp2_with fail
  generalize ((w.alloc (.cells #[.int .u16 H.id, .bool H.rs, .int .i64 H.op, .bool H.aa, .bool H.tc, .bool H.rd, .bool H.ra, .bool H.ad, .bool H.cd, .int .i64 H.rc, .slice x.q.a x.q.n x.q.c, .slice x.l1.a x.l1.n x.l1.c, .slice x.l2.a x.l2.n x.l2.c, .slice x.l3.a x.l3.n x.l3.c] 26)).alloc (.cells #[.int .u16 0, .bool false, .int .i64 0, .bool false, .bool false, .bool false, .bool false, .bool false, .bool false, .int .i64 0, .slice none 0 0, .slice none 0 0, .slice none 0 0, .slice none 0 0] 26)) = Z at *
  refine (K38.out _ HF.out.1).mono ?_
  rintro e w1 ⟨X, rfl, H1⟩
  obtain ⟨b, hbb⟩ : ∃ b, b = w.heap.size := ⟨_, rfl⟩
  have HBW : Hid (b = w.heap.size) := hbb
  have HSZ : Hid (Z.heap.size = b + 2) := by show _ = _; rw [hbb]; exact HF.out.2.2.2
  have hx1 : w1.heap[b]? = some (.cells #[.int .u16 H.id, .bool H.rs, .int .i64 H.op, .bool H.aa, .bool H.tc, .bool H.rd, .bool H.ra, .bool H.ad, .bool H.cd, .int .i64 H.rc, .slice x.q.a x.q.n x.q.c, .slice x.l1.a x.l1.n x.l1.c, .slice x.l2.a x.l2.n x.l2.c, .slice x.l3.a x.l3.n x.l3.c] 26) := by rw [hbb]; exact (H1.out.2.block _ lb0).trans HF.out.2.1
  have hz1 : w1.heap[b + 1]? = some (.cells #[.int .u16 0, .bool false, .int .i64 0, .bool false, .bool false, .bool false, .bool false, .bool false, .bool false, .int .i64 0, .slice none 0 0, .slice none 0 0, .slice none 0 0, .slice none 0 0] 26) := by rw [hbb]; exact (H1.out.2.block _ (box_lt HF.out.2.2.1)).trans HF.out.2.2.1
  rw [← hbb] at lb0 ⊢
  clear k0 k1 k2 k3 k4 k5 k6 k7 k8 k9 k10 k11 k12 k13 hbb
  have e0 := box_cell hx1 0 _ rfl
  have e1 := box_cell hx1 1 _ rfl
  have e2 := box_cell hx1 2 _ rfl
  have e3 := box_cell hx1 3 _ rfl
  have e4 := box_cell hx1 4 _ rfl
  have e5 := box_cell hx1 5 _ rfl
  have e6 := box_cell hx1 6 _ rfl
  have e7 := box_cell hx1 7 _ rfl
  have e8 := box_cell hx1 8 _ rfl
  have e9 := box_cell hx1 9 _ rfl
  have e10 := box_cell hx1 10 _ rfl
  have e11 := box_cell hx1 11 _ rfl
  have e12 := box_cell hx1 12 _ rfl
  have e13 := box_cell hx1 13 _ rfl
  have f0 : w1.frozen? ⟨b, 0, none⟩ = false := box_frozen hx1 _
  have f1 : w1.frozen? ⟨b, 1, none⟩ = false := box_frozen hx1 _
  have f2 : w1.frozen? ⟨b, 2, none⟩ = false := box_frozen hx1 _
  have f3 : w1.frozen? ⟨b, 3, none⟩ = false := box_frozen hx1 _
  have f4 : w1.frozen? ⟨b, 4, none⟩ = false := box_frozen hx1 _
  have f5 : w1.frozen? ⟨b, 5, none⟩ = false := box_frozen hx1 _
  have f6 : w1.frozen? ⟨b, 6, none⟩ = false := box_frozen hx1 _
  have f7 : w1.frozen? ⟨b, 7, none⟩ = false := box_frozen hx1 _
  have f8 : w1.frozen? ⟨b, 8, none⟩ = false := box_frozen hx1 _
  have f9 : w1.frozen? ⟨b, 9, none⟩ = false := box_frozen hx1 _
  have f10 : w1.frozen? ⟨b, 10, none⟩ = false := box_frozen hx1 _
  have f11 : w1.frozen? ⟨b, 11, none⟩ = false := box_frozen hx1 _
  have f12 : w1.frozen? ⟨b, 12, none⟩ = false := box_frozen hx1 _
  have f13 : w1.frozen? ⟨b, 13, none⟩ = false := box_frozen hx1 _
  have lb1 := box_lt hx1
  have HG2 := Lib.hid (put14 hx1 (.int .u16 H.id) (.bool H.rs) (.int .i64 H.op) (.bool H.aa) (.bool H.tc) (.bool H.rd) (.bool H.ra) (.bool H.ad) (.bool H.cd) (.int .i64 H.rc) (.slice X.q.a X.q.n X.q.c) (.slice X.l1.a X.l1.n X.l1.c) (.slice X.l2.a X.l2.n X.l2.c) (.slice X.l3.a X.l3.n X.l3.c))
  have HB2 := Lib.hid (put14_below w1 b (.int .u16 H.id) (.bool H.rs) (.int .i64 H.op) (.bool H.aa) (.bool H.tc) (.bool H.rd) (.bool H.ra) (.bool H.ad) (.bool H.cd) (.int .i64 H.rc) (.slice X.q.a X.q.n X.q.c) (.slice X.l1.a X.l1.n X.l1.c) (.slice X.l2.a X.l2.n X.l2.c) (.slice X.l3.a X.l3.n X.l3.c))
  have HO2 := Lib.hid (put14_other w1 b (.int .u16 H.id) (.bool H.rs) (.int .i64 H.op) (.bool H.aa) (.bool H.tc) (.bool H.rd) (.bool H.ra) (.bool H.ad) (.bool H.cd) (.int .i64 H.rc) (.slice X.q.a X.q.n X.q.c) (.slice X.l1.a X.l1.n X.l1.c) (.slice X.l2.a X.l2.n X.l2.c) (.slice X.l3.a X.l3.n X.l3.c))
  have HZ1 := Lib.hid hz1
  have HBE1 : Hid (Below w.heap.size w w1) := HF.out.1.trans (H1.out.2.mono HF.out.1.size)
  clear hx1 hz1
  go_upto_region 2 with fail
  generalize ((((((((((((((w1.setCell ⟨b, 0, none⟩ (.int .u16 H.id)).setCell ⟨b, 1, none⟩ (.bool H.rs)).setCell ⟨b, 2, none⟩ (.int .i64 H.op)).setCell ⟨b, 3, none⟩ (.bool H.aa)).setCell ⟨b, 4, none⟩ (.bool H.tc)).setCell ⟨b, 5, none⟩ (.bool H.rd)).setCell ⟨b, 6, none⟩ (.bool H.ra)).setCell ⟨b, 7, none⟩ (.bool H.ad)).setCell ⟨b, 8, none⟩ (.bool H.cd)).setCell ⟨b, 9, none⟩ (.int .i64 H.rc)).setCell ⟨b, 10, none⟩ (.slice X.q.a X.q.n X.q.c)).setCell ⟨b, 11, none⟩ (.slice X.l1.a X.l1.n X.l1.c)).setCell ⟨b, 12, none⟩ (.slice X.l2.a X.l2.n X.l2.c)).setCell ⟨b, 13, none⟩ (.slice X.l3.a X.l3.n X.l3.c)) = w2 at *
  have hC2 : MCp Z X m w2 := H1.out.1.go HB2.out.size (fun j j1 j2 => HO2.out j (by have := HSZ.out; omega))
  have HBE2 : Hid (Below w.heap.size w w2) := HBE1.out.trans (HB2.out.mono (by have := HBW.out; omega))
  have HZ2 : Hid (w2.heap[b + 1]? = some (.cells #[.int .u16 0, .bool false, .int .i64 0, .bool false, .bool false, .bool false, .bool false, .bool false, .bool false, .int .i64 0, .slice none 0 0, .slice none 0 0, .slice none 0 0, .slice none 0 0] 26)) := (HO2.out _ (by omega)).trans HZ1.out
  have HC2 := Lib.hid hC2
  obtain ⟨S3, S, c1, c2, c3⟩ := hC2
  have hxn : X.l3.n ≤ 1000000 := by have := c2.lrd.len; have := HN.out; omega
  have KD := Lib.hid (delete61 S3 S X.l3 m.l3 w2 c2 hxn)
  have HC := Lib.hid (show Z.heap.size + 2 ≤ S3 ∧ RowC S3 S X.l3 m.l3 w2 ∧ Stb (Z.heap.size + 2) S3 (fun W => QsRd W X.q m.qs ∧ LRd W X.l1 m.l1 ∧ LRd W X.l2 m.l2) w2 from ⟨c1, c2, c3⟩)
  clear c1 c2 c3 hxn HBE1 HO2 HB2 HZ1 H1 e0 e1 e2 e3 e4 e5 e6 e7 e8 e9 e10 e11 e12 e13 f0 f1 f2 f3 f4 f5 f6 f7 f8 f9 f10 f11 f12 f13 lb1
  have g0 := box_cell HG2.out 0 _ rfl
  have g1 := box_cell HG2.out 1 _ rfl
  have g2 := box_cell HG2.out 2 _ rfl
  have g3 := box_cell HG2.out 3 _ rfl
  have g4 := box_cell HG2.out 4 _ rfl
  have g5 := box_cell HG2.out 5 _ rfl
  have g6 := box_cell HG2.out 6 _ rfl
  have g7 := box_cell HG2.out 7 _ rfl
  have g8 := box_cell HG2.out 8 _ rfl
  have g9 := box_cell HG2.out 9 _ rfl
  have g10 := box_cell HG2.out 10 _ rfl
  have g11 := box_cell HG2.out 11 _ rfl
  have g12 := box_cell HG2.out 12 _ rfl
  have g13 := box_cell HG2.out 13 _ rfl
  have lb2 := box_lt HG2.out
  go_wp2_with fail
  refine KD.out.mono ?_
  rintro e w3 ⟨⟨ta, tn, tc⟩, rfl, H3⟩
  simp only at H3 ⊢
  have hne : ∀ j, j < b + 2 → some j ≠ (Value.slice X.l3.a X.l3.n X.l3.c).ownBlock := fun j hj e => by
    obtain ⟨ps, _, _, q3, _⟩ := HC.out.2.1
    have := q3.lt j e.symm
    have := HC.out.1
    have := HSZ.out
    omega
  have hx3 : w3.heap[b]? = some (.cells #[.int .u16 H.id, .bool H.rs, .int .i64 H.op, .bool H.aa, .bool H.tc, .bool H.rd, .bool H.ra, .bool H.ad, .bool H.cd, .int .i64 H.rc, .slice X.q.a X.q.n X.q.c, .slice X.l1.a X.l1.n X.l1.c, .slice X.l2.a X.l2.n X.l2.c, .slice X.l3.a X.l3.n X.l3.c] 26) := (H3.out.2.block b lb2 (hne b (by omega))).trans HG2.out
  have hz3 : w3.heap[b + 1]? = some (.cells #[.int .u16 0, .bool false, .int .i64 0, .bool false, .bool false, .bool false, .bool false, .bool false, .bool false, .int .i64 0, .slice none 0 0, .slice none 0 0, .slice none 0 0, .slice none 0 0] 26) := (H3.out.2.block (b + 1) (box_lt HZ2.out) (hne (b + 1) (by omega))).trans HZ2.out
  have HBE3 : Hid (Below w.heap.size w w3) := HBE2.out.grown H3.out.2 HBE2.out.size (fun j e => by
    obtain ⟨ps, _, _, q3, _⟩ := HC.out.2.1
    have := q3.lt j e
    have := HC.out.1
    have := HSZ.out
    have := HBW.out
    omega)
  have HST : Hid (Stb (Z.heap.size + 2) S3 (fun W => QsRd W X.q m.qs ∧ LRd W X.l1 m.l1 ∧ LRd W X.l2 m.l2) w3) := HC.out.2.2.go H3.out.2.size (fun j j1 j2 => H3.out.2.block j (by have := HC.out.2.2.1; omega) (fun e => by
    obtain ⟨ps, _, _, q3, _⟩ := HC.out.2.1
    have := q3.lt j e.symm
    omega))
  obtain ⟨Y, hY⟩ : ∃ Y : MA, Y = ⟨X.q, X.l1, X.l2, ⟨ta, tn, tc⟩⟩ := ⟨_, rfl⟩
  have HY := Lib.hid hY
  have hx4 : (w3.setCell ⟨b, 13, none⟩ (.slice ta tn tc)).heap[b]? = some (.cells #[.int .u16 H.id, .bool H.rs, .int .i64 H.op, .bool H.aa, .bool H.tc, .bool H.rd, .bool H.ra, .bool H.ad, .bool H.cd, .int .i64 H.rc, .slice Y.q.a Y.q.n Y.q.c, .slice Y.l1.a Y.l1.n Y.l1.c, .slice Y.l2.a Y.l2.n Y.l2.c, .slice Y.l3.a Y.l3.n Y.l3.c] 26) := by rw [hY]; exact box_set hx3 13 _
  have HO4 : Hid (∀ j, j ≠ b → (w3.setCell ⟨b, 13, none⟩ (.slice ta tn tc)).heap[j]? = w3.heap[j]?) := fun j hj => Below.heap_setCell _ _ _ _ hj
  have HS4 : Hid ((w3.setCell ⟨b, 13, none⟩ (.slice ta tn tc)).heap.size = w3.heap.size) := by show _ = _; simp [World.setCell]
  have HBE4 : Hid (Below w.heap.size w (w3.setCell ⟨b, 13, none⟩ (.slice ta tn tc))) := HBE3.out.setCell (p := ⟨b, 13, none⟩) (by have := HBW.out; simp only; omega) _
  have HZ4 : Hid ((w3.setCell ⟨b, 13, none⟩ (.slice ta tn tc)).heap[b + 1]? = some (.cells #[.int .u16 0, .bool false, .int .i64 0, .bool false, .bool false, .bool false, .bool false, .bool false, .bool false, .int .i64 0, .slice none 0 0, .slice none 0 0, .slice none 0 0, .slice none 0 0] 26)) := (HO4.out _ (by omega)).trans hz3
  have HX4 := Lib.hid hx4
  have e13 := box_cell hx3 13 _ rfl
  have f13 : w3.frozen? ⟨b, 13, none⟩ = false := box_frozen hx3 _
  have lb3 := box_lt hx3
  clear hne hx3 hz3 hx4 hY HBE3 g0 g1 g2 g3 g4 g5 g6 g7 g8 g9 g10 g11 g12 g13 lb2
  go_upto_region 3 with fail
  generalize w3.setCell ⟨b, 13, none⟩ (.slice ta tn tc) = w4 at *
  clear e13 f13 lb3
  have e0 := box_cell HX4.out 0 _ rfl
  have e1 := box_cell HX4.out 1 _ rfl
  have e2 := box_cell HX4.out 2 _ rfl
  have e3 := box_cell HX4.out 3 _ rfl
  have e4 := box_cell HX4.out 4 _ rfl
  have e5 := box_cell HX4.out 5 _ rfl
  have e6 := box_cell HX4.out 6 _ rfl
  have e7 := box_cell HX4.out 7 _ rfl
  have e8 := box_cell HX4.out 8 _ rfl
  have e9 := box_cell HX4.out 9 _ rfl
  have e10 := box_cell HX4.out 10 _ rfl
  have e11 := box_cell HX4.out 11 _ rfl
  have e12 := box_cell HX4.out 12 _ rfl
  have e13 := box_cell HX4.out 13 _ rfl
  have f0 : w4.frozen? ⟨b + 1, 0, none⟩ = false := box_frozen HZ4.out _
  have f1 : w4.frozen? ⟨b + 1, 1, none⟩ = false := box_frozen HZ4.out _
  have f2 : w4.frozen? ⟨b + 1, 2, none⟩ = false := box_frozen HZ4.out _
  have f3 : w4.frozen? ⟨b + 1, 3, none⟩ = false := box_frozen HZ4.out _
  have f4 : w4.frozen? ⟨b + 1, 4, none⟩ = false := box_frozen HZ4.out _
  have f5 : w4.frozen? ⟨b + 1, 5, none⟩ = false := box_frozen HZ4.out _
  have f6 : w4.frozen? ⟨b + 1, 6, none⟩ = false := box_frozen HZ4.out _
  have f7 : w4.frozen? ⟨b + 1, 7, none⟩ = false := box_frozen HZ4.out _
  have f8 : w4.frozen? ⟨b + 1, 8, none⟩ = false := box_frozen HZ4.out _
  have f9 : w4.frozen? ⟨b + 1, 9, none⟩ = false := box_frozen HZ4.out _
  have f10 : w4.frozen? ⟨b + 1, 10, none⟩ = false := box_frozen HZ4.out _
  have f11 : w4.frozen? ⟨b + 1, 11, none⟩ = false := box_frozen HZ4.out _
  have f12 : w4.frozen? ⟨b + 1, 12, none⟩ = false := box_frozen HZ4.out _
  have f13 : w4.frozen? ⟨b + 1, 13, none⟩ = false := box_frozen HZ4.out _
  have d0 := box_cell HZ4.out 0 _ rfl
  have d1 := box_cell HZ4.out 1 _ rfl
  have d2 := box_cell HZ4.out 2 _ rfl
  have d3 := box_cell HZ4.out 3 _ rfl
  have d4 := box_cell HZ4.out 4 _ rfl
  have d5 := box_cell HZ4.out 5 _ rfl
  have d6 := box_cell HZ4.out 6 _ rfl
  have d7 := box_cell HZ4.out 7 _ rfl
  have d8 := box_cell HZ4.out 8 _ rfl
  have d9 := box_cell HZ4.out 9 _ rfl
  have d10 := box_cell HZ4.out 10 _ rfl
  have d11 := box_cell HZ4.out 11 _ rfl
  have d12 := box_cell HZ4.out 12 _ rfl
  have d13 := box_cell HZ4.out 13 _ rfl
  have l4 := box_lt HX4.out
  have l5 := box_lt HZ4.out
  have HG9 := Lib.hid (put14 HZ4.out (.int .u16 H.id) (.bool H.rs) (.int .i64 H.op) (.bool H.aa) (.bool H.tc) (.bool H.rd) (.bool H.ra) (.bool H.ad) (.bool H.cd) (.int .i64 H.rc) (.slice Y.q.a Y.q.n Y.q.c) (.slice Y.l1.a Y.l1.n Y.l1.c) (.slice Y.l2.a Y.l2.n Y.l2.c) (.slice Y.l3.a Y.l3.n Y.l3.c))
  have HB9 := Lib.hid (put14_below w4 (b + 1) (.int .u16 H.id) (.bool H.rs) (.int .i64 H.op) (.bool H.aa) (.bool H.tc) (.bool H.rd) (.bool H.ra) (.bool H.ad) (.bool H.cd) (.int .i64 H.rc) (.slice Y.q.a Y.q.n Y.q.c) (.slice Y.l1.a Y.l1.n Y.l1.c) (.slice Y.l2.a Y.l2.n Y.l2.c) (.slice Y.l3.a Y.l3.n Y.l3.c))
  have HO9 := Lib.hid (put14_other w4 (b + 1) (.int .u16 H.id) (.bool H.rs) (.int .i64 H.op) (.bool H.aa) (.bool H.tc) (.bool H.rd) (.bool H.ra) (.bool H.ad) (.bool H.cd) (.int .i64 H.rc) (.slice Y.q.a Y.q.n Y.q.c) (.slice Y.l1.a Y.l1.n Y.l1.c) (.slice Y.l2.a Y.l2.n Y.l2.c) (.slice Y.l3.a Y.l3.n Y.l3.c))
  go_wp2_with fail
  generalize ((((((((((((((w4.setCell ⟨b + 1, 0, none⟩ (.int .u16 H.id)).setCell ⟨b + 1, 1, none⟩ (.bool H.rs)).setCell ⟨b + 1, 2, none⟩ (.int .i64 H.op)).setCell ⟨b + 1, 3, none⟩ (.bool H.aa)).setCell ⟨b + 1, 4, none⟩ (.bool H.tc)).setCell ⟨b + 1, 5, none⟩ (.bool H.rd)).setCell ⟨b + 1, 6, none⟩ (.bool H.ra)).setCell ⟨b + 1, 7, none⟩ (.bool H.ad)).setCell ⟨b + 1, 8, none⟩ (.bool H.cd)).setCell ⟨b + 1, 9, none⟩ (.int .i64 H.rc)).setCell ⟨b + 1, 10, none⟩ (.slice Y.q.a Y.q.n Y.q.c)).setCell ⟨b + 1, 11, none⟩ (.slice Y.l1.a Y.l1.n Y.l1.c)).setCell ⟨b + 1, 12, none⟩ (.slice Y.l2.a Y.l2.n Y.l2.c)).setCell ⟨b + 1, 13, none⟩ (.slice Y.l3.a Y.l3.n Y.l3.c)) = w9 at *
  have y0 : w9.cell? ⟨b + 1, 0, none⟩ = some (.int .u16 H.id) := box_cell HG9.out 0 _ rfl
  have y1 : w9.cell? ⟨b + 1, 1, none⟩ = some (.bool H.rs) := box_cell HG9.out 1 _ rfl
  have y2 : w9.cell? ⟨b + 1, 2, none⟩ = some (.int .i64 H.op) := box_cell HG9.out 2 _ rfl
  have y3 : w9.cell? ⟨b + 1, 3, none⟩ = some (.bool H.aa) := box_cell HG9.out 3 _ rfl
  have y4 : w9.cell? ⟨b + 1, 4, none⟩ = some (.bool H.tc) := box_cell HG9.out 4 _ rfl
  have y5 : w9.cell? ⟨b + 1, 5, none⟩ = some (.bool H.rd) := box_cell HG9.out 5 _ rfl
  have y6 : w9.cell? ⟨b + 1, 6, none⟩ = some (.bool H.ra) := box_cell HG9.out 6 _ rfl
  have y7 : w9.cell? ⟨b + 1, 7, none⟩ = some (.bool H.ad) := box_cell HG9.out 7 _ rfl
  have y8 : w9.cell? ⟨b + 1, 8, none⟩ = some (.bool H.cd) := box_cell HG9.out 8 _ rfl
  have y9 : w9.cell? ⟨b + 1, 9, none⟩ = some (.int .i64 H.rc) := box_cell HG9.out 9 _ rfl
  have y10 : w9.cell? ⟨b + 1, 10, none⟩ = some (.slice Y.q.a Y.q.n Y.q.c) := box_cell HG9.out 10 _ rfl
  have y11 : w9.cell? ⟨b + 1, 11, none⟩ = some (.slice Y.l1.a Y.l1.n Y.l1.c) := box_cell HG9.out 11 _ rfl
  have y12 : w9.cell? ⟨b + 1, 12, none⟩ = some (.slice Y.l2.a Y.l2.n Y.l2.c) := box_cell HG9.out 12 _ rfl
  have y13 : w9.cell? ⟨b + 1, 13, none⟩ = some (.slice Y.l3.a Y.l3.n Y.l3.c) := box_cell HG9.out 13 _ rfl
  have lt9 := box_lt HG9.out
  have hs9 := HB9.out.size
  refine bodyPost_ret (v := .agg #[.int .u16 H.id, .bool H.rs, .int .i64 H.op, .bool H.aa, .bool H.tc, .bool H.rd, .bool H.ra, .bool H.ad, .bool H.cd, .int .i64 H.rc, .slice Y.q.a Y.q.n Y.q.c, .slice Y.l1.a Y.l1.n Y.l1.c, .slice Y.l2.a Y.l2.n Y.l2.c, .slice Y.l3.a Y.l3.n Y.l3.c]) ?_ rfl ⟨Y, rfl, ?_, HBE4.out.trans (HB9.out.mono (by have := HBW.out; omega))⟩
  · simp [results, Tryz.results36, go_sem, y0, y1, y2, y3, y4, y5, y6, y7, y8, y9, y10, y11, y12, y13, lt9]
  · have hs4 := HS4.out
    have hsz := HSZ.out
    have hc1 := HC.out.1
    have hbw := HBW.out
    refine MCp.low (W := Z) ?_ (by omega)
    rw [HY.out]
    refine ⟨S3, S, hc1, H3.out.1.go (by omega) (fun i i1 i2 => (HO9.out i (by omega)).trans (HO4.out i (by omega))), HST.out.go (by omega) (fun i i1 i2 => (HO9.out i (by omega)).trans (HO4.out i (by omega)))⟩
end Go.Proofs.YtkjnbgekaifdfaaGreat
