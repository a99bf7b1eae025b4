/- ScanBack: its walk, no text, entries. -/
import Derived.Test.YtgdkeafjglcgaaaTe
import Derived.Deep.QuietTactic
namespace Go.Proofs.Ytgdkeafjglcgaaa
open Go.ChangeShapes Go.WideShapes Go.ChangeAt Go.RowKit
set_option linter.unusedVariables false
set_option linter.unusedSimpArgs false

set_option maxRecDepth 100000 in
set_option maxHeartbeats 8000000 in
theorem back_no (xa : Option Addr) (n xc : Nat) (es : List En) (s : ByteArray) (w : World) (h : LE w ⟨xa, n, xc⟩ es) (hf : Few es) (hs : s.size ≤ 3000) (hj : ¬ joinErr es = 0) (ms : List En) (hr : entsF s.data.toList = .ok ms) :
    Calls Try.prog 4 #[.slice xa n xc, .string s] w fun e w' => e = .returned (.bool true) ∧ Below w.heap.size w w' := by
  have HR : Hid (LE w ⟨xa, n, xc⟩ es) := h
  have HFW : Hid (Few es) := hf
  have hl : es.length = n := h.1.symm
  clear h hf
  have hs1 : ¬ (3000 : Int) < (s.size : Int) := by omega
  have HJ := Lib.hid hj
  clear hj
  have HWD : Hid (∀ e ∈ ms, ∀ v ∈ e.ws, v.1.size ≤ 3000) := fun e he v hv => by
    have := ents_words hr e he v hv
    simp at this; omega
  have HJM : Hid (joinErr ms = 0) := join_of_ents hr (by simp; omega)
  have HRS : Hid (entsF s.data.toList = .ok ms) := hr
  clear hr
  have K10 := Lib.hid (awake10 w)
  go_enter Try.func4, Try.ntmps4
  go_wp2_with fail
  refine K10.out.mono ?_
  rintro e w1 ⟨rfl, H1⟩
  have K11 := Lib.hid (small11 ⟨xa, n, xc⟩ es w1 (HR.out.below H1.out) HFW.out)
  clear K10
  go_wp2_with fail
  refine K11.out.mono ?_
  rintro e w2 ⟨b, rfl, rfl, hb⟩
  clear K11
  cases b with
  | false =>
    go_wp2_with fail
    go_ret
    exact ⟨rfl, H1.out⟩
  | true =>
    have H30 : Hid (es.length ≤ 30) := hb rfl
    clear hb
    have K7 := Lib.hid (join7 ⟨xa, n, xc⟩ es w2 (HR.out.below H1.out) (fun e he v hv => by have := (HFW.out.2 e he).2 v hv; omega))
    go_wp2_with fail
    refine K7.out.mono ?_
    rintro e w3 ⟨t, z, rfl, H3⟩
    clear K7
    have HB3 : Hid (Below w.heap.size w w3) := H1.out.trans (H3.out.2.2.mono H1.out.size)
    have hz : ¬ z = 0 := by rw [H3.out.2.1]; exact HJ.out
    have hz2 : (z == 0) = false := by simpa using hz
    have HBW : Hid (Below w.heap.size w w3) := HB3.out
    obtain ⟨W, hW⟩ : ∃ W, W = w3 := ⟨_, rfl⟩
    subst hW
    clear H3 HB3 H1
    have K12 : Hid (Calls Try.prog 12 #[.string s] W (EnP W (.ok ms))) := (by
      have := entries12 s W
      rw [HRS.out] at this
      exact this)
    go_wp2_with fail
    refine K12.out.mono ?_
    rintro e w8 ⟨v, a, b, rfl, H8⟩
    clear K12
    obtain ⟨rfl, rfl, how, hbl⟩ := H8.out
    obtain ⟨y, rfl, hy⟩ := how.le
    have hq : ∀ W, (binOp .neq 36 (.agg #[.int .i64 0, .int .i64 0]) (.agg #[.int .i64 0, .int .i64 0])).run Try.prog W = .ok (.bool false) W := fun W => by rw [neqF]; rfl
    have hqe : ∀ W, (binOp .eql 36 (.agg #[.int .i64 0, .int .i64 0]) (.agg #[.int .i64 0, .int .i64 0])).run Try.prog W = .ok (.bool true) W := fun W => by rw [eqlF]; rfl
    have HB8 : Hid (Below w.heap.size w (w8.alloc (.cells #[.int .i64 0, .int .i64 0] 36))) := HBW.out.trans ((hbl.trans ((alp_below _ _).mono hbl.size)).mono HBW.out.size)
    have HM : Hid (LE (w8.alloc (.cells #[.int .i64 0, .int .i64 0] 36)) y ms) := hy.below (alp_below _ _)
    have K7 := Lib.hid (join7 y ms (w8.alloc (.cells #[.int .i64 0, .int .i64 0] 36)) HM.out (fun e he v hv => by have := HWD.out e he v hv; omega))
    obtain ⟨ya, yn, yc⟩ := y
    try simp only at K7 HM
    have hyn : yn = ms.length := HM.out.1
    have hyc : yn ≤ yc := by have := HM.out.2.1; simp only at this; omega
    have hyc2 : yc ≤ 9223372036854775807 := HM.out.2.2.1
    obtain ⟨N, hN⟩ : ∃ N, N = ms.length := ⟨_, rfl⟩
    rw [← hN] at hyn
    subst hyn
    have HN : Hid (ms.length = yn) := hN.symm
    clear hN H8 how hbl hy HRS HBW
    go_wp2_with fail
    generalize w8.alloc (.cells #[.int .i64 0, .int .i64 0] 36) = w9 at *
    refine K7.out.mono ?_
    rintro e w10 ⟨t9, z9, rfl, H10⟩
    clear K7
    obtain rfl : z9 = 0 := by rw [H10.out.2.1]; exact HJM.out
    have K12 : Hid (Calls Try.prog 12 #[.string t9] w10 (EnP w10 (.ok (counted 1 ms)))) := (by
      have := entries12 t9 w10
      rw [H10.out.1, join_back HJM.out] at this
      exact this)
    have HB10 : Hid (Below w9.heap.size w9 w10) := H10.out.2.2
    clear H10
    go_wp2_with fail
    refine K12.out.mono ?_
    rintro e w11 ⟨v11, a, b, rfl, H11⟩
    clear K12
    obtain ⟨rfl, rfl, how, hbl⟩ := H11.out
    obtain ⟨q, rfl, hq11⟩ := how.le
    obtain ⟨qa, qn, qc⟩ := q
    have hqn : qn = yn := by have := hq11.1; simp only [counted_len] at this; have := HN.out; omega
    subst hqn
    have hqc : qn ≤ qc := by have := hq11.2.1; rw [counted_len] at this; have := HN.out; simp only at *; omega
    have hqc2 : qc ≤ 9223372036854775807 := hq11.2.2.1
    have HB12 : Hid (Below w10.heap.size w10 (w11.alloc (.cells #[.int .i64 0, .int .i64 0] 36))) := hbl.trans ((alp_below _ _).mono hbl.size)
    have HO12 : Hid (OwE w10.heap.size (w11.alloc (.cells #[.int .i64 0, .int .i64 0] 36)) (.slice qa qn qc) (counted 1 ms)) := how.stays (alp_below _ _)
    have HF12 : Hid ((w11.alloc (.cells #[.int .i64 0, .int .i64 0] 36)).heap[w11.heap.size]? = some (.cells #[.int .i64 0, .int .i64 0] 36 (0, 0))) := heap_alloc_new _ _
    have HM10 : Hid (LE w10 ⟨ya, qn, yc⟩ ms) := HM.out.below HB10.out
    have HBB : Hid (Below w.heap.size w w10) := HB8.out.trans (HB10.out.mono HB8.out.size)
    clear H11 how hbl hq11 HM HB10 HB8
    try simp only
    go_wp2_with fail
    generalize w11.alloc (.cells #[.int .i64 0, .int .i64 0] 36) = w12 at *
    generalize w11.heap.size = fb at *
    go_loopw [18] (fun u wr => ∃ k : Nat, k ≤ qn ∧ u = .int .i64 (k : Int) ∧ Hid (∃ l, Mix (fun i => ((ms.map (·.line)).getD i 0)) ms l k ∧ OwE w10.heap.size wr (.slice qa qn qc) l ∧ Below w10.heap.size w10 wr ∧ wr.heap[fb]? = some (.cells #[.int .i64 0, .int .i64 0] 36 (0, 0)))) (fun u _ => qn - (intOf u).toNat)
    case atStart => exact ⟨0, Nat.zero_le _, rfl, _, Mix.startC _ _, HO12.out, HB12.out, HF12.out⟩
    case round =>
      obtain ⟨k, hk, rfl, HV⟩ := hrel
      by_cases hlt : k < qn
      · have hlt' : (k : Int) < (qn : Int) := by omega
        obtain ⟨l, hmx, how, hbw, hfb⟩ := HV.out
        have hkm : k < ms.length := by have := HN.out; omega
        have hkl : k < l.length := by have := hmx.1; omega
        obtain ⟨b1, o1, e1, hb1, u1, c0, _, _, _⟩ := (HM10.out.below hbw).rd.at k hkm
        simp only at e1
        subst e1
        obtain ⟨g, e6, hBg, hg, zf, ⟨v0, z0⟩, hnew⟩ := how.line k hkl ms[k].line
        subst e6
        have hgf : fb ≠ g := fun e => by
          obtain ⟨cur, hc⟩ := how.blk
          rw [← e, hfb] at hc; cases hc
        have HNN : Hid (∃ l, Mix (fun i => ((ms.map (·.line)).getD i 0)) ms l (k + 1) ∧ OwE w10.heap.size (wr.setCell ⟨g, k * 3, none⟩ (.int .i64 ms[k].line)) (.slice (some ⟨g, 0, none⟩) qn qc) l ∧ Below w10.heap.size w10 (wr.setCell ⟨g, k * 3, none⟩ (.int .i64 ms[k].line)) ∧ (wr.setCell ⟨g, k * 3, none⟩ (.int .i64 ms[k].line)).heap[fb]? = some (.cells #[.int .i64 0, .int .i64 0] 36 (0, 0))) := by
          have hst := hmx.step hkl
          simp only [line_at hkm] at hst
          exact ⟨_, hst, hnew, hbw.setCell (p := ⟨g, k * 3, none⟩) hBg _, (Below.heap_setCell _ _ _ _ hgf).trans hfb⟩
        clear hmx how hbw hfb hnew HV HO12 hgf
        generalize ms[k].line = ln at *
        go_wp2_with fail
        go_round
        case rel => exact ⟨k + 1, by omega, by go_num, HNN⟩
        case measure => simp [intOf]; omega
      · have hge : ¬ (k : Int) < (qn : Int) := by omega
        obtain ⟨l, hmx, how, hbw, hfb⟩ := HV.out
        obtain rfl := hmx.done_same (by have := HN.out; omega)
        have p0 : wr.cell? ⟨fb, 0, none⟩ = some (.int .i64 0) := cell_of hfb rfl
        have p1 : wr.cell? ⟨fb, 1, none⟩ = some (.int .i64 0) := cell_of hfb rfl
        have pl := blk_lt hfb
        have K9 := Lib.hid (same9 ⟨qa, qn, qc⟩ ⟨ya, qn, yc⟩ l wr how.le' (HM10.out.below hbw))
        have HBE : Hid (Below w.heap.size w wr) := HBB.out.trans (hbw.mono HBB.out.size)
        try simp only at K9
        clear hmx how hbw hfb HV HO12 HB12 HF12 HM10 HBB
        go_wp2_with fail
        refine K9.out.mono ?_
        rintro e w13 ⟨rfl, m13, rfl⟩
        go_wp2_with fail
        go_ret
        exact ⟨rfl, blw_dn HBE.out _⟩
end Go.Proofs.Ytgdkeafjglcgaaa
