/- ScanBack: its walk, no text, a fault. -/
import Derived.Test.YtgdkeafjglcgaaaTe
import Derived.Deep.QuietTactic
namespace Go.Proofs.Ytgdkeafjglcgaaa
open Go.ChangeShapes Go.WideShapes Go.ChangeAt Go.RowKit
set_option linter.unusedVariables false
set_option linter.unusedSimpArgs false

set_option maxRecDepth 100000 in
set_option maxHeartbeats 8000000 in
theorem back_ne (xa : Option Addr) (n xc : Nat) (es : List En) (s : ByteArray) (w : World) (h : LE w ⟨xa, n, xc⟩ es) (hf : Few es) (hs : s.size ≤ 3000) (hj : ¬ joinErr es = 0) (e0 l0 : Nat) (hr : entsF s.data.toList = .er e0 l0) :
    Calls Try.prog 4 #[.slice xa n xc, .string s] w fun e w' => e = .returned (.bool true) ∧ Below w.heap.size w w' := by
  have HR : Hid (LE w ⟨xa, n, xc⟩ es) := h
  have HFW : Hid (Few es) := hf
  have hl : es.length = n := h.1.symm
  clear h hf
  have hs1 : ¬ (3000 : Int) < (s.size : Int) := by omega
  have HJ := Lib.hid hj
  clear hj
  have HEL : Hid ((e0 = 230 ∨ e0 = 3) ∧ 1 ≤ l0 ∧ l0 ≤ linesF s.data.toList) := ents_er (by simp; omega) hr
  have HRS : Hid (entsF s.data.toList = .er e0 l0) := hr
  clear hr
  have K10 := Lib.hid (awake10 w)
  go_enter Try.func4, Try.ntmps4
  go_wp2_with fail
  refine K10.out.mono ?_
  rintro e w1 ⟨rfl, H1⟩
  have K11 := Lib.hid (small11 ⟨xa, n, xc⟩ es w1 (HR.out.below H1.out) HFW.out)
  clear K10
  go_wp2_with fail
  refine K11.out.mono ?_
  rintro e w2 ⟨b, rfl, rfl, hb⟩
  clear K11
  cases b with
  | false =>
    go_wp2_with fail
    go_ret
    exact ⟨rfl, H1.out⟩
  | true =>
    have H30 : Hid (es.length ≤ 30) := hb rfl
    clear hb
    have K7 := Lib.hid (join7 ⟨xa, n, xc⟩ es w2 (HR.out.below H1.out) (fun e he v hv => by have := (HFW.out.2 e he).2 v hv; omega))
    go_wp2_with fail
    refine K7.out.mono ?_
    rintro e w3 ⟨t, z, rfl, H3⟩
    clear K7
    have HB3 : Hid (Below w.heap.size w w3) := H1.out.trans (H3.out.2.2.mono H1.out.size)
    have hz : ¬ z = 0 := by rw [H3.out.2.1]; exact HJ.out
    have hz2 : (z == 0) = false := by simpa using hz
    have HBW : Hid (Below w.heap.size w w3) := HB3.out
    obtain ⟨W, hW⟩ : ∃ W, W = w3 := ⟨_, rfl⟩
    subst hW
    clear H3 HB3 H1
    have K12 : Hid (Calls Try.prog 12 #[.string s] W (EnP W (.er e0 l0))) := (by
      have := entries12 s W
      rw [HRS.out] at this
      exact this)
    go_wp2_with fail
    refine K12.out.mono ?_
    rintro e w8 ⟨v, a, b, rfl, H8⟩
    clear K12
    obtain ⟨rfl, rfl, rfl, hbl⟩ := H8.out
    have hEL := HEL.out
    have n0 : ¬ (a : Int) = 0 := by have := hEL.1; omega
    have hq : ∀ W, (binOp .neq 36 (.agg #[.int .i64 a, .int .i64 b]) (.agg #[.int .i64 0, .int .i64 0])).run Try.prog W = .ok (.bool true) W := fun W => by rw [neqF, decide_eq_false (fun h => n0 h.1)]; rfl
    have HB8 : Hid (Below w.heap.size w (w8.alloc (.cells #[.int .i64 a, .int .i64 b] 36))) := HBW.out.trans ((hbl.trans ((alp_below _ _).mono hbl.size)).mono HBW.out.size)
    have hb1 : (1 : Int) ≤ (b : Int) := by have := hEL.2.1; omega
    have hb2 : (b : Int) ≤ ((linesF s.data.toList : Nat) : Int) := by have := hEL.2.2; omega
    have K13 : Hid (∀ W, Calls Try.prog 13 #[.string s] W fun e w' => e = .returned (.int .i64 (linesF s.data.toList)) ∧ w' = W) := fun W => lines13 s W (by omega)
    generalize linesF s.data.toList = L at *
    have f0 : (w8.alloc (.cells #[.int .i64 a, .int .i64 b] 36)).cell? ⟨w8.heap.size, 0, none⟩ = some (.int .i64 a) := by simp [go_sem]
    have f1 : (w8.alloc (.cells #[.int .i64 a, .int .i64 b] 36)).cell? ⟨w8.heap.size, 1, none⟩ = some (.int .i64 b) := by simp [go_sem]
    have fl : w8.heap.size < (w8.alloc (.cells #[.int .i64 a, .int .i64 b] 36)).heap.size := by simp
    have hcase := hEL.1
    clear H8 hbl hEL HEL HRS
    rcases hcase with rfl | rfl
    · go_wp2_with fail
      generalize w8.alloc (.cells #[.int .i64 230, .int .i64 b] 36) = w9 at *
      go_quiet (first | (go_at_call 13; with_reducible exact Calls.quiet_of_same (K13.out _)) | fail)
      go_wp2_with fail
      go_ret
      exact ⟨rfl, blw_dn HB8.out _⟩
    · go_wp2_with fail
      generalize w8.alloc (.cells #[.int .i64 3, .int .i64 b] 36) = w9 at *
      go_quiet (first | (go_at_call 13; with_reducible exact Calls.quiet_of_same (K13.out _)) | fail)
      go_wp2_with fail
      go_ret
      exact ⟨rfl, blw_dn HB8.out _⟩
end Go.Proofs.Ytgdkeafjglcgaaa
