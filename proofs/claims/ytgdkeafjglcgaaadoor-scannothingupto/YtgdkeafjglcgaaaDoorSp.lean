/- Words: how long, as they stand, whether one is short; whether two are one. -/
import Derived.Test.YtgdkeafjglcgaaaDoorSd
import Derived.Deep.CutBlock
import Derived.Lib.Hide
namespace Go.Proofs.YtgdkeafjglcgaaaDoor
open Go.ChangeShapes Go.WideShapes Go.ChangeAt Go.RowKit
set_option linter.unusedVariables false
set_option linter.unusedSimpArgs false


theorem alp_below (w : World) (o : Obj) : Below w.heap.size w (w.alloc o) := (Below.refl _ _).alloc (Nat.le_refl _) _
set_option maxRecDepth 100000 in
set_option maxHeartbeats 400000 in
theorem wsize37 (v : Wd) (w : World) (hs : v.1.size ≤ 4611686018427387904) : Calls Tryd.prog 29 #[.agg #[.string v.1, .bool v.2]] w fun e w' => e = .returned (.int .i64 (wsz v)) ∧ Hid (Below w.heap.size w w') := by
  obtain ⟨s, q⟩ := v
  simp only at hs ⊢
  have HB : Hid (Below w.heap.size w (w.alloc (.cells #[.string s, .bool q] 44))) := alp_below _ _
  cases q
  · go_enter Tryd.func29, Tryd.ntmps29
    go_wp2_with fail
    go_ret
    exact ⟨by simp [wsz], HB.out⟩
  · go_enter Tryd.func29, Tryd.ntmps29
    go_wp2_with fail
    go_ret
    exact ⟨by simp [wsz]; try go_num, HB.out⟩
def wtx (v : Wd) : ByteArray := ⟨(wtxt v).toArray⟩
theorem wtx_size (v : Wd) : (wtx v).size = wsz v := by
  show (wtxt v).toArray.size = _
  rw [List.size_toArray, wtxt_len]
set_option maxRecDepth 100000 in
set_option maxHeartbeats 400000 in
theorem wtext40 (v : Wd) (w : World) (hs : v.1.size ≤ 4611686018427387904) : Calls Tryd.prog 32 #[.agg #[.string v.1, .bool v.2]] w fun e w' => e = .returned (.string (wtx v)) ∧ Hid (Below w.heap.size w w') := by
  obtain ⟨s, q⟩ := v
  simp only at hs ⊢
  have HB : Hid (Below w.heap.size w (w.alloc (.cells #[.string s, .bool q] 44))) := alp_below _ _
  cases q
  · go_enter Tryd.func32, Tryd.ntmps32
    go_wp2_with fail
    go_ret
    exact ⟨by simp [wtx, wtxt], HB.out⟩
  · go_enter Tryd.func32, Tryd.ntmps32
    go_wp2_with fail
    go_ret
    refine ⟨?_, HB.out⟩
    have : (⟨#[34]⟩ : ByteArray) ++ s ++ ⟨#[34]⟩ = wtx (s, true) := by
      apply ByteArray.ext
      apply Array.ext'
      simp [wtx, wtxt]
    rw [← this]; rfl
set_option maxRecDepth 100000 in
set_option maxHeartbeats 400000 in
theorem short18 (v : Wd) (w : World) (hs : v.1.size ≤ 4611686018427387904) : Calls Tryd.prog 16 #[.agg #[.string v.1, .bool v.2]] w fun e w' => e = .returned (.bool (decide (wsz v ≤ 65536))) ∧ Hid (Below w.heap.size w w') := by
  have K := Lib.hid (fun w => wsize37 v w hs)
  have HB : Hid (Below w.heap.size w (w.alloc (.cells #[.string v.1, .bool v.2] 44))) := alp_below _ _
  generalize wsz v = N at *
  go_enter Tryd.func16, Tryd.ntmps16
  go_wp2_with fail
  refine (K.out _).mono ?_
  rintro e w1 ⟨rfl, H1⟩
  have HB1 : Hid (Below w.heap.size w w1) := HB.out.trans (H1.out.mono HB.out.size)
  go_wp2_with fail
  go_ret
  refine ⟨?_, HB1.out⟩
  by_cases h : N ≤ 65536
  · have : (N : Int) ≤ 65536 := by omega
    simp [h, this]
  · have : ¬ (N : Int) ≤ 65536 := by omega
    simp [h, this]
theorem partT0 (s : ByteArray) (b : Bool) (w : World) : (Go.part 9 #[.string s, .bool b] 0).run Tryd.prog w = .ok (.string s) w := by kernel_rfl
theorem partT1 (s : ByteArray) (b : Bool) (w : World) : (Go.part 4 #[.string s, .bool b] 1).run Tryd.prog w = .ok (.bool b) w := by kernel_rfl
theorem flds27 : ∃ a b, (Tryd.prog.fieldsOf 44).toList = [a, b] ∧ a.name ≠ "_" ∧ b.name ≠ "_" ∧ a.type = 9 ∧ b.type = 4 ∧ a.offset = 0 ∧ b.offset = 1 := by
  have h : (Tryd.prog.fieldsOf 44).toList.map (fun f => (f.name == "_", f.type, f.offset)) = [(false, 9, 0), (false, 4, 1)] := by kernel_rfl
  match hl : (Tryd.prog.fieldsOf 44).toList, h with
  | [], h => simp at h
  | [a], h => simp at h
  | [a, b], h =>
    simp at h
    exact ⟨a, b, rfl, h.1.1, h.2.1, h.1.2.1, h.2.2.1, h.1.2.2, h.2.2.2⟩
  | a :: b :: c :: r, h => simp at h
theorem eqW (s t : ByteArray) (p q : Bool) (w : World) : (Op.equalIn 10000 44 (.agg #[.string s, .bool p]) (.agg #[.string t, .bool q])).run Tryd.prog w = .ok (decide (((s, p) : Wd) = (t, q))) w := by
  rw [show (10000 : Nat) = 9999 + 1 from rfl, run_equalIn_struct w 9999 44 _ _ (by kernel_rfl) (by kernel_rfl)]
  obtain ⟨a, b, e, n1, n2, t1, t2, o1, o2⟩ := flds27
  rw [e]
  have hs : (s.toList == t.toList) = decide (s = t) := by
    rw [Bool.eq_iff_iff, ByteArray.toList_eq, ByteArray.toList_eq]
    simp only [beq_iff_eq, decide_eq_true_eq]
    exact ⟨fun h => ByteArray.ext (Array.ext' h), fun h => by rw [h]⟩
  simp only [Op.eqFields, n1, n2, ne_eq, not_false_eq_true, if_true, t1, t2, o1, o2, Sem.run_bind, partT0, partT1, Result.andThen_ok, show (9999 : Nat) = 9998 + 1 from rfl, run_equalIn_string _ 9998 9 _ _ Tryd.underlying9, run_equalIn_bool _ 9998 4 _ _ Tryd.underlying4, hs]
  by_cases h1 : s = t
  · by_cases h2 : p = q
    · simp [h1, h2, partT1, show (9999 : Nat) = 9998 + 1 from rfl, run_equalIn_bool _ 9998 4 _ _ Tryd.underlying4]
    · simp [h1, h2, partT1, show (9999 : Nat) = 9998 + 1 from rfl, run_equalIn_bool _ 9998 4 _ _ Tryd.underlying4]
  · simp [h1]
theorem eqlW (s t : ByteArray) (p q : Bool) (w : World) : (binOp .eql 44 (.agg #[.string s, .bool p]) (.agg #[.string t, .bool q])).run Tryd.prog w = .ok (.bool (decide (((s, p) : Wd) = (t, q)))) w := by
  rw [run_eql_struct, eqW]; rfl
theorem neqW (s t : ByteArray) (p q : Bool) (w : World) : (binOp .neq 44 (.agg #[.string s, .bool p]) (.agg #[.string t, .bool q])).run Tryd.prog w = .ok (.bool (!decide (((s, p) : Wd) = (t, q)))) w := by
  rw [run_neq_struct, eqW]; rfl
end Go.Proofs.YtgdkeafjglcgaaaDoor
