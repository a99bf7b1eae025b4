/- reads: a text is read as entries. -/
import Derived.Test.YtgdkeafjglcgaaaDoorSw
import Derived.Test.YtgdkeafjglcgaaaDoorSv
import Derived.Test.YtgdkeafjglcgaaaDoorTb
namespace Go.Proofs.YtgdkeafjglcgaaaDoor
open Go.ChangeShapes Go.WideShapes Go.ChangeAt Go.RowKit
set_option linter.unusedVariables false
set_option linter.unusedSimpArgs false


theorem partF0 (a b : Int) (w : World) : (Go.part 26 #[.int .i64 a, .int .i64 b] 0).run Tryd.prog w = .ok (.int .i64 a) w := by kernel_rfl
theorem partF1 (a b : Int) (w : World) : (Go.part 3 #[.int .i64 a, .int .i64 b] 1).run Tryd.prog w = .ok (.int .i64 b) w := by kernel_rfl
theorem flds36 : ∃ a b, (Tryd.prog.fieldsOf 36).toList = [a, b] ∧ a.name ≠ "_" ∧ b.name ≠ "_" ∧ a.type = 26 ∧ b.type = 3 ∧ a.offset = 0 ∧ b.offset = 1 := by
  have h : (Tryd.prog.fieldsOf 36).toList.map (fun f => (f.name == "_", f.type, f.offset)) = [(false, 26, 0), (false, 3, 1)] := by kernel_rfl
  match hl : (Tryd.prog.fieldsOf 36).toList, h with
  | [], h => simp at h
  | [a], h => simp at h
  | [a, b], h =>
    simp at h
    exact ⟨a, b, rfl, h.1.1, h.2.1, h.1.2.1, h.2.2.1, h.1.2.2, h.2.2.2⟩
  | a :: b :: c :: r, h => simp at h
theorem eqF (a b c d : Int) (w : World) : (Op.equalIn 10000 36 (.agg #[.int .i64 a, .int .i64 b]) (.agg #[.int .i64 c, .int .i64 d])).run Tryd.prog w = .ok (decide (a = c ∧ b = d)) w := by
  rw [show (10000 : Nat) = 9999 + 1 from rfl, run_equalIn_struct w 9999 36 _ _ (by kernel_rfl) (by kernel_rfl)]
  obtain ⟨p, q, e, n1, n2, t1, t2, o1, o2⟩ := flds36
  rw [e]
  simp only [Op.eqFields, n1, n2, ne_eq, not_false_eq_true, if_true, t1, t2, o1, o2, Sem.run_bind, partF0, partF1, Result.andThen_ok, show (9999 : Nat) = 9998 + 1 from rfl, run_equalIn_int _ 9998 26 .i64 .i64 _ _ Tryd.underlying26, run_equalIn_int _ 9998 3 .i64 .i64 _ _ Tryd.underlying3]
  by_cases h1 : a = c
  · by_cases h2 : b = d
    · simp [h1, h2, partF1, show (9999 : Nat) = 9998 + 1 from rfl, run_equalIn_int _ 9998 3 .i64 .i64 _ _ Tryd.underlying3]
    · simp [h1, h2, partF1, show (9999 : Nat) = 9998 + 1 from rfl, run_equalIn_int _ 9998 3 .i64 .i64 _ _ Tryd.underlying3]
  · simp [h1]
theorem eqlF (a b c d : Int) (w : World) : (binOp .eql 36 (.agg #[.int .i64 a, .int .i64 b]) (.agg #[.int .i64 c, .int .i64 d])).run Tryd.prog w = .ok (.bool (decide (a = c ∧ b = d))) w := by
  rw [run_eql_struct, eqF]; rfl
theorem neqF (a b c d : Int) (w : World) : (binOp .neq 36 (.agg #[.int .i64 a, .int .i64 b]) (.agg #[.int .i64 c, .int .i64 d])).run Tryd.prog w = .ok (.bool (!decide (a = c ∧ b = d))) w := by
  rw [run_neq_struct, eqF]; rfl
theorem OwE.le {B : Nat} {w : World} {v : Value} {es : List En} (h : OwE B w v es) : ∃ x : Sl, v = .slice x.a x.n x.c ∧ LE w x es := by
  obtain ⟨a, c, rfl, h1, h2, h3⟩ := h.rd
  exact ⟨⟨a, es.length, c⟩, rfl, rfl, h2, h3, h1⟩
set_option maxRecDepth 100000 in
set_option maxHeartbeats 2000000 in
theorem reads14 (s : ByteArray) (x : Sl) (es : List En) (w : World) (h : LE w x es) (he : entsF s.data.toList = .ok es) :
    Calls Tryd.prog 12 #[.string s, .slice x.a x.n x.c] w fun e w' => e = .returned (.bool true) ∧ Hid (Below w.heap.size w w') := by
  have HR : Hid (LE w x es) := h
  have K12 : Hid (Calls Tryd.prog 10 #[.string s] w (EnP w (.ok es))) := (by have := entries12 s w; rw [he] at this; exact this)
  clear h he
  obtain ⟨xa, n, xc⟩ := x
  have hq : ∀ W, (binOp .eql 36 (.agg #[.int .i64 0, .int .i64 0]) (.agg #[.int .i64 0, .int .i64 0])).run Tryd.prog W = .ok (.bool true) W := fun W => by rw [eqlF]; rfl
  simp only
  go_enter Tryd.func12, Tryd.ntmps12
  go_wp2_with fail
  refine K12.out.mono ?_
  rintro e w1 ⟨v, a, b, rfl, H1⟩
  obtain ⟨rfl, rfl, how, hbl⟩ := H1.out
  obtain ⟨y, rfl, hy⟩ := how.le
  have HB2 : Hid (Below w1.heap.size w1 (w1.alloc (.cells #[.int .i64 0, .int .i64 0] 36))) := alp_below _ _
  have HB1 : Hid (Below w.heap.size w (w1.alloc (.cells #[.int .i64 0, .int .i64 0] 36))) := hbl.trans (HB2.out.mono hbl.size)
  have K9 := Lib.hid (same9 y ⟨xa, n, xc⟩ es (w1.alloc (.cells #[.int .i64 0, .int .i64 0] 36)) (hy.below HB2.out) (HR.out.below HB1.out))
  obtain ⟨ya, yn, yc⟩ := y
  simp only at K9
  clear H1 how hbl hy K12
  go_wp2_with fail
  refine K9.out.mono ?_
  rintro e w3 ⟨rfl, m, rfl⟩
  go_wp2_with fail
  go_ret
  exact ⟨rfl, HB1.out.trans ⟨rfl, rfl, rfl, Nat.le_refl _, fun _ _ => rfl⟩⟩
end Go.Proofs.YtgdkeafjglcgaaaDoor
