/- header.together; copy of four numbers. -/
import Derived.Test.YtmlccnpondemiaaVb
import Derived.Test.YtmlccnpondemiaaFit
namespace Go.Proofs.Ytmlccnpondemiaa
open Go.ChangeShapes Go.WideShapes Go.ChangeAt Go.RowKit
set_option linter.unusedVariables false
set_option linter.unusedSimpArgs false

theorem copy_into (W : World) (D S so : Nat) (x y z0 z1 z2 z3 c0 c1 c2 c3 : Int) (sc : Nat) (hD : W.heap[D]? = some (.cells #[.int .i64 x, .int .i64 y, .int .i64 z0, .int .i64 z1, .int .i64 z2, .int .i64 z3] 56))
    (h0 : W.cell? ⟨S, 0, none⟩ = some (.int .i64 c0)) (h1 : W.cell? ⟨S, 1, none⟩ = some (.int .i64 c1)) (h2 : W.cell? ⟨S, 2, none⟩ = some (.int .i64 c2)) (h3 : W.cell? ⟨S, 3, none⟩ = some (.int .i64 c3)) :
    (Builtin.copy_ #[70, 70] 3 #[.slice (some ⟨D, 2, none⟩) 4 4, .slice (some ⟨S, 0, none⟩) 4 4]).run Try.prog W = .ok (.int .i64 4) (W.setRow D #[.int .i64 x, .int .i64 y, .int .i64 c0, .int .i64 c1, .int .i64 c2, .int .i64 c3]) := by
  have := run_copy_row (P := Try.prog) W 70 70 3 3 D 2 4 4 ⟨S, 0, none⟩ 4 4 _ 56 [.int .i64 c0, .int .i64 c1, .int .i64 c2, .int .i64 c3] Try.underlying70 (by kernel_rfl) hD (by simp)
    (by
      intro j u hj
      match j, hj with
      | 0, hj => simp at hj; subst hj; simpa [Addr.add] using h0
      | 1, hj => simp at hj; subst hj; simpa [Addr.add] using h1
      | 2, hj => simp at hj; subst hj; simpa [Addr.add] using h2
      | 3, hj => simp at hj; subst hj; simpa [Addr.add] using h3
      | j + 4, hj => simp at hj) (by simp) (by intro u hu; simp at hu; rcases hu with rfl | rfl | rfl | rfl <;> rfl)
  rw [this]
  simp [goInt]
theorem copy_out (W : World) (D S : Nat) (z0 z1 z2 z3 c0 c1 c2 c3 : Int) (hD : W.heap[D]? = some (.cells #[.int .i64 z0, .int .i64 z1, .int .i64 z2, .int .i64 z3] 27))
    (h0 : W.cell? ⟨S, 2, none⟩ = some (.int .i64 c0)) (h1 : W.cell? ⟨S, 3, none⟩ = some (.int .i64 c1)) (h2 : W.cell? ⟨S, 4, none⟩ = some (.int .i64 c2)) (h3 : W.cell? ⟨S, 5, none⟩ = some (.int .i64 c3)) :
    (Builtin.copy_ #[70, 70] 3 #[.slice (some ⟨D, 0, none⟩) 4 4, .slice (some ⟨S, 2, none⟩) 4 4]).run Try.prog W = .ok (.int .i64 4) (W.setRow D #[.int .i64 c0, .int .i64 c1, .int .i64 c2, .int .i64 c3]) := by
  have := run_copy_row (P := Try.prog) W 70 70 3 3 D 0 4 4 ⟨S, 2, none⟩ 4 4 _ 27 [.int .i64 c0, .int .i64 c1, .int .i64 c2, .int .i64 c3] Try.underlying70 (by kernel_rfl) hD (by simp)
    (by
      intro j u hj
      match j, hj with
      | 0, hj => simp at hj; subst hj; simpa [Addr.add] using h0
      | 1, hj => simp at hj; subst hj; simpa [Addr.add] using h1
      | 2, hj => simp at hj; subst hj; simpa [Addr.add] using h2
      | 3, hj => simp at hj; subst hj; simpa [Addr.add] using h3
      | j + 4, hj => simp at hj) (by simp) (by intro u hu; simp at hu; rcases hu with rfl | rfl | rfl | rfl <;> rfl)
  rw [this]
  simp [goInt]
/-- What a row that is set holds. -/
theorem setRow_block {W : World} {D : Nat} {cs : Array Value} {ty : TypeId} (hD : W.heap[D]? = some (.cells cs ty)) (ds : Array Value) : (W.setRow D ds).heap[D]? = some (.cells ds ty) := by
  simp [World.setRow, Array.getElem?_modify, hD]
theorem setRow_size (W : World) (D : Nat) (ds : Array Value) : (W.setRow D ds).heap.size = W.heap.size := by simp [World.setRow]
theorem cell_of_block {W : World} {D i : Nat} {cs : Array Value} {ty : TypeId} {v : Value} (hD : W.heap[D]? = some (.cells cs ty)) (hv : cs[i]? = some v) : W.cell? ⟨D, i, none⟩ = some v := by
  simp [World.cell?, hD, hv]

theorem frozen_of_block {W : World} {D i : Nat} {cs : Array Value} {ty : TypeId} (hD : W.heap[D]? = some (.cells cs ty)) : W.frozen? ⟨D, i, none⟩ = false := by
  simp [World.frozen?, hD]
theorem alloc3 (w : World) (o1 o2 o3 : Obj) : (((w.alloc o1).alloc o2).alloc o3).drew.heap[w.heap.size]? = some o1 ∧ (((w.alloc o1).alloc o2).alloc o3).drew.heap[w.heap.size + 1]? = some o2 ∧ (((w.alloc o1).alloc o2).alloc o3).drew.heap[w.heap.size + 1 + 1]? = some o3 := by
  refine ⟨?_, ?_, ?_⟩
  · show (((w.heap.push o1).push o2).push o3)[w.heap.size]? = some o1
    simp only [Array.getElem?_push, Array.size_push]
    repeat (first | rw [if_pos (by omega)] | rw [if_neg (by omega)])
    try simp
  · show (((w.heap.push o1).push o2).push o3)[w.heap.size + 1]? = some o2
    simp only [Array.getElem?_push, Array.size_push]
    repeat (first | rw [if_pos (by omega)] | rw [if_neg (by omega)])
    try simp
  · show (((w.heap.push o1).push o2).push o3)[w.heap.size + 1 + 1]? = some o3
    simp only [Array.getElem?_push, Array.size_push]
    repeat (first | rw [if_pos (by omega)] | rw [if_neg (by omega)])
    try simp
set_option maxHeartbeats 1000000 in
theorem together_any (x y c0 c1 c2 c3 : Int) (w : World) :
    Calls Try.prog 25 #[.int .i64 x, .int .i64 y, .agg #[.int .i64 c0, .int .i64 c1, .int .i64 c2, .int .i64 c3]] w fun e w' => e = .returned (.agg #[.int .i64 x, .int .i64 y, .int .i64 c0, .int .i64 c1, .int .i64 c2, .int .i64 c3]) ∧ Below w.heap.size w w' := by
  obtain ⟨W2, h, g0, g1, g2, g3, g4, g5, hs, HB⟩ : ∃ W2, (Builtin.copy_ #[70, 70] 3 #[.slice (some ⟨w.heap.size + 1 + 1, 2, none⟩) 4 4, .slice (some ⟨w.heap.size, 0, none⟩) 4 4]).run Try.prog (((w.alloc (.cells #[.int .i64 c0, .int .i64 c1, .int .i64 c2, .int .i64 c3] 27)).alloc (.cells #[.int .i64 0, .int .i64 0, .int .i64 0, .int .i64 0, .int .i64 0, .int .i64 0] 56)).alloc (.cells #[.int .i64 x, .int .i64 y, .int .i64 0, .int .i64 0, .int .i64 0, .int .i64 0] 56)).drew = .ok (.int .i64 4) W2 ∧
      W2.cell? ⟨w.heap.size + 1 + 1, 0, none⟩ = some (.int .i64 x) ∧ W2.cell? ⟨w.heap.size + 1 + 1, 1, none⟩ = some (.int .i64 y) ∧ W2.cell? ⟨w.heap.size + 1 + 1, 2, none⟩ = some (.int .i64 c0) ∧ W2.cell? ⟨w.heap.size + 1 + 1, 3, none⟩ = some (.int .i64 c1) ∧ W2.cell? ⟨w.heap.size + 1 + 1, 4, none⟩ = some (.int .i64 c2) ∧ W2.cell? ⟨w.heap.size + 1 + 1, 5, none⟩ = some (.int .i64 c3) ∧ W2.heap[w.heap.size + 1]? = some (.cells #[.int .i64 0, .int .i64 0, .int .i64 0, .int .i64 0, .int .i64 0, .int .i64 0] 56) ∧ Hid (Below w.heap.size w W2) := by
    obtain ⟨f1, f2, hD⟩ := alloc3 w (.cells #[.int .i64 c0, .int .i64 c1, .int .i64 c2, .int .i64 c3] 27) (.cells #[.int .i64 0, .int .i64 0, .int .i64 0, .int .i64 0, .int .i64 0, .int .i64 0] 56) (.cells #[.int .i64 x, .int .i64 y, .int .i64 0, .int .i64 0, .int .i64 0, .int .i64 0] 56)
    have hb := setRow_block hD #[.int .i64 x, .int .i64 y, .int .i64 c0, .int .i64 c1, .int .i64 c2, .int .i64 c3]
    refine ⟨_, copy_into _ _ _ 0 x y 0 0 0 0 c0 c1 c2 c3 0 hD (cell_of_block f1 rfl) (cell_of_block f1 rfl) (cell_of_block f1 rfl) (cell_of_block f1 rfl), cell_of_block hb rfl, cell_of_block hb rfl, cell_of_block hb rfl, cell_of_block hb rfl, cell_of_block hb rfl, cell_of_block hb rfl, ?_, ?_⟩
    · rw [setRow_other _ _ _ _ (by omega)]; exact f2
    · exact below_setRow ((((((Below.refl _ _).alloc (Nat.le_refl _) _).alloc (by simp) _).alloc (by simp; omega) _)).drew) (by omega) _
  go_enter Try.func25, Try.ntmps25
  go_wp2
  go_region
  have hlt : w.heap.size + 1 < W2.heap.size := by
    rcases Nat.lt_or_ge (w.heap.size + 1) W2.heap.size with h | h
    · exact h
    · rw [Array.getElem?_eq_none h] at hs; cases hs
  have k0 := cell_of_block (i := 0) hs rfl
  have k1 := cell_of_block (i := 1) hs rfl
  have k2 := cell_of_block (i := 2) hs rfl
  have k3 := cell_of_block (i := 3) hs rfl
  have k4 := cell_of_block (i := 4) hs rfl
  have k5 := cell_of_block (i := 5) hs rfl
  have l0 := frozen_of_block (i := 0) hs
  have l1 := frozen_of_block (i := 1) hs
  have l2 := frozen_of_block (i := 2) hs
  have l3 := frozen_of_block (i := 3) hs
  have l4 := frozen_of_block (i := 4) hs
  have l5 := frozen_of_block (i := 5) hs
  clear h
  have HS : Hid (W2.heap[w.heap.size + 1]? = some (.cells #[.int .i64 0, .int .i64 0, .int .i64 0, .int .i64 0, .int .i64 0, .int .i64 0] 56)) := hs
  clear hs
  go_wp2
  refine bodyPost_ret (v := .agg #[.int .i64 x, .int .i64 y, .int .i64 c0, .int .i64 c1, .int .i64 c2, .int .i64 c3]) ?_ rfl ⟨rfl, ?_⟩
  · simp [results, Try.results25, go_sem, k0, k1, k2, k3, k4, k5, hlt]
  · exact (((((HB.out.setCell (p := ⟨_, _, none⟩) (by simp) _).setCell (p := ⟨_, _, none⟩) (by simp) _).setCell (p := ⟨_, _, none⟩) (by simp) _).setCell (p := ⟨_, _, none⟩) (by simp) _).setCell (p := ⟨_, _, none⟩) (by simp) _).setCell (p := ⟨_, _, none⟩) (by simp) _
end Go.Proofs.Ytmlccnpondemiaa
