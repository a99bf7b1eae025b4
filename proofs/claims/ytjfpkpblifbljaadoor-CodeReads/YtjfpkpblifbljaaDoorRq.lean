/- The document's own kinds. -/
import Derived.Test.YtjfpkpblifbljaaDoorRt
namespace Go.Proofs.YtjfpkpblifbljaaDoor
open Go.ChangeShapes Go.WideShapes Go.ChangeAt Go.RowKit
set_option linter.unusedVariables false
set_option linter.unusedSimpArgs false

theorem alloc_size (w : World) (o : Obj) : (w.alloc o).heap.size = w.heap.size + 1 := by simp
theorem rk_new (w : World) (o : Obj) (ps : Own4) : RK (((w.alloc o).alloc (.cells (ps.map fun p => Value.string ⟨p.1.toArray⟩).toArray 9)).alloc (.cells (ps.map fun p => Value.int .i64 (p.2 : Int)).toArray 3)) (w.heap.size + 1) (w.heap.size + 1 + 1) ps ∧
    Below w.heap.size w (((w.alloc o).alloc (.cells (ps.map fun p => Value.string ⟨p.1.toArray⟩).toArray 9)).alloc (.cells (ps.map fun p => Value.int .i64 (p.2 : Int)).toArray 3)) := by
  refine ⟨⟨by simp only [alloc_size]; omega, by simp only [alloc_size]; omega, fun j p hp => ⟨?_, ?_⟩⟩, ?_⟩
  · have h1 := Below.heap_alloc ((w.alloc o).alloc (.cells (ps.map fun p => Value.string ⟨p.1.toArray⟩).toArray 9)) (.cells (ps.map fun p => Value.int .i64 (p.2 : Int)).toArray 3) (w.heap.size + 1) (by simp only [alloc_size]; omega)
    have h2 := heap_alloc_new (w.alloc o) (.cells (ps.map fun p => Value.string ⟨p.1.toArray⟩).toArray 9)
    rw [alloc_size] at h2
    unfold World.cell?
    rw [h1, h2]
    simp [hp]
  · have h2 := heap_alloc_new ((w.alloc o).alloc (.cells (ps.map fun p => Value.string ⟨p.1.toArray⟩).toArray 9)) (.cells (ps.map fun p => Value.int .i64 (p.2 : Int)).toArray 3)
    rw [alloc_size, alloc_size] at h2
    unfold World.cell?
    rw [h2]
    simp [hp]
  · exact (((Below.refl _ _).alloc (Nat.le_refl _) _).alloc (by rw [alloc_size]; omega) _).alloc (by simp only [alloc_size]; omega) _
set_option maxRecDepth 100000 in
set_option maxHeartbeats 1000000 in
theorem rtypes_any (w : World) : Calls Tryd.prog 13 #[] w fun e w' => ∃ b1 b2, e = .returned (.agg #[.slice (some ⟨b1, 0, none⟩) 12 12, .slice (some ⟨b2, 0, none⟩) 12 12, .string typesP, .int .i64 65536]) ∧ Hid (RK w' b1 b2 typesW) ∧ Hid (Below w.heap.size w w') := by
  go_enter Tryd.func13, Tryd.ntmps13
  go_wp2_with fail
  refine bodyPost_ret (v := .agg #[.slice (some ⟨w.heap.size + 1, 0, none⟩) 12 12, .slice (some ⟨w.heap.size + 1 + 1, 0, none⟩) 12 12, .string typesP, .int .i64 65536]) (by simp [results, Tryd.results13, go_sem]; rfl) rfl ⟨_, _, rfl, ?_, ?_⟩
  · exact (rk_new w _ typesW).1
  · exact (rk_new w _ typesW).2
set_option maxRecDepth 100000 in
set_option maxHeartbeats 1000000 in
theorem rclasses_any (w : World) : Calls Tryd.prog 14 #[] w fun e w' => ∃ b1 b2, e = .returned (.agg #[.slice (some ⟨b1, 0, none⟩) 5 5, .slice (some ⟨b2, 0, none⟩) 5 5, .string classesP, .int .i64 65536]) ∧ Hid (RK w' b1 b2 classesW) ∧ Hid (Below w.heap.size w w') := by
  go_enter Tryd.func14, Tryd.ntmps14
  go_wp2_with fail
  refine bodyPost_ret (v := .agg #[.slice (some ⟨w.heap.size + 1, 0, none⟩) 5 5, .slice (some ⟨w.heap.size + 1 + 1, 0, none⟩) 5 5, .string classesP, .int .i64 65536]) (by simp [results, Tryd.results14, go_sem]; rfl) rfl ⟨_, _, rfl, ?_, ?_⟩
  · exact (rk_new w _ classesW).1
  · exact (rk_new w _ classesW).2
set_option maxRecDepth 100000 in
set_option maxHeartbeats 1000000 in
theorem rrcodes_any (w : World) : Calls Tryd.prog 15 #[] w fun e w' => ∃ b1 b2, e = .returned (.agg #[.slice (some ⟨b1, 0, none⟩) 12 12, .slice (some ⟨b2, 0, none⟩) 12 12, .string rcodesP, .int .i64 4096]) ∧ Hid (RK w' b1 b2 rcodesW) ∧ Hid (Below w.heap.size w w') := by
  go_enter Tryd.func15, Tryd.ntmps15
  go_wp2_with fail
  refine bodyPost_ret (v := .agg #[.slice (some ⟨w.heap.size + 1, 0, none⟩) 12 12, .slice (some ⟨w.heap.size + 1 + 1, 0, none⟩) 12 12, .string rcodesP, .int .i64 4096]) (by simp [results, Tryd.results15, go_sem]; rfl) rfl ⟨_, _, rfl, ?_, ?_⟩
  · exact (rk_new w _ rcodesW).1
  · exact (rk_new w _ rcodesW).2
set_option maxRecDepth 100000 in
set_option maxHeartbeats 1000000 in
theorem ropcodes_any (w : World) : Calls Tryd.prog 21 #[] w fun e w' => ∃ b1 b2, e = .returned (.agg #[.slice (some ⟨b1, 0, none⟩) 5 5, .slice (some ⟨b2, 0, none⟩) 5 5, .string opcodesP, .int .i64 16]) ∧ Hid (RK w' b1 b2 opcodesW) ∧ Hid (Below w.heap.size w w') := by
  go_enter Tryd.func21, Tryd.ntmps21
  go_wp2_with fail
  refine bodyPost_ret (v := .agg #[.slice (some ⟨w.heap.size + 1, 0, none⟩) 5 5, .slice (some ⟨w.heap.size + 1 + 1, 0, none⟩) 5 5, .string opcodesP, .int .i64 16]) (by simp [results, Tryd.results21, go_sem]; rfl) rfl ⟨_, _, rfl, ?_, ?_⟩
  · exact (rk_new w _ opcodesW).1
  · exact (rk_new w _ opcodesW).2
end Go.Proofs.YtjfpkpblifbljaaDoor
