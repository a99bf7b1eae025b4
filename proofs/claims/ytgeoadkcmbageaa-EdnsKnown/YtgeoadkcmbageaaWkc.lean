/- Texts laid together, in parts: Er Es Et. -/
import Derived.Test.YtgeoadkcmbageaaWkb
namespace Go.Proofs.Ytgeoadkcmbageaa
open Go.ChangeShapes Go.WideShapes Go.ChangeAt Go.RowKit
set_option linter.unusedVariables false
set_option linter.unusedSimpArgs false
theorem box_frozenE {w : World} {g : Nat} {cs : Array Value} {t : TypeId} (h : w.heap[g]? = some (.cells cs t)) (k : Nat) : w.frozen? ⟨g, k, none⟩ = false := by
  simp [World.frozen?, h]
set_option maxRecDepth 100000 in
set_option maxHeartbeats 2000000 in
theorem size26_arg (v0 v1 v2 v3 v4 v5 v6 v7 v8 v9 v10 v11 v12 : Value) (s : Sl) (own : Int) (w : World) (h : own < 512) : Calls Try.prog 26 #[.agg #[v0, v1, v2, v3, v4, v5, v6, v7, v8, v9, v10, v11, v12, .slice s.a s.n s.c], .int .i64 own] w fun e w' => e = .returned (.tuple #[.int .i64 0, .int .i64 2]) ∧ Hid (Below w.heap.size w w') := by
  obtain ⟨sa, sn, sc⟩ := s
  simp only
  have HB : Hid (Below w.heap.size w (w.alloc (.cells #[v0, v1, v2, v3, v4, v5, v6, v7, v8, v9, v10, v11, v12, .slice sa sn sc] 54))) := newE_below _ _
  go_enter Try.func26, Try.ntmps26
  go_wp2
  exact bodyPost_ret (v := .tuple #[.int .i64 0, .int .i64 2]) (by simp [results, Try.results26, go_sem]) rfl ⟨rfl, HB.out⟩
set_option maxRecDepth 100000 in
set_option maxHeartbeats 2000000 in
theorem size26_of (v0 v1 v2 v3 v4 v5 v6 v7 v8 v9 v10 v11 v12 : Value) (s : Sl) (own : Int) (w : World) (h1 : 512 ≤ own) (h2 : own ≤ 65535) (Q : Int) (hi ve : Int) (dd is : Bool) (er : Int) (hQ : 0 ≤ Q ∧ Q ≤ 65535) (K : ∀ W, Below w.heap.size w W → Calls Try.prog 21 #[.agg #[v0, v1, v2, v3, v4, v5, v6, v7, v8, v9, v10, v11, v12, .slice s.a s.n s.c]] W fun e w' => ∃ y : Sl, e = .returned (.tuple #[.agg #[.int .i64 Q, .int .i64 hi, .int .i64 ve, .bool dd, .slice y.a y.n y.c], .bool is, .int .i64 er]) ∧ Hid (Below W.heap.size W w')) : Calls Try.prog 26 #[.agg #[v0, v1, v2, v3, v4, v5, v6, v7, v8, v9, v10, v11, v12, .slice s.a s.n s.c], .int .i64 own] w fun e w' => e = .returned (.tuple #[.int .i64 (min own (max 512 Q)), .int .i64 0]) ∧ Hid (Below w.heap.size w w') := by
  have hb := newE_below w (.cells #[v0, v1, v2, v3, v4, v5, v6, v7, v8, v9, v10, v11, v12, .slice s.a s.n s.c] 54)
  have HK := Lib.hid (K _ hb)
  have m1 : (w.alloc (.cells #[v0, v1, v2, v3, v4, v5, v6, v7, v8, v9, v10, v11, v12, .slice s.a s.n s.c] 54)).heap[w.heap.size]? = some (.cells #[v0, v1, v2, v3, v4, v5, v6, v7, v8, v9, v10, v11, v12, .slice s.a s.n s.c] 54) := heap_alloc_new _ _
  have HB : Hid (Below w.heap.size w (w.alloc (.cells #[v0, v1, v2, v3, v4, v5, v6, v7, v8, v9, v10, v11, v12, .slice s.a s.n s.c] 54))) := hb
  clear K hb
  obtain ⟨sa, sn, sc⟩ := s
  simp only at *
  have n1 : ¬ own < 512 := by omega
  have n2 : ¬ 65535 < own := by omega
  go_enter Try.func26, Try.ntmps26
  go_wp2_with fail
  generalize w.alloc (.cells #[v0, v1, v2, v3, v4, v5, v6, v7, v8, v9, v10, v11, v12, .slice sa sn sc] 54) = w0 at *
  obtain ⟨b, hbb⟩ : ∃ b, b = w.heap.size := ⟨_, rfl⟩
  rw [← hbb] at m1 ⊢
  clear hbb
  have k0 := box_cell m1 0 _ rfl
  have k1 := box_cell m1 1 _ rfl
  have k2 := box_cell m1 2 _ rfl
  have k3 := box_cell m1 3 _ rfl
  have k4 := box_cell m1 4 _ rfl
  have k5 := box_cell m1 5 _ rfl
  have k6 := box_cell m1 6 _ rfl
  have k7 := box_cell m1 7 _ rfl
  have k8 := box_cell m1 8 _ rfl
  have k9 := box_cell m1 9 _ rfl
  have k10 := box_cell m1 10 _ rfl
  have k11 := box_cell m1 11 _ rfl
  have k12 := box_cell m1 12 _ rfl
  have k13 := box_cell m1 13 _ rfl
  have lb := box_lt m1
  clear m1
  go_wp2_with fail
  refine HK.out.mono ?_
  rintro e w1 ⟨⟨ya, yn, yc⟩, rfl, H1⟩
  have HB1 : Hid (Below w.heap.size w (w1.alloc (.cells #[.int .i64 Q, .int .i64 hi, .int .i64 ve, .bool dd, .slice ya yn yc] 24))) := (HB.out.trans (H1.out.mono HB.out.size)).trans ((newE_below _ _).mono (Nat.le_trans HB.out.size H1.out.size))
  clear k0 k1 k2 k3 k4 k5 k6 k7 k8 k9 k10 k11 k12 k13 lb HK
  simp only
  have hmax : (if 512 < Q then Q else 512) = max 512 Q := by split <;> omega
  have hmin : (if max 512 Q < own then max 512 Q else own) = min own (max 512 Q) := by split <;> omega
  go_wp2
  all_goals
    refine bodyPost_ret (v := .tuple #[.int .i64 (min own (max 512 Q)), .int .i64 0]) ?_ rfl ⟨rfl, HB1.out⟩
    simp [results, Try.results26, go_sem]
    try (simp_all; done)
    try omega
theorem q_is_nil (a : Option Addr) (n c : Nat) (w : World) : (binOp .eql 51 (.slice a n c) (.slice none 0 0)).run Try.prog w = .ok (.bool a.isNone) w := Lib.run_eql_slice_nil w _ _ _ _ _ _ _ Try.underlying51
theorem clone70_nil (w : World) : Calls Try.prog 70 #[.slice none 0 0] w fun e w' => e = .returned (.slice none 0 0) ∧ w' = w := by
  have h := q_is_nil none 0 0 w
  go_enter Try.func70, Try.ntmps70
  go_wp2
  go_ret
  exact ⟨rfl, rfl⟩
set_option maxRecDepth 100000 in
theorem sections72 (b : Nat) (w : World) : Calls Try.prog 72 #[.pointer (some ⟨b, 0, none⟩)] w fun e w' => e = .returned (.agg #[.pointer (some ⟨b, 11, none⟩), .pointer (some ⟨b, 12, none⟩), .pointer (some ⟨b, 13, none⟩)]) ∧ Hid (Below w.heap.size w w') := by
  go_enter Try.func72, Try.ntmps72
  go_wp2
  go_region
  go_wp2
  refine bodyPost_ret (v := .agg #[.pointer (some ⟨b, 11, none⟩), .pointer (some ⟨b, 12, none⟩), .pointer (some ⟨b, 13, none⟩)]) ?_ rfl ⟨rfl, ?_⟩
  · simp [results, Try.results72, go_sem]
  exact ((Below.refl _ _).alloc (Nat.le_refl _) _).drew
theorem put14e {w : World} {g : Nat} {v0 v1 v2 v3 v4 v5 v6 v7 v8 v9 v10 v11 v12 v13 : Value} {t : TypeId} (h : w.heap[g]? = some (.cells #[v0, v1, v2, v3, v4, v5, v6, v7, v8, v9, v10, v11, v12, v13] t)) (x0 x1 x2 x3 x4 x5 x6 x7 x8 x9 x10 x11 x12 x13 : Value) : ((((((((((((((w.setCell ⟨g, 0, none⟩ x0).setCell ⟨g, 1, none⟩ x1).setCell ⟨g, 2, none⟩ x2).setCell ⟨g, 3, none⟩ x3).setCell ⟨g, 4, none⟩ x4).setCell ⟨g, 5, none⟩ x5).setCell ⟨g, 6, none⟩ x6).setCell ⟨g, 7, none⟩ x7).setCell ⟨g, 8, none⟩ x8).setCell ⟨g, 9, none⟩ x9).setCell ⟨g, 10, none⟩ x10).setCell ⟨g, 11, none⟩ x11).setCell ⟨g, 12, none⟩ x12).setCell ⟨g, 13, none⟩ x13).heap[g]? = some (.cells #[x0, x1, x2, x3, x4, x5, x6, x7, x8, x9, x10, x11, x12, x13] t) := by
  have h0 : (w.setCell ⟨g, 0, none⟩ x0).heap[g]? = some (.cells #[x0, v1, v2, v3, v4, v5, v6, v7, v8, v9, v10, v11, v12, v13] t) := heap_set h 0 x0
  have h1 : ((w.setCell ⟨g, 0, none⟩ x0).setCell ⟨g, 1, none⟩ x1).heap[g]? = some (.cells #[x0, x1, v2, v3, v4, v5, v6, v7, v8, v9, v10, v11, v12, v13] t) := heap_set h0 1 x1
  have h2 : (((w.setCell ⟨g, 0, none⟩ x0).setCell ⟨g, 1, none⟩ x1).setCell ⟨g, 2, none⟩ x2).heap[g]? = some (.cells #[x0, x1, x2, v3, v4, v5, v6, v7, v8, v9, v10, v11, v12, v13] t) := heap_set h1 2 x2
  have h3 : ((((w.setCell ⟨g, 0, none⟩ x0).setCell ⟨g, 1, none⟩ x1).setCell ⟨g, 2, none⟩ x2).setCell ⟨g, 3, none⟩ x3).heap[g]? = some (.cells #[x0, x1, x2, x3, v4, v5, v6, v7, v8, v9, v10, v11, v12, v13] t) := heap_set h2 3 x3
  have h4 : (((((w.setCell ⟨g, 0, none⟩ x0).setCell ⟨g, 1, none⟩ x1).setCell ⟨g, 2, none⟩ x2).setCell ⟨g, 3, none⟩ x3).setCell ⟨g, 4, none⟩ x4).heap[g]? = some (.cells #[x0, x1, x2, x3, x4, v5, v6, v7, v8, v9, v10, v11, v12, v13] t) := heap_set h3 4 x4
  have h5 : ((((((w.setCell ⟨g, 0, none⟩ x0).setCell ⟨g, 1, none⟩ x1).setCell ⟨g, 2, none⟩ x2).setCell ⟨g, 3, none⟩ x3).setCell ⟨g, 4, none⟩ x4).setCell ⟨g, 5, none⟩ x5).heap[g]? = some (.cells #[x0, x1, x2, x3, x4, x5, v6, v7, v8, v9, v10, v11, v12, v13] t) := heap_set h4 5 x5
  have h6 : (((((((w.setCell ⟨g, 0, none⟩ x0).setCell ⟨g, 1, none⟩ x1).setCell ⟨g, 2, none⟩ x2).setCell ⟨g, 3, none⟩ x3).setCell ⟨g, 4, none⟩ x4).setCell ⟨g, 5, none⟩ x5).setCell ⟨g, 6, none⟩ x6).heap[g]? = some (.cells #[x0, x1, x2, x3, x4, x5, x6, v7, v8, v9, v10, v11, v12, v13] t) := heap_set h5 6 x6
  have h7 : ((((((((w.setCell ⟨g, 0, none⟩ x0).setCell ⟨g, 1, none⟩ x1).setCell ⟨g, 2, none⟩ x2).setCell ⟨g, 3, none⟩ x3).setCell ⟨g, 4, none⟩ x4).setCell ⟨g, 5, none⟩ x5).setCell ⟨g, 6, none⟩ x6).setCell ⟨g, 7, none⟩ x7).heap[g]? = some (.cells #[x0, x1, x2, x3, x4, x5, x6, x7, v8, v9, v10, v11, v12, v13] t) := heap_set h6 7 x7
  have h8 : (((((((((w.setCell ⟨g, 0, none⟩ x0).setCell ⟨g, 1, none⟩ x1).setCell ⟨g, 2, none⟩ x2).setCell ⟨g, 3, none⟩ x3).setCell ⟨g, 4, none⟩ x4).setCell ⟨g, 5, none⟩ x5).setCell ⟨g, 6, none⟩ x6).setCell ⟨g, 7, none⟩ x7).setCell ⟨g, 8, none⟩ x8).heap[g]? = some (.cells #[x0, x1, x2, x3, x4, x5, x6, x7, x8, v9, v10, v11, v12, v13] t) := heap_set h7 8 x8
  have h9 : ((((((((((w.setCell ⟨g, 0, none⟩ x0).setCell ⟨g, 1, none⟩ x1).setCell ⟨g, 2, none⟩ x2).setCell ⟨g, 3, none⟩ x3).setCell ⟨g, 4, none⟩ x4).setCell ⟨g, 5, none⟩ x5).setCell ⟨g, 6, none⟩ x6).setCell ⟨g, 7, none⟩ x7).setCell ⟨g, 8, none⟩ x8).setCell ⟨g, 9, none⟩ x9).heap[g]? = some (.cells #[x0, x1, x2, x3, x4, x5, x6, x7, x8, x9, v10, v11, v12, v13] t) := heap_set h8 9 x9
  have h10 : (((((((((((w.setCell ⟨g, 0, none⟩ x0).setCell ⟨g, 1, none⟩ x1).setCell ⟨g, 2, none⟩ x2).setCell ⟨g, 3, none⟩ x3).setCell ⟨g, 4, none⟩ x4).setCell ⟨g, 5, none⟩ x5).setCell ⟨g, 6, none⟩ x6).setCell ⟨g, 7, none⟩ x7).setCell ⟨g, 8, none⟩ x8).setCell ⟨g, 9, none⟩ x9).setCell ⟨g, 10, none⟩ x10).heap[g]? = some (.cells #[x0, x1, x2, x3, x4, x5, x6, x7, x8, x9, x10, v11, v12, v13] t) := heap_set h9 10 x10
  have h11 : ((((((((((((w.setCell ⟨g, 0, none⟩ x0).setCell ⟨g, 1, none⟩ x1).setCell ⟨g, 2, none⟩ x2).setCell ⟨g, 3, none⟩ x3).setCell ⟨g, 4, none⟩ x4).setCell ⟨g, 5, none⟩ x5).setCell ⟨g, 6, none⟩ x6).setCell ⟨g, 7, none⟩ x7).setCell ⟨g, 8, none⟩ x8).setCell ⟨g, 9, none⟩ x9).setCell ⟨g, 10, none⟩ x10).setCell ⟨g, 11, none⟩ x11).heap[g]? = some (.cells #[x0, x1, x2, x3, x4, x5, x6, x7, x8, x9, x10, x11, v12, v13] t) := heap_set h10 11 x11
  have h12 : (((((((((((((w.setCell ⟨g, 0, none⟩ x0).setCell ⟨g, 1, none⟩ x1).setCell ⟨g, 2, none⟩ x2).setCell ⟨g, 3, none⟩ x3).setCell ⟨g, 4, none⟩ x4).setCell ⟨g, 5, none⟩ x5).setCell ⟨g, 6, none⟩ x6).setCell ⟨g, 7, none⟩ x7).setCell ⟨g, 8, none⟩ x8).setCell ⟨g, 9, none⟩ x9).setCell ⟨g, 10, none⟩ x10).setCell ⟨g, 11, none⟩ x11).setCell ⟨g, 12, none⟩ x12).heap[g]? = some (.cells #[x0, x1, x2, x3, x4, x5, x6, x7, x8, x9, x10, x11, x12, v13] t) := heap_set h11 12 x12
  have h13 : ((((((((((((((w.setCell ⟨g, 0, none⟩ x0).setCell ⟨g, 1, none⟩ x1).setCell ⟨g, 2, none⟩ x2).setCell ⟨g, 3, none⟩ x3).setCell ⟨g, 4, none⟩ x4).setCell ⟨g, 5, none⟩ x5).setCell ⟨g, 6, none⟩ x6).setCell ⟨g, 7, none⟩ x7).setCell ⟨g, 8, none⟩ x8).setCell ⟨g, 9, none⟩ x9).setCell ⟨g, 10, none⟩ x10).setCell ⟨g, 11, none⟩ x11).setCell ⟨g, 12, none⟩ x12).setCell ⟨g, 13, none⟩ x13).heap[g]? = some (.cells #[x0, x1, x2, x3, x4, x5, x6, x7, x8, x9, x10, x11, x12, x13] t) := heap_set h12 13 x13
  exact h13
theorem put14e_below (w : World) (g : Nat) (x0 x1 x2 x3 x4 x5 x6 x7 x8 x9 x10 x11 x12 x13 : Value) : Below g w ((((((((((((((w.setCell ⟨g, 0, none⟩ x0).setCell ⟨g, 1, none⟩ x1).setCell ⟨g, 2, none⟩ x2).setCell ⟨g, 3, none⟩ x3).setCell ⟨g, 4, none⟩ x4).setCell ⟨g, 5, none⟩ x5).setCell ⟨g, 6, none⟩ x6).setCell ⟨g, 7, none⟩ x7).setCell ⟨g, 8, none⟩ x8).setCell ⟨g, 9, none⟩ x9).setCell ⟨g, 10, none⟩ x10).setCell ⟨g, 11, none⟩ x11).setCell ⟨g, 12, none⟩ x12).setCell ⟨g, 13, none⟩ x13) :=
  ((((((((((((((Below.refl g w).setCell (p := ⟨g, 0, none⟩) (Nat.le_refl g) x0).setCell (p := ⟨g, 1, none⟩) (Nat.le_refl g) x1).setCell (p := ⟨g, 2, none⟩) (Nat.le_refl g) x2).setCell (p := ⟨g, 3, none⟩) (Nat.le_refl g) x3).setCell (p := ⟨g, 4, none⟩) (Nat.le_refl g) x4).setCell (p := ⟨g, 5, none⟩) (Nat.le_refl g) x5).setCell (p := ⟨g, 6, none⟩) (Nat.le_refl g) x6).setCell (p := ⟨g, 7, none⟩) (Nat.le_refl g) x7).setCell (p := ⟨g, 8, none⟩) (Nat.le_refl g) x8).setCell (p := ⟨g, 9, none⟩) (Nat.le_refl g) x9).setCell (p := ⟨g, 10, none⟩) (Nat.le_refl g) x10).setCell (p := ⟨g, 11, none⟩) (Nat.le_refl g) x11).setCell (p := ⟨g, 12, none⟩) (Nat.le_refl g) x12).setCell (p := ⟨g, 13, none⟩) (Nat.le_refl g) x13
theorem put14e_other (w : World) (g : Nat) (x0 x1 x2 x3 x4 x5 x6 x7 x8 x9 x10 x11 x12 x13 : Value) (j : Nat) (h : j ≠ g) : ((((((((((((((w.setCell ⟨g, 0, none⟩ x0).setCell ⟨g, 1, none⟩ x1).setCell ⟨g, 2, none⟩ x2).setCell ⟨g, 3, none⟩ x3).setCell ⟨g, 4, none⟩ x4).setCell ⟨g, 5, none⟩ x5).setCell ⟨g, 6, none⟩ x6).setCell ⟨g, 7, none⟩ x7).setCell ⟨g, 8, none⟩ x8).setCell ⟨g, 9, none⟩ x9).setCell ⟨g, 10, none⟩ x10).setCell ⟨g, 11, none⟩ x11).setCell ⟨g, 12, none⟩ x12).setCell ⟨g, 13, none⟩ x13).heap[j]? = w.heap[j]? := by
  rw [Below.heap_setCell _ _ _ _ h, Below.heap_setCell _ _ _ _ h, Below.heap_setCell _ _ _ _ h, Below.heap_setCell _ _ _ _ h, Below.heap_setCell _ _ _ _ h, Below.heap_setCell _ _ _ _ h, Below.heap_setCell _ _ _ _ h, Below.heap_setCell _ _ _ _ h, Below.heap_setCell _ _ _ _ h, Below.heap_setCell _ _ _ _ h, Below.heap_setCell _ _ _ _ h, Below.heap_setCell _ _ _ _ h, Below.heap_setCell _ _ _ _ h, Below.heap_setCell _ _ _ _ h]
theorem ixE0 (b : Nat) (w : World) : (Instr.index 110 (.agg #[.pointer (some ⟨b, 11, none⟩), .pointer (some ⟨b, 12, none⟩), .pointer (some ⟨b, 13, none⟩)]) (.int .i64 0)).run Try.prog w = .ok (.pointer (some ⟨b, 11, none⟩)) w := by kernel_rfl
theorem ixE1 (b : Nat) (w : World) : (Instr.index 110 (.agg #[.pointer (some ⟨b, 11, none⟩), .pointer (some ⟨b, 12, none⟩), .pointer (some ⟨b, 13, none⟩)]) (.int .i64 1)).run Try.prog w = .ok (.pointer (some ⟨b, 12, none⟩)) w := by kernel_rfl
theorem ixE2 (b : Nat) (w : World) : (Instr.index 110 (.agg #[.pointer (some ⟨b, 11, none⟩), .pointer (some ⟨b, 12, none⟩), .pointer (some ⟨b, 13, none⟩)]) (.int .i64 2)).run Try.prog w = .ok (.pointer (some ⟨b, 13, none⟩)) w := by kernel_rfl
end Go.Proofs.Ytgeoadkcmbageaa
namespace Go.Proofs.Ytgeoadkcmbageaa
open Go.ChangeShapes Go.WideShapes Go.ChangeAt Go.RowKit
set_option linter.unusedVariables false
set_option linter.unusedSimpArgs false
set_option maxRecDepth 100000 in
set_option maxHeartbeats 4000000 in
theorem copy54_zero (w : World) : Calls Try.prog 54 #[.agg #[.int .u16 0, .bool false, .int .i64 0, .bool false, .bool false, .bool false, .bool false, .bool false, .bool false, .int .i64 0, .slice none 0 0, .slice none 0 0, .slice none 0 0, .slice none 0 0]] w fun e w' => e = .returned (.agg #[.int .u16 0, .bool false, .int .i64 0, .bool false, .bool false, .bool false, .bool false, .bool false, .bool false, .int .i64 0, .slice none 0 0, .slice none 0 0, .slice none 0 0, .slice none 0 0]) ∧ Hid (Below w.heap.size w w') := by
  have K50 := fun W => Lib.hid (clone50_nil W)
  have K70 := fun W => Lib.hid (clone70_nil W)
  obtain ⟨V, hV⟩ : ∃ V, V = (w.alloc (.cells #[.int .u16 0, .bool false, .int .i64 0, .bool false, .bool false, .bool false, .bool false, .bool false, .bool false, .int .i64 0, .slice none 0 0, .slice none 0 0, .slice none 0 0, .slice none 0 0] 54)).alloc (.cells #[.int .u16 0, .bool false, .int .i64 0, .bool false, .bool false, .bool false, .bool false, .bool false, .bool false, .int .i64 0, .slice none 0 0, .slice none 0 0, .slice none 0 0, .slice none 0 0] 54) := ⟨_, rfl⟩
  have HV : Hid (Below w.heap.size w V ∧ V.heap[w.heap.size]? = some (.cells #[.int .u16 0, .bool false, .int .i64 0, .bool false, .bool false, .bool false, .bool false, .bool false, .bool false, .int .i64 0, .slice none 0 0, .slice none 0 0, .slice none 0 0, .slice none 0 0] 54) ∧ V.heap[w.heap.size + 1]? = some (.cells #[.int .u16 0, .bool false, .int .i64 0, .bool false, .bool false, .bool false, .bool false, .bool false, .bool false, .int .i64 0, .slice none 0 0, .slice none 0 0, .slice none 0 0, .slice none 0 0] 54)) := by
    rw [hV]
    refine ⟨((Below.refl _ _).alloc (Nat.le_refl _) _).alloc (by simp) _, block_alloc (alloc_at _ _) _, ?_⟩
    have := alloc_at (w.alloc (.cells #[.int .u16 0, .bool false, .int .i64 0, .bool false, .bool false, .bool false, .bool false, .bool false, .bool false, .int .i64 0, .slice none 0 0, .slice none 0 0, .slice none 0 0, .slice none 0 0] 54)) (.cells #[.int .u16 0, .bool false, .int .i64 0, .bool false, .bool false, .bool false, .bool false, .bool false, .bool false, .int .i64 0, .slice none 0 0, .slice none 0 0, .slice none 0 0, .slice none 0 0] 54)
    simp only [World.size_alloc] at this
    exact this
  go_enter Try.func54, Try.ntmps54
  go_wp2_with fail
  rw [← hV]
  clear hV
  obtain ⟨b, hb⟩ : ∃ b, b = w.heap.size := ⟨_, rfl⟩
  have HBB : Hid (b = w.heap.size) := hb
  have HV0 : Hid (Below w.heap.size w V) := HV.out.1
  have HV1 : Hid (V.heap[b]? = some (.cells #[.int .u16 0, .bool false, .int .i64 0, .bool false, .bool false, .bool false, .bool false, .bool false, .bool false, .int .i64 0, .slice none 0 0, .slice none 0 0, .slice none 0 0, .slice none 0 0] 54)) := (show _ = _ by rw [hb]; exact HV.out.2.1)
  have HV2 : Hid (V.heap[b + 1]? = some (.cells #[.int .u16 0, .bool false, .int .i64 0, .bool false, .bool false, .bool false, .bool false, .bool false, .bool false, .int .i64 0, .slice none 0 0, .slice none 0 0, .slice none 0 0, .slice none 0 0] 54)) := (show _ = _ by rw [hb]; exact HV.out.2.2)
  rw [← hb]
  clear hb HV
  have c1 := box_cell HV1.out 10 _ rfl
  have f1 := box_frozenE HV1.out 10
  have lb := box_lt HV1.out
  go_wp2_with fail
  refine (K70 _).out.mono ?_
  rintro e w1 ⟨rfl, hw1⟩
  subst hw1
  have h9 : (w1.setCell ⟨b, 10, none⟩ (.slice none 0 0)).heap[b]? = some (.cells #[.int .u16 0, .bool false, .int .i64 0, .bool false, .bool false, .bool false, .bool false, .bool false, .bool false, .int .i64 0, .slice none 0 0, .slice none 0 0, .slice none 0 0, .slice none 0 0] 54) := heap_set HV1.out 10 _
  have HB1 : Hid (Below w.heap.size w (w1.setCell ⟨b, 10, none⟩ (.slice none 0 0))) := HV0.out.setCell (p := ⟨b, 10, none⟩) (by have := HBB.out; simp only; omega) _
  have H1b : Hid ((w1.setCell ⟨b, 10, none⟩ (.slice none 0 0)).heap[b + 1]? = some (.cells #[.int .u16 0, .bool false, .int .i64 0, .bool false, .bool false, .bool false, .bool false, .bool false, .bool false, .int .i64 0, .slice none 0 0, .slice none 0 0, .slice none 0 0, .slice none 0 0] 54)) := (show _ = _ by rw [Below.heap_setCell _ _ _ _ (by simp)]; exact HV2.out)
  have H1a := Lib.hid h9
  have d1 := box_cell h9 10 _ rfl
  have l9 := box_lt h9
  clear h9
  go_wp2_with fail
  clear c1 f1 lb
  generalize w1.setCell ⟨b, 10, none⟩ (.slice none 0 0) = w2 at *
  have K72 := fun W => Lib.hid (sections72 b W)
  go_loop [16] (fun y => y = .int .i64 0) (fun _ => 0)
  case atStart => rfl
  case round =>
    subst hrel
    go_wp2_with fail
    refine (K72 _).out.mono ?_
    rintro e w3 ⟨rfl, H3⟩
    have HB3 : Hid (Below w.heap.size w w3) := HB1.out.trans (H3.out.mono HB1.out.size)
    have H3a : Hid (w3.heap[b]? = some (.cells #[.int .u16 0, .bool false, .int .i64 0, .bool false, .bool false, .bool false, .bool false, .bool false, .bool false, .int .i64 0, .slice none 0 0, .slice none 0 0, .slice none 0 0, .slice none 0 0] 54)) := (H3.out.block b (box_lt H1a.out)).trans H1a.out
    have H3b : Hid (w3.heap[b + 1]? = some (.cells #[.int .u16 0, .bool false, .int .i64 0, .bool false, .bool false, .bool false, .bool false, .bool false, .bool false, .int .i64 0, .slice none 0 0, .slice none 0 0, .slice none 0 0, .slice none 0 0] 54)) := (H3.out.block (b + 1) (box_lt H1b.out)).trans H1b.out
    clear d1 l9 H1a H1b HB1 H3 K72 HV0 HV1 HV2
    go_wp2_with fail
    go_loopw [33] (fun y wr => ∃ k : Nat, k ≤ 3 ∧ y = .int .i64 (k : Int) ∧ Hid (wr.heap[b]? = some (.cells #[.int .u16 0, .bool false, .int .i64 0, .bool false, .bool false, .bool false, .bool false, .bool false, .bool false, .int .i64 0, .slice none 0 0, .slice none 0 0, .slice none 0 0, .slice none 0 0] 54)) ∧ Hid (wr.heap[b + 1]? = some (.cells #[.int .u16 0, .bool false, .int .i64 0, .bool false, .bool false, .bool false, .bool false, .bool false, .bool false, .int .i64 0, .slice none 0 0, .slice none 0 0, .slice none 0 0, .slice none 0 0] 54)) ∧ Hid (Below w.heap.size w wr)) (fun y _ => 3 - (intOf y).toNat)
    case atStart => exact ⟨0, by omega, rfl, H3a.out, H3b.out, HB3.out⟩
    case round =>
      obtain ⟨k, hk, rfl, H1, H2, HB⟩ := hrel
      have lb := box_lt H1.out
      have hc : k = 0 ∨ k = 1 ∨ k = 2 ∨ k = 3 := by omega
      rcases hc with rfl | rfl | rfl | rfl
      · have c1 := box_cell H1.out 11 _ rfl
        have f1 := box_frozenE H1.out 11
        have hix := ixE0 b wr
        go_wp2_with fail
        refine (K50 _).out.mono ?_
        rintro e w2 ⟨rfl, hw2⟩
        subst hw2
        have h9 : (w2.setCell ⟨b, 11, none⟩ (.slice none 0 0)).heap[b]? = some (.cells #[.int .u16 0, .bool false, .int .i64 0, .bool false, .bool false, .bool false, .bool false, .bool false, .bool false, .int .i64 0, .slice none 0 0, .slice none 0 0, .slice none 0 0, .slice none 0 0] 54) := heap_set H1.out 11 _
        have HB9 : Hid (Below w.heap.size w (w2.setCell ⟨b, 11, none⟩ (.slice none 0 0))) := HB.out.setCell (p := ⟨b, 11, none⟩) (by have := HBB.out; simp only; omega) _
        have H9b : Hid ((w2.setCell ⟨b, 11, none⟩ (.slice none 0 0)).heap[b + 1]? = some (.cells #[.int .u16 0, .bool false, .int .i64 0, .bool false, .bool false, .bool false, .bool false, .bool false, .bool false, .int .i64 0, .slice none 0 0, .slice none 0 0, .slice none 0 0, .slice none 0 0] 54)) := (show _ = _ by rw [Below.heap_setCell _ _ _ _ (by simp)]; exact H2.out)
        have H9 := Lib.hid h9
        have d1 := box_cell h9 11 _ rfl
        have l9 := box_lt h9
        clear h9
        go_wp2_with fail
        clear c1 f1
        generalize w2.setCell ⟨b, 11, none⟩ (.slice none 0 0) = w9 at *
        go_loop [46] (fun y => y = .int .i64 0) (fun _ => 0)
        case atStart => rfl
        case round =>
          subst hrel
          go_wp2
          exact ⟨⟨0 + 1, by omega, by go_num, H9.out, H9b.out, HB9.out⟩, by simp [intOf]⟩
      · have c1 := box_cell H1.out 12 _ rfl
        have f1 := box_frozenE H1.out 12
        have hix := ixE1 b wr
        go_wp2_with fail
        refine (K50 _).out.mono ?_
        rintro e w2 ⟨rfl, hw2⟩
        subst hw2
        have h9 : (w2.setCell ⟨b, 12, none⟩ (.slice none 0 0)).heap[b]? = some (.cells #[.int .u16 0, .bool false, .int .i64 0, .bool false, .bool false, .bool false, .bool false, .bool false, .bool false, .int .i64 0, .slice none 0 0, .slice none 0 0, .slice none 0 0, .slice none 0 0] 54) := heap_set H1.out 12 _
        have HB9 : Hid (Below w.heap.size w (w2.setCell ⟨b, 12, none⟩ (.slice none 0 0))) := HB.out.setCell (p := ⟨b, 12, none⟩) (by have := HBB.out; simp only; omega) _
        have H9b : Hid ((w2.setCell ⟨b, 12, none⟩ (.slice none 0 0)).heap[b + 1]? = some (.cells #[.int .u16 0, .bool false, .int .i64 0, .bool false, .bool false, .bool false, .bool false, .bool false, .bool false, .int .i64 0, .slice none 0 0, .slice none 0 0, .slice none 0 0, .slice none 0 0] 54)) := (show _ = _ by rw [Below.heap_setCell _ _ _ _ (by simp)]; exact H2.out)
        have H9 := Lib.hid h9
        have d1 := box_cell h9 12 _ rfl
        have l9 := box_lt h9
        clear h9
        go_wp2_with fail
        clear c1 f1
        generalize w2.setCell ⟨b, 12, none⟩ (.slice none 0 0) = w9 at *
        go_loop [46] (fun y => y = .int .i64 0) (fun _ => 0)
        case atStart => rfl
        case round =>
          subst hrel
          go_wp2
          exact ⟨⟨1 + 1, by omega, by go_num, H9.out, H9b.out, HB9.out⟩, by simp [intOf]⟩
      · have c1 := box_cell H1.out 13 _ rfl
        have f1 := box_frozenE H1.out 13
        have hix := ixE2 b wr
        go_wp2_with fail
        refine (K50 _).out.mono ?_
        rintro e w2 ⟨rfl, hw2⟩
        subst hw2
        have h9 : (w2.setCell ⟨b, 13, none⟩ (.slice none 0 0)).heap[b]? = some (.cells #[.int .u16 0, .bool false, .int .i64 0, .bool false, .bool false, .bool false, .bool false, .bool false, .bool false, .int .i64 0, .slice none 0 0, .slice none 0 0, .slice none 0 0, .slice none 0 0] 54) := heap_set H1.out 13 _
        have HB9 : Hid (Below w.heap.size w (w2.setCell ⟨b, 13, none⟩ (.slice none 0 0))) := HB.out.setCell (p := ⟨b, 13, none⟩) (by have := HBB.out; simp only; omega) _
        have H9b : Hid ((w2.setCell ⟨b, 13, none⟩ (.slice none 0 0)).heap[b + 1]? = some (.cells #[.int .u16 0, .bool false, .int .i64 0, .bool false, .bool false, .bool false, .bool false, .bool false, .bool false, .int .i64 0, .slice none 0 0, .slice none 0 0, .slice none 0 0, .slice none 0 0] 54)) := (show _ = _ by rw [Below.heap_setCell _ _ _ _ (by simp)]; exact H2.out)
        have H9 := Lib.hid h9
        have d1 := box_cell h9 13 _ rfl
        have l9 := box_lt h9
        clear h9
        go_wp2_with fail
        clear c1 f1
        generalize w2.setCell ⟨b, 13, none⟩ (.slice none 0 0) = w9 at *
        go_loop [46] (fun y => y = .int .i64 0) (fun _ => 0)
        case atStart => rfl
        case round =>
          subst hrel
          go_wp2
          exact ⟨⟨2 + 1, by omega, by go_num, H9.out, H9b.out, HB9.out⟩, by simp [intOf]⟩
      · have c0 := box_cell H1.out 0 _ rfl; have c1 := box_cell H1.out 1 _ rfl; have c2 := box_cell H1.out 2 _ rfl; have c3 := box_cell H1.out 3 _ rfl; have c4 := box_cell H1.out 4 _ rfl; have c5 := box_cell H1.out 5 _ rfl; have c6 := box_cell H1.out 6 _ rfl; have c7 := box_cell H1.out 7 _ rfl; have c8 := box_cell H1.out 8 _ rfl; have c9 := box_cell H1.out 9 _ rfl; have c10 := box_cell H1.out 10 _ rfl; have c11 := box_cell H1.out 11 _ rfl; have c12 := box_cell H1.out 12 _ rfl; have c13 := box_cell H1.out 13 _ rfl
        have d0 := box_cell H2.out 0 _ rfl; have f0 := box_frozenE H2.out 0; have d1 := box_cell H2.out 1 _ rfl; have f1 := box_frozenE H2.out 1; have d2 := box_cell H2.out 2 _ rfl; have f2 := box_frozenE H2.out 2; have d3 := box_cell H2.out 3 _ rfl; have f3 := box_frozenE H2.out 3; have d4 := box_cell H2.out 4 _ rfl; have f4 := box_frozenE H2.out 4; have d5 := box_cell H2.out 5 _ rfl; have f5 := box_frozenE H2.out 5; have d6 := box_cell H2.out 6 _ rfl; have f6 := box_frozenE H2.out 6; have d7 := box_cell H2.out 7 _ rfl; have f7 := box_frozenE H2.out 7; have d8 := box_cell H2.out 8 _ rfl; have f8 := box_frozenE H2.out 8; have d9 := box_cell H2.out 9 _ rfl; have f9 := box_frozenE H2.out 9; have d10 := box_cell H2.out 10 _ rfl; have f10 := box_frozenE H2.out 10; have d11 := box_cell H2.out 11 _ rfl; have f11 := box_frozenE H2.out 11; have d12 := box_cell H2.out 12 _ rfl; have f12 := box_frozenE H2.out 12; have d13 := box_cell H2.out 13 _ rfl; have f13 := box_frozenE H2.out 13
        have l2 := box_lt H2.out
        go_wp2_with fail
        have z8 : ((((((((((((((wr.setCell ⟨b + 1, 0, none⟩ (.int .u16 0)).setCell ⟨b + 1, 1, none⟩ (.bool false)).setCell ⟨b + 1, 2, none⟩ (.int .i64 0)).setCell ⟨b + 1, 3, none⟩ (.bool false)).setCell ⟨b + 1, 4, none⟩ (.bool false)).setCell ⟨b + 1, 5, none⟩ (.bool false)).setCell ⟨b + 1, 6, none⟩ (.bool false)).setCell ⟨b + 1, 7, none⟩ (.bool false)).setCell ⟨b + 1, 8, none⟩ (.bool false)).setCell ⟨b + 1, 9, none⟩ (.int .i64 0)).setCell ⟨b + 1, 10, none⟩ (.slice none 0 0)).setCell ⟨b + 1, 11, none⟩ (.slice none 0 0)).setCell ⟨b + 1, 12, none⟩ (.slice none 0 0)).setCell ⟨b + 1, 13, none⟩ (.slice none 0 0)).heap[b + 1]? = some (.cells #[.int .u16 0, .bool false, .int .i64 0, .bool false, .bool false, .bool false, .bool false, .bool false, .bool false, .int .i64 0, .slice none 0 0, .slice none 0 0, .slice none 0 0, .slice none 0 0] 54) := put14e H2.out _ _ _ _ _ _ _ _ _ _ _ _ _ _
        have HB8 : Hid (Below (b + 1) wr ((((((((((((((wr.setCell ⟨b + 1, 0, none⟩ (.int .u16 0)).setCell ⟨b + 1, 1, none⟩ (.bool false)).setCell ⟨b + 1, 2, none⟩ (.int .i64 0)).setCell ⟨b + 1, 3, none⟩ (.bool false)).setCell ⟨b + 1, 4, none⟩ (.bool false)).setCell ⟨b + 1, 5, none⟩ (.bool false)).setCell ⟨b + 1, 6, none⟩ (.bool false)).setCell ⟨b + 1, 7, none⟩ (.bool false)).setCell ⟨b + 1, 8, none⟩ (.bool false)).setCell ⟨b + 1, 9, none⟩ (.int .i64 0)).setCell ⟨b + 1, 10, none⟩ (.slice none 0 0)).setCell ⟨b + 1, 11, none⟩ (.slice none 0 0)).setCell ⟨b + 1, 12, none⟩ (.slice none 0 0)).setCell ⟨b + 1, 13, none⟩ (.slice none 0 0))) := put14e_below wr (b + 1) _ _ _ _ _ _ _ _ _ _ _ _ _ _
        generalize ((((((((((((((wr.setCell ⟨b + 1, 0, none⟩ (.int .u16 0)).setCell ⟨b + 1, 1, none⟩ (.bool false)).setCell ⟨b + 1, 2, none⟩ (.int .i64 0)).setCell ⟨b + 1, 3, none⟩ (.bool false)).setCell ⟨b + 1, 4, none⟩ (.bool false)).setCell ⟨b + 1, 5, none⟩ (.bool false)).setCell ⟨b + 1, 6, none⟩ (.bool false)).setCell ⟨b + 1, 7, none⟩ (.bool false)).setCell ⟨b + 1, 8, none⟩ (.bool false)).setCell ⟨b + 1, 9, none⟩ (.int .i64 0)).setCell ⟨b + 1, 10, none⟩ (.slice none 0 0)).setCell ⟨b + 1, 11, none⟩ (.slice none 0 0)).setCell ⟨b + 1, 12, none⟩ (.slice none 0 0)).setCell ⟨b + 1, 13, none⟩ (.slice none 0 0)) = w8 at *
        clear c0 d0 f0 c1 d1 f1 c2 d2 f2 c3 d3 f3 c4 d4 f4 c5 d5 f5 c6 d6 f6 c7 d7 f7 c8 d8 f8 c9 d9 f9 c10 d10 f10 c11 d11 f11 c12 d12 f12 c13 d13 f13
        have y0 := box_cell z8 0 _ rfl; have y1 := box_cell z8 1 _ rfl; have y2 := box_cell z8 2 _ rfl; have y3 := box_cell z8 3 _ rfl; have y4 := box_cell z8 4 _ rfl; have y5 := box_cell z8 5 _ rfl; have y6 := box_cell z8 6 _ rfl; have y7 := box_cell z8 7 _ rfl; have y8 := box_cell z8 8 _ rfl; have y9 := box_cell z8 9 _ rfl; have y10 := box_cell z8 10 _ rfl; have y11 := box_cell z8 11 _ rfl; have y12 := box_cell z8 12 _ rfl; have y13 := box_cell z8 13 _ rfl
        have hbb := HBB.out
        refine bodyPost_ret (v := .agg #[.int .u16 0, .bool false, .int .i64 0, .bool false, .bool false, .bool false, .bool false, .bool false, .bool false, .int .i64 0, .slice none 0 0, .slice none 0 0, .slice none 0 0, .slice none 0 0]) ?_ rfl ⟨rfl, HB.out.trans (HB8.out.mono (by omega))⟩
        simp [results, Try.results54, go_sem, y0, y1, y2, y3, y4, y5, y6, y7, y8, y9, y10, y11, y12, y13]
end Go.Proofs.Ytgeoadkcmbageaa
namespace Go.Proofs.Ytgeoadkcmbageaa
open Go.ChangeShapes Go.WideShapes Go.ChangeAt Go.RowKit
set_option linter.unusedVariables false
set_option linter.unusedSimpArgs false
theorem cellsR_oneE (ps : List (RA × Rec)) : ∀ u ∈ cellsR ps, u.oneCell' = true := by
  intro u hu
  simp only [cellsR, List.mem_flatMap] at hu
  obtain ⟨p, _, hu⟩ := hu
  simp [recCells] at hu
  rcases hu with rfl | rfl | rfl | rfl | rfl | rfl | rfl | rfl <;> rfl
theorem rec_any {w : World} {x : RA} {cl tt : Nat} (h : RRd w x ⟨[], 41, cl, tt, ⟨[], [], [], []⟩⟩) (w' : World) : RRd w' x ⟨[], 41, cl, tt, ⟨[], [], [], []⟩⟩ :=
  ⟨⟨.inl rfl, h.1.len, h.1.cap, h.1.nil, h.1.z63⟩, ⟨.inl rfl, h.2.h1.len, h.2.h1.cap, h.2.h1.nil⟩, ⟨.inl rfl, h.2.h2.len, h.2.h2.cap, h.2.h2.nil, fun x hx => (by cases hx)⟩, ⟨.inl rfl, h.2.h3.len, h.2.h3.cap, h.2.h3.nil, h.2.h3.z63⟩, ⟨⟨.inl rfl, h.2.h4.rd.2⟩, h.2.h4.len, h.2.h4.cap, h.2.h4.nil⟩⟩
set_option maxRecDepth 100000 in
set_option maxHeartbeats 8000000 in
theorem with23_zero (E : Edn) (s : Sl) (w : World) (h : OsRd w s E.os) (hf : ∀ o ∈ E.os, o.d.length ≤ 65540) (hs : Say E) (hn : E.os = []) : Calls Try.prog 23 #[.agg #[.int .u16 0, .bool false, .int .i64 0, .bool false, .bool false, .bool false, .bool false, .bool false, .bool false, .int .i64 0, .slice none 0 0, .slice none 0 0, .slice none 0 0, .slice none 0 0], .agg #[.int .i64 E.sz, .int .i64 E.hi, .int .i64 E.ve, .bool E.dd, .slice s.a s.n s.c]] w fun e w' => ∃ t : Sl, e = .returned (.tuple #[.agg #[.int .u16 0, .bool false, .int .i64 0, .bool false, .bool false, .bool false, .bool false, .bool false, .bool false, .int .i64 0, .slice none 0 0, .slice none 0 0, .slice none 0 0, .slice t.a t.n t.c], .int .i64 0]) ∧ Hid (LsRd w' t [recE E] ∧ Below w.heap.size w w') := by
  have HO : Hid (OsRd w s E.os) := h
  have HF : Hid (∀ o ∈ E.os, o.d.length ≤ 65540) := hf
  have HS : Hid (Say E) := hs
  have HN : Hid (recE E = ⟨[], 41, E.sz.toNat, ttlE E, ⟨[], [], [], []⟩⟩) := (show _ = _ by unfold recE; rw [hn]; rfl)
  have HN2 : Hid (∃ cl tt, recE E = ⟨[], 41, cl, tt, ⟨[], [], [], []⟩⟩) := ⟨_, _, HN.out⟩
  clear h hf hs hn HN
  obtain ⟨RE, hRE⟩ : ∃ RE, RE = recE E := ⟨_, rfl⟩
  have HRE : Hid (RE = recE E) := hRE
  rw [← hRE]
  clear hRE
  have K11g : ∀ W, Below w.heap.size w W → Hid (Calls Try.prog 11 #[.agg #[.int .i64 E.sz, .int .i64 E.hi, .int .i64 E.ve, .bool E.dd, .slice s.a s.n s.c]] W fun e w' => ∃ x : RA, e = .returned (.tuple #[.agg #[(.slice x.o.a x.o.n x.o.c), (.int .u16 RE.t), (.int .u16 RE.cl), (.int .u32 RE.tt), (.slice x.d.p1.a x.d.p1.n x.d.p1.c), (.slice x.d.p2.a x.d.p2.n x.d.p2.c), (.slice x.d.p3.a x.d.p3.n x.d.p3.c), (.slice x.d.p4.a x.d.p4.n x.d.p4.c)], .int .i64 0]) ∧ Hid (RRd w' x RE ∧ Below W.heap.size W w')) := fun W hb => by
    rw [HRE.out]
    exact record11_yes E s W (HO.out.below hb) HF.out HS.out
  obtain ⟨sz, hi, ve, dd, os⟩ := E
  obtain ⟨sa, sn, sc⟩ := s
  simp only at *
  obtain ⟨i37, hi7, hz0, hz1, hz2⟩ := inf69'
  have HI : Hid (Try.prog.info? 37 = some i37 ∧ i37.zero = some (.agg #[.slice none 0 0, .int .u16 0, .int .u16 0, .int .u32 0, .slice none 0 0, .slice none 0 0, .slice none 0 0, .slice none 0 0]) ∧ i37.size = 8 ∧ i37.bytes = 128) := ⟨hi7, hz0, hz1, hz2⟩
  clear hi7 hz0 hz1 hz2
  have K52 := fun W => Lib.hid (contains52 nilS [] W (lsrd_none W))
  simp only [nilS, List.any_nil] at K52
  have K54 := fun W => Lib.hid (copy54_zero W)
  obtain ⟨V, hV⟩ : ∃ V, V = ((w.alloc (.cells #[.int .u16 0, .bool false, .int .i64 0, .bool false, .bool false, .bool false, .bool false, .bool false, .bool false, .int .i64 0, .slice none 0 0, .slice none 0 0, .slice none 0 0, .slice none 0 0] 54)).alloc (.cells #[.int .i64 sz, .int .i64 hi, .int .i64 ve, .bool dd, .slice sa sn sc] 24)).alloc (.cells #[.int .u16 0, .bool false, .int .i64 0, .bool false, .bool false, .bool false, .bool false, .bool false, .bool false, .int .i64 0, .slice none 0 0, .slice none 0 0, .slice none 0 0, .slice none 0 0] 54) := ⟨_, rfl⟩
  have HV : Hid (Below w.heap.size w V ∧ V.heap[w.heap.size]? = some (.cells #[.int .u16 0, .bool false, .int .i64 0, .bool false, .bool false, .bool false, .bool false, .bool false, .bool false, .int .i64 0, .slice none 0 0, .slice none 0 0, .slice none 0 0, .slice none 0 0] 54) ∧ V.heap[w.heap.size + 1]? = some (.cells #[.int .i64 sz, .int .i64 hi, .int .i64 ve, .bool dd, .slice sa sn sc] 24) ∧ V.heap[w.heap.size + 1 + 1]? = some (.cells #[.int .u16 0, .bool false, .int .i64 0, .bool false, .bool false, .bool false, .bool false, .bool false, .bool false, .int .i64 0, .slice none 0 0, .slice none 0 0, .slice none 0 0, .slice none 0 0] 54)) := by
    rw [hV]
    have n1 := newE_below w (.cells #[.int .u16 0, .bool false, .int .i64 0, .bool false, .bool false, .bool false, .bool false, .bool false, .bool false, .int .i64 0, .slice none 0 0, .slice none 0 0, .slice none 0 0, .slice none 0 0] 54)
    have a1 := heap_alloc_new w (.cells #[.int .u16 0, .bool false, .int .i64 0, .bool false, .bool false, .bool false, .bool false, .bool false, .bool false, .int .i64 0, .slice none 0 0, .slice none 0 0, .slice none 0 0, .slice none 0 0] 54)
    have s1 : (w.alloc (.cells #[.int .u16 0, .bool false, .int .i64 0, .bool false, .bool false, .bool false, .bool false, .bool false, .bool false, .int .i64 0, .slice none 0 0, .slice none 0 0, .slice none 0 0, .slice none 0 0] 54)).heap.size = w.heap.size + 1 := by rw [World.size_alloc]
    generalize w.alloc (.cells #[.int .u16 0, .bool false, .int .i64 0, .bool false, .bool false, .bool false, .bool false, .bool false, .bool false, .int .i64 0, .slice none 0 0, .slice none 0 0, .slice none 0 0, .slice none 0 0] 54) = u1 at *
    have n2 := newE_below u1 (.cells #[.int .i64 sz, .int .i64 hi, .int .i64 ve, .bool dd, .slice sa sn sc] 24)
    have a2 := heap_alloc_new u1 (.cells #[.int .i64 sz, .int .i64 hi, .int .i64 ve, .bool dd, .slice sa sn sc] 24)
    have s2 : (u1.alloc (.cells #[.int .i64 sz, .int .i64 hi, .int .i64 ve, .bool dd, .slice sa sn sc] 24)).heap.size = w.heap.size + 1 + 1 := by rw [World.size_alloc, s1]
    generalize u1.alloc (.cells #[.int .i64 sz, .int .i64 hi, .int .i64 ve, .bool dd, .slice sa sn sc] 24) = u2 at *
    have n3 := newE_below u2 (.cells #[.int .u16 0, .bool false, .int .i64 0, .bool false, .bool false, .bool false, .bool false, .bool false, .bool false, .int .i64 0, .slice none 0 0, .slice none 0 0, .slice none 0 0, .slice none 0 0] 54)
    have a3 := heap_alloc_new u2 (.cells #[.int .u16 0, .bool false, .int .i64 0, .bool false, .bool false, .bool false, .bool false, .bool false, .bool false, .int .i64 0, .slice none 0 0, .slice none 0 0, .slice none 0 0, .slice none 0 0] 54)
    rw [s1] at a2
    rw [s2] at a3
    refine ⟨n1.trans ((n2.mono (by omega)).trans (n3.mono (by omega))), ?_, ?_, a3⟩
    · rw [n3.block _ (by omega), n2.block _ (by omega), a1]
    · rw [n3.block _ (by omega), a2]
  go_enter Try.func23, Try.ntmps23
  go_wp2_with fail
  rw [← hV]
  clear hV
  obtain ⟨b, hb⟩ : ∃ b, b = w.heap.size := ⟨_, rfl⟩
  have HBB : Hid (b = w.heap.size) := hb
  have HV0 : Hid (Below w.heap.size w V) := HV.out.1
  have HV1 : Hid (V.heap[b]? = some (.cells #[.int .u16 0, .bool false, .int .i64 0, .bool false, .bool false, .bool false, .bool false, .bool false, .bool false, .int .i64 0, .slice none 0 0, .slice none 0 0, .slice none 0 0, .slice none 0 0] 54)) := (show _ = _ by rw [hb]; exact HV.out.2.1)
  have HV2 : Hid (V.heap[b + 1]? = some (.cells #[.int .i64 sz, .int .i64 hi, .int .i64 ve, .bool dd, .slice sa sn sc] 24)) := (show _ = _ by rw [hb]; exact HV.out.2.2.1)
  have HV3 : Hid (V.heap[b + 1 + 1]? = some (.cells #[.int .u16 0, .bool false, .int .i64 0, .bool false, .bool false, .bool false, .bool false, .bool false, .bool false, .int .i64 0, .slice none 0 0, .slice none 0 0, .slice none 0 0, .slice none 0 0] 54)) := (show _ = _ by rw [hb]; exact HV.out.2.2.2)
  rw [← hb]
  clear hb HV
  have k13 := box_cell HV1.out 13 _ rfl
  have lb := box_lt HV1.out
  go_wp2_with fail
  refine (K52 _).out.mono ?_
  rintro e w1 ⟨rfl, H1⟩
  clear k13 lb K52
  have e0 := box_cell ((H1.out.block (b + 1) (box_lt HV2.out)).trans HV2.out) 0 _ rfl; have e1 := box_cell ((H1.out.block (b + 1) (box_lt HV2.out)).trans HV2.out) 1 _ rfl; have e2 := box_cell ((H1.out.block (b + 1) (box_lt HV2.out)).trans HV2.out) 2 _ rfl; have e3 := box_cell ((H1.out.block (b + 1) (box_lt HV2.out)).trans HV2.out) 3 _ rfl; have e4 := box_cell ((H1.out.block (b + 1) (box_lt HV2.out)).trans HV2.out) 4 _ rfl
  have lb1 : b + 1 < w1.heap.size := Nat.lt_of_lt_of_le (box_lt HV2.out) H1.out.size
  have K11 := K11g w1 (HV0.out.trans (H1.out.mono HV0.out.size))
  go_wp2_with fail
  refine K11.out.mono ?_
  rintro e w2 ⟨x, rfl, H2⟩
  have HB2 : Hid (Below V.heap.size V w2) := H1.out.trans (H2.out.2.mono H1.out.size)
  have nb := newE_below w2 (.cells #[(.slice x.o.a x.o.n x.o.c), (.int .u16 RE.t), (.int .u16 RE.cl), (.int .u32 RE.tt), (.slice x.d.p1.a x.d.p1.n x.d.p1.c), (.slice x.d.p2.a x.d.p2.n x.d.p2.c), (.slice x.d.p3.a x.d.p3.n x.d.p3.c), (.slice x.d.p4.a x.d.p4.n x.d.p4.c)] 37)
  have nx : (w2.alloc (.cells #[(.slice x.o.a x.o.n x.o.c), (.int .u16 RE.t), (.int .u16 RE.cl), (.int .u32 RE.tt), (.slice x.d.p1.a x.d.p1.n x.d.p1.c), (.slice x.d.p2.a x.d.p2.n x.d.p2.c), (.slice x.d.p3.a x.d.p3.n x.d.p3.c), (.slice x.d.p4.a x.d.p4.n x.d.p4.c)] 37)).heap[w2.heap.size]? = some (.cells #[(.slice x.o.a x.o.n x.o.c), (.int .u16 RE.t), (.int .u16 RE.cl), (.int .u32 RE.tt), (.slice x.d.p1.a x.d.p1.n x.d.p1.c), (.slice x.d.p2.a x.d.p2.n x.d.p2.c), (.slice x.d.p3.a x.d.p3.n x.d.p3.c), (.slice x.d.p4.a x.d.p4.n x.d.p4.c)] 37) := heap_alloc_new _ _
  have HX3 : Hid ((w2.alloc (.cells #[(.slice x.o.a x.o.n x.o.c), (.int .u16 RE.t), (.int .u16 RE.cl), (.int .u32 RE.tt), (.slice x.d.p1.a x.d.p1.n x.d.p1.c), (.slice x.d.p2.a x.d.p2.n x.d.p2.c), (.slice x.d.p3.a x.d.p3.n x.d.p3.c), (.slice x.d.p4.a x.d.p4.n x.d.p4.c)] 37)).heap[w2.heap.size]? = some (.cells #[(.slice x.o.a x.o.n x.o.c), (.int .u16 RE.t), (.int .u16 RE.cl), (.int .u32 RE.tt), (.slice x.d.p1.a x.d.p1.n x.d.p1.c), (.slice x.d.p2.a x.d.p2.n x.d.p2.c), (.slice x.d.p3.a x.d.p3.n x.d.p3.c), (.slice x.d.p4.a x.d.p4.n x.d.p4.c)] 37)) := nx
  have HR3 : Hid (RRd (w2.alloc (.cells #[(.slice x.o.a x.o.n x.o.c), (.int .u16 RE.t), (.int .u16 RE.cl), (.int .u32 RE.tt), (.slice x.d.p1.a x.d.p1.n x.d.p1.c), (.slice x.d.p2.a x.d.p2.n x.d.p2.c), (.slice x.d.p3.a x.d.p3.n x.d.p3.c), (.slice x.d.p4.a x.d.p4.n x.d.p4.c)] 37)) x RE) := RRd_below H2.out.1 nb
  have HB3 : Hid (Below V.heap.size V (w2.alloc (.cells #[(.slice x.o.a x.o.n x.o.c), (.int .u16 RE.t), (.int .u16 RE.cl), (.int .u32 RE.tt), (.slice x.d.p1.a x.d.p1.n x.d.p1.c), (.slice x.d.p2.a x.d.p2.n x.d.p2.c), (.slice x.d.p3.a x.d.p3.n x.d.p3.c), (.slice x.d.p4.a x.d.p4.n x.d.p4.c)] 37))) := HB2.out.trans (nb.mono HB2.out.size)
  have HC : Hid (V.heap.size ≤ w2.heap.size) := HB2.out.size
  clear e0 e1 e2 e3 e4 lb1 K11 K11g nb nx H1 H2 HB2
  go_upto_region 6 with fail
  generalize w2.alloc (.cells #[(.slice x.o.a x.o.n x.o.c), (.int .u16 RE.t), (.int .u16 RE.cl), (.int .u32 RE.tt), (.slice x.d.p1.a x.d.p1.n x.d.p1.c), (.slice x.d.p2.a x.d.p2.n x.d.p2.c), (.slice x.d.p3.a x.d.p3.n x.d.p3.c), (.slice x.d.p4.a x.d.p4.n x.d.p4.c)] 37) = w3a at *
  obtain ⟨c, hc⟩ : ∃ c, c = w2.heap.size := ⟨_, rfl⟩
  simp only [← hc] at HX3 HC ⊢
  clear hc
  have e0 := box_cell ((HB3.out.block b (box_lt HV1.out)).trans HV1.out) 0 _ rfl; have e1 := box_cell ((HB3.out.block b (box_lt HV1.out)).trans HV1.out) 1 _ rfl; have e2 := box_cell ((HB3.out.block b (box_lt HV1.out)).trans HV1.out) 2 _ rfl; have e3 := box_cell ((HB3.out.block b (box_lt HV1.out)).trans HV1.out) 3 _ rfl; have e4 := box_cell ((HB3.out.block b (box_lt HV1.out)).trans HV1.out) 4 _ rfl; have e5 := box_cell ((HB3.out.block b (box_lt HV1.out)).trans HV1.out) 5 _ rfl; have e6 := box_cell ((HB3.out.block b (box_lt HV1.out)).trans HV1.out) 6 _ rfl; have e7 := box_cell ((HB3.out.block b (box_lt HV1.out)).trans HV1.out) 7 _ rfl; have e8 := box_cell ((HB3.out.block b (box_lt HV1.out)).trans HV1.out) 8 _ rfl; have e9 := box_cell ((HB3.out.block b (box_lt HV1.out)).trans HV1.out) 9 _ rfl; have e10 := box_cell ((HB3.out.block b (box_lt HV1.out)).trans HV1.out) 10 _ rfl; have e11 := box_cell ((HB3.out.block b (box_lt HV1.out)).trans HV1.out) 11 _ rfl; have e12 := box_cell ((HB3.out.block b (box_lt HV1.out)).trans HV1.out) 12 _ rfl; have e13 := box_cell ((HB3.out.block b (box_lt HV1.out)).trans HV1.out) 13 _ rfl
  have lb : b < w3a.heap.size := Nat.lt_of_lt_of_le (box_lt HV1.out) HB3.out.size
  go_wp2_with fail
  refine (K54 _).out.mono ?_
  rintro e w3 ⟨rfl, H3⟩
  have HB4 : Hid (Below V.heap.size V w3) := HB3.out.trans (H3.out.mono HB3.out.size)
  have HX4 : Hid (w3.heap[c]? = some (.cells #[(.slice x.o.a x.o.n x.o.c), (.int .u16 RE.t), (.int .u16 RE.cl), (.int .u32 RE.tt), (.slice x.d.p1.a x.d.p1.n x.d.p1.c), (.slice x.d.p2.a x.d.p2.n x.d.p2.c), (.slice x.d.p3.a x.d.p3.n x.d.p3.c), (.slice x.d.p4.a x.d.p4.n x.d.p4.c)] 37)) := (H3.out.block c (box_lt HX3.out)).trans HX3.out
  have HR4 : Hid (RRd w3 x RE) := RRd_below HR3.out H3.out
  have hb4 := (HB4.out.block b (box_lt HV1.out)).trans HV1.out
  clear e0 e1 e2 e3 e4 e5 e6 e7 e8 e9 e10 e11 e12 e13 lb H3 HX3 HR3 HB3 K54
  have e0 := box_cell hb4 0 _ rfl; have f0 := box_frozenE hb4 0; have e1 := box_cell hb4 1 _ rfl; have f1 := box_frozenE hb4 1; have e2 := box_cell hb4 2 _ rfl; have f2 := box_frozenE hb4 2; have e3 := box_cell hb4 3 _ rfl; have f3 := box_frozenE hb4 3; have e4 := box_cell hb4 4 _ rfl; have f4 := box_frozenE hb4 4; have e5 := box_cell hb4 5 _ rfl; have f5 := box_frozenE hb4 5; have e6 := box_cell hb4 6 _ rfl; have f6 := box_frozenE hb4 6; have e7 := box_cell hb4 7 _ rfl; have f7 := box_frozenE hb4 7; have e8 := box_cell hb4 8 _ rfl; have f8 := box_frozenE hb4 8; have e9 := box_cell hb4 9 _ rfl; have f9 := box_frozenE hb4 9; have e10 := box_cell hb4 10 _ rfl; have f10 := box_frozenE hb4 10; have e11 := box_cell hb4 11 _ rfl; have f11 := box_frozenE hb4 11; have e12 := box_cell hb4 12 _ rfl; have f12 := box_frozenE hb4 12; have e13 := box_cell hb4 13 _ rfl; have f13 := box_frozenE hb4 13
  have lb := box_lt hb4
  have hb5 : ((((((((((((((w3.setCell ⟨b, 0, none⟩ (.int .u16 0)).setCell ⟨b, 1, none⟩ (.bool false)).setCell ⟨b, 2, none⟩ (.int .i64 0)).setCell ⟨b, 3, none⟩ (.bool false)).setCell ⟨b, 4, none⟩ (.bool false)).setCell ⟨b, 5, none⟩ (.bool false)).setCell ⟨b, 6, none⟩ (.bool false)).setCell ⟨b, 7, none⟩ (.bool false)).setCell ⟨b, 8, none⟩ (.bool false)).setCell ⟨b, 9, none⟩ (.int .i64 0)).setCell ⟨b, 10, none⟩ (.slice none 0 0)).setCell ⟨b, 11, none⟩ (.slice none 0 0)).setCell ⟨b, 12, none⟩ (.slice none 0 0)).setCell ⟨b, 13, none⟩ (.slice none 0 0)).heap[b]? = some (.cells #[.int .u16 0, .bool false, .int .i64 0, .bool false, .bool false, .bool false, .bool false, .bool false, .bool false, .int .i64 0, .slice none 0 0, .slice none 0 0, .slice none 0 0, .slice none 0 0] 54) := put14e hb4 _ _ _ _ _ _ _ _ _ _ _ _ _ _
  have HO5 : Hid (∀ j, j ≠ b → ((((((((((((((w3.setCell ⟨b, 0, none⟩ (.int .u16 0)).setCell ⟨b, 1, none⟩ (.bool false)).setCell ⟨b, 2, none⟩ (.int .i64 0)).setCell ⟨b, 3, none⟩ (.bool false)).setCell ⟨b, 4, none⟩ (.bool false)).setCell ⟨b, 5, none⟩ (.bool false)).setCell ⟨b, 6, none⟩ (.bool false)).setCell ⟨b, 7, none⟩ (.bool false)).setCell ⟨b, 8, none⟩ (.bool false)).setCell ⟨b, 9, none⟩ (.int .i64 0)).setCell ⟨b, 10, none⟩ (.slice none 0 0)).setCell ⟨b, 11, none⟩ (.slice none 0 0)).setCell ⟨b, 12, none⟩ (.slice none 0 0)).setCell ⟨b, 13, none⟩ (.slice none 0 0)).heap[j]? = w3.heap[j]?) := fun j hj => put14e_other w3 b _ _ _ _ _ _ _ _ _ _ _ _ _ _ j hj
  have HB5 : Hid (Below b w3 ((((((((((((((w3.setCell ⟨b, 0, none⟩ (.int .u16 0)).setCell ⟨b, 1, none⟩ (.bool false)).setCell ⟨b, 2, none⟩ (.int .i64 0)).setCell ⟨b, 3, none⟩ (.bool false)).setCell ⟨b, 4, none⟩ (.bool false)).setCell ⟨b, 5, none⟩ (.bool false)).setCell ⟨b, 6, none⟩ (.bool false)).setCell ⟨b, 7, none⟩ (.bool false)).setCell ⟨b, 8, none⟩ (.bool false)).setCell ⟨b, 9, none⟩ (.int .i64 0)).setCell ⟨b, 10, none⟩ (.slice none 0 0)).setCell ⟨b, 11, none⟩ (.slice none 0 0)).setCell ⟨b, 12, none⟩ (.slice none 0 0)).setCell ⟨b, 13, none⟩ (.slice none 0 0))) := put14e_below w3 b _ _ _ _ _ _ _ _ _ _ _ _ _ _
  go_upto_region 7 with fail
  generalize ((((((((((((((w3.setCell ⟨b, 0, none⟩ (.int .u16 0)).setCell ⟨b, 1, none⟩ (.bool false)).setCell ⟨b, 2, none⟩ (.int .i64 0)).setCell ⟨b, 3, none⟩ (.bool false)).setCell ⟨b, 4, none⟩ (.bool false)).setCell ⟨b, 5, none⟩ (.bool false)).setCell ⟨b, 6, none⟩ (.bool false)).setCell ⟨b, 7, none⟩ (.bool false)).setCell ⟨b, 8, none⟩ (.bool false)).setCell ⟨b, 9, none⟩ (.int .i64 0)).setCell ⟨b, 10, none⟩ (.slice none 0 0)).setCell ⟨b, 11, none⟩ (.slice none 0 0)).setCell ⟨b, 12, none⟩ (.slice none 0 0)).setCell ⟨b, 13, none⟩ (.slice none 0 0)) = w5 at *
  clear e0 f0 e1 f1 e2 f2 e3 f3 e4 f4 e5 f5 e6 f6 e7 f7 e8 f8 e9 f9 e10 f10 e11 f11 e12 f12 e13 f13 lb hb4
  have HX5 : Hid (w5.heap[c]? = some (.cells #[(.slice x.o.a x.o.n x.o.c), (.int .u16 RE.t), (.int .u16 RE.cl), (.int .u32 RE.tt), (.slice x.d.p1.a x.d.p1.n x.d.p1.c), (.slice x.d.p2.a x.d.p2.n x.d.p2.c), (.slice x.d.p3.a x.d.p3.n x.d.p3.c), (.slice x.d.p4.a x.d.p4.n x.d.p4.c)] 37)) := (HO5.out c (by have := HC.out; have := box_lt HV3.out; omega)).trans HX4.out
  have HZ5 : Hid (w5.heap[b + 1 + 1]? = some (.cells #[.int .u16 0, .bool false, .int .i64 0, .bool false, .bool false, .bool false, .bool false, .bool false, .bool false, .int .i64 0, .slice none 0 0, .slice none 0 0, .slice none 0 0, .slice none 0 0] 54)) := (HO5.out (b + 1 + 1) (by omega)).trans ((HB4.out.block _ (box_lt HV3.out)).trans HV3.out)
  have HB6 : Hid (Below w.heap.size w w5) := (HV0.out.trans (HB4.out.mono HV0.out.size)).trans (HB5.out.mono (by have := HBB.out; omega))
  have HRA : Hid (∀ W : World, RRd W x RE) := fun W => by
    obtain ⟨cl, tt, e⟩ := HN2.out
    have h := HR4.out
    rw [HRE.out, e] at h ⊢
    exact rec_any h W
  have HM5 := Lib.hid hb5
  have k13 := box_cell hb5 13 _ rfl
  have lb := box_lt hb5
  have r0 := box_cell HX5.out 0 _ rfl; have r1 := box_cell HX5.out 1 _ rfl; have r2 := box_cell HX5.out 2 _ rfl; have r3 := box_cell HX5.out 3 _ rfl; have r4 := box_cell HX5.out 4 _ rfl; have r5 := box_cell HX5.out 5 _ rfl; have r6 := box_cell HX5.out 6 _ rfl; have r7 := box_cell HX5.out 7 _ rfl
  have lc := box_lt HX5.out
  have HCS : Hid (b + 1 + 1 < w5.heap.size) := box_lt HZ5.out
  clear HX4 HR4 HB4 HB5 HO5 hb5 HC
  have nb6 := newE_below w5 (.cells #[(.slice x.o.a x.o.n x.o.c), (.int .u16 RE.t), (.int .u16 RE.cl), (.int .u32 RE.tt), (.slice x.d.p1.a x.d.p1.n x.d.p1.c), (.slice x.d.p2.a x.d.p2.n x.d.p2.c), (.slice x.d.p3.a x.d.p3.n x.d.p3.c), (.slice x.d.p4.a x.d.p4.n x.d.p4.c)] 37)
  have HNB6 := Lib.hid nb6
  have HOW : Hid ((w5.alloc (.cells #[(.slice x.o.a x.o.n x.o.c), (.int .u16 RE.t), (.int .u16 RE.cl), (.int .u32 RE.tt), (.slice x.d.p1.a x.d.p1.n x.d.p1.c), (.slice x.d.p2.a x.d.p2.n x.d.p2.c), (.slice x.d.p3.a x.d.p3.n x.d.p3.c), (.slice x.d.p4.a x.d.p4.n x.d.p4.c)] 37)).ownsRow w5.heap.size 37 8 (.slice none 0 0) 0 []) := ⟨rfl, .inl ⟨rfl, rfl⟩⟩
  have HONE : Hid (∀ j u, (cellsR [(x, RE)])[j]? = some u → (w5.alloc (.cells #[(.slice x.o.a x.o.n x.o.c), (.int .u16 RE.t), (.int .u16 RE.cl), (.int .u32 RE.tt), (.slice x.d.p1.a x.d.p1.n x.d.p1.c), (.slice x.d.p2.a x.d.p2.n x.d.p2.c), (.slice x.d.p3.a x.d.p3.n x.d.p3.c), (.slice x.d.p4.a x.d.p4.n x.d.p4.c)] 37)).cell? ((⟨w5.heap.size, 0, none⟩ : Addr).add j) = some u) := one_rec w5 x RE
  have HSZ : Hid (w5.heap.size ≤ (w5.alloc (.cells #[(.slice x.o.a x.o.n x.o.c), (.int .u16 RE.t), (.int .u16 RE.cl), (.int .u32 RE.tt), (.slice x.d.p1.a x.d.p1.n x.d.p1.c), (.slice x.d.p2.a x.d.p2.n x.d.p2.c), (.slice x.d.p3.a x.d.p3.n x.d.p3.c), (.slice x.d.p4.a x.d.p4.n x.d.p4.c)] 37)).heap.size) := nb6.size
  have d13 : (w5.alloc (.cells #[(.slice x.o.a x.o.n x.o.c), (.int .u16 RE.t), (.int .u16 RE.cl), (.int .u32 RE.tt), (.slice x.d.p1.a x.d.p1.n x.d.p1.c), (.slice x.d.p2.a x.d.p2.n x.d.p2.c), (.slice x.d.p3.a x.d.p3.n x.d.p3.c), (.slice x.d.p4.a x.d.p4.n x.d.p4.c)] 37)).cell? ⟨b, 13, none⟩ = some (.slice none 0 0) := (nb6.cell (p := ⟨b, 13, none⟩) lb).trans k13
  clear nb6
  go_upto_region 8 with (at_builtin; refine wpList_append_lies _ rfl _ _ 52 rfl w5.heap.size 37 i37 _ 8 128 Try.underlying52 HI.out.1 HI.out.2.1 HI.out.2.2.1 HI.out.2.2.2 rfl (by omega) (.slice none 0 0) 0 [] rfl HOW.out ⟨w5.heap.size, 0, none⟩ 1 1 (cellsR [(x, RE)]) rfl rfl HONE.out (cellsR_oneE _) (by omega) (by simp only [maxLen]; omega) (by omega) HSZ.out _ rfl ?_; intro g cap w6 h5 h6 h7 h8; have H5 := Lib.hid h5; have H6 := Lib.hid h6; have hk6 : w6.heap[b]? = some (.cells #[.int .u16 0, .bool false, .int .i64 0, .bool false, .bool false, .bool false, .bool false, .bool false, .bool false, .int .i64 0, .slice none 0 0, .slice none 0 0, .slice none 0 0, .slice none 0 0] 54) := ((h6.block b (Nat.lt_of_lt_of_le lb HSZ.out) (by simp [Value.ownBlock])).trans ((HNB6.out.block b lb).trans HM5.out)); have HK6 := Lib.hid hk6; have g13 := box_cell hk6 13 _ rfl; have gf13 := box_frozenE hk6 13; have lb6 := box_lt hk6; have HG7 := Lib.hid h7; clear h5 h6 h7 h8 hk6)
  have hg5 : w5.heap.size ≤ g := by
    rcases HG7.out with e | e
    · simp [Value.ownBlock] at e
    · rw [e, World.size_alloc]; omega
  have h7b : (w6.setCell ⟨b, 13, none⟩ (.slice (some ⟨g, 0, none⟩) (0 + 1) cap)).heap[b]? = some (.cells #[.int .u16 0, .bool false, .int .i64 0, .bool false, .bool false, .bool false, .bool false, .bool false, .bool false, .int .i64 0, .slice none 0 0, .slice none 0 0, .slice none 0 0, .slice (some ⟨g, 0, none⟩) (0 + 1) cap] 54) := heap_set HK6.out 13 _
  have h7o : ∀ j, j ≠ b → (w6.setCell ⟨b, 13, none⟩ (.slice (some ⟨g, 0, none⟩) (0 + 1) cap)).heap[j]? = w6.heap[j]? := fun j hj => Below.heap_setCell _ _ _ _ hj
  have HB7 : Hid (Below w.heap.size w (w6.setCell ⟨b, 13, none⟩ (.slice (some ⟨g, 0, none⟩) (0 + 1) cap))) := by
    have h1 := (HB6.out.trans (HNB6.out.mono HB6.out.size))
    have h2 := h1.grown H6.out h1.size (fun k e => by simp [Value.ownBlock] at e)
    exact h2.setCell (p := ⟨b, 13, none⟩) (by have := HBB.out; simp only; omega) _
  have h7z : (w6.setCell ⟨b, 13, none⟩ (.slice (some ⟨g, 0, none⟩) (0 + 1) cap)).heap[b + 1 + 1]? = some (.cells #[.int .u16 0, .bool false, .int .i64 0, .bool false, .bool false, .bool false, .bool false, .bool false, .bool false, .int .i64 0, .slice none 0 0, .slice none 0 0, .slice none 0 0, .slice none 0 0] 54) := (h7o _ (by omega)).trans ((H6.out.block _ (Nat.lt_of_lt_of_le HCS.out HSZ.out) (by simp [Value.ownBlock])).trans ((HNB6.out.block _ HCS.out).trans HZ5.out))
  have HR7 : Hid ((w6.setCell ⟨b, 13, none⟩ (.slice (some ⟨g, 0, none⟩) (0 + 1) cap)).ownsRow w5.heap.size 37 8 (.slice (some ⟨g, 0, none⟩) (0 + 1) cap) (0 + 1) ([] ++ cellsR [(x, RE)])) := H5.out.kept (row := some b) ⟨rfl, rfl, rfl, by simp [World.setCell], fun k _ hk => Below.heap_setCell _ _ _ _ (fun e => hk (by simp [e]))⟩ (.inr (by simp [Value.ownBlock]; omega))
  have HCG : Hid (b + 1 + 1 < w5.heap.size ∧ w5.heap.size ≤ g) := ⟨HCS.out, hg5⟩
  clear h7o hg5 HG7 H5 H6 HK6 g13 gf13 lb6 k13 lb d13 r0 r1 r2 r3 r4 r5 r6 r7 lc HOW HONE HSZ HNB6 HX5 HZ5 HM5
  generalize w6.setCell ⟨b, 13, none⟩ (.slice (some ⟨g, 0, none⟩) (0 + 1) cap) = w7 at *
  have e0 := box_cell h7b 0 _ rfl; have e1 := box_cell h7b 1 _ rfl; have e2 := box_cell h7b 2 _ rfl; have e3 := box_cell h7b 3 _ rfl; have e4 := box_cell h7b 4 _ rfl; have e5 := box_cell h7b 5 _ rfl; have e6 := box_cell h7b 6 _ rfl; have e7 := box_cell h7b 7 _ rfl; have e8 := box_cell h7b 8 _ rfl; have e9 := box_cell h7b 9 _ rfl; have e10 := box_cell h7b 10 _ rfl; have e11 := box_cell h7b 11 _ rfl; have e12 := box_cell h7b 12 _ rfl; have e13 := box_cell h7b 13 _ rfl
  have d0 := box_cell h7z 0 _ rfl; have f0 := box_frozenE h7z 0; have d1 := box_cell h7z 1 _ rfl; have f1 := box_frozenE h7z 1; have d2 := box_cell h7z 2 _ rfl; have f2 := box_frozenE h7z 2; have d3 := box_cell h7z 3 _ rfl; have f3 := box_frozenE h7z 3; have d4 := box_cell h7z 4 _ rfl; have f4 := box_frozenE h7z 4; have d5 := box_cell h7z 5 _ rfl; have f5 := box_frozenE h7z 5; have d6 := box_cell h7z 6 _ rfl; have f6 := box_frozenE h7z 6; have d7 := box_cell h7z 7 _ rfl; have f7 := box_frozenE h7z 7; have d8 := box_cell h7z 8 _ rfl; have f8 := box_frozenE h7z 8; have d9 := box_cell h7z 9 _ rfl; have f9 := box_frozenE h7z 9; have d10 := box_cell h7z 10 _ rfl; have f10 := box_frozenE h7z 10; have d11 := box_cell h7z 11 _ rfl; have f11 := box_frozenE h7z 11; have d12 := box_cell h7z 12 _ rfl; have f12 := box_frozenE h7z 12; have d13 := box_cell h7z 13 _ rfl; have f13 := box_frozenE h7z 13
  have l1 := box_lt h7b
  have l2 := box_lt h7z
  have z8 : ((((((((((((((w7.setCell ⟨b + 1 + 1, 0, none⟩ (.int .u16 0)).setCell ⟨b + 1 + 1, 1, none⟩ (.bool false)).setCell ⟨b + 1 + 1, 2, none⟩ (.int .i64 0)).setCell ⟨b + 1 + 1, 3, none⟩ (.bool false)).setCell ⟨b + 1 + 1, 4, none⟩ (.bool false)).setCell ⟨b + 1 + 1, 5, none⟩ (.bool false)).setCell ⟨b + 1 + 1, 6, none⟩ (.bool false)).setCell ⟨b + 1 + 1, 7, none⟩ (.bool false)).setCell ⟨b + 1 + 1, 8, none⟩ (.bool false)).setCell ⟨b + 1 + 1, 9, none⟩ (.int .i64 0)).setCell ⟨b + 1 + 1, 10, none⟩ (.slice none 0 0)).setCell ⟨b + 1 + 1, 11, none⟩ (.slice none 0 0)).setCell ⟨b + 1 + 1, 12, none⟩ (.slice none 0 0)).setCell ⟨b + 1 + 1, 13, none⟩ (.slice (some ⟨g, 0, none⟩) (0 + 1) cap)).heap[b + 1 + 1]? = some (.cells #[.int .u16 0, .bool false, .int .i64 0, .bool false, .bool false, .bool false, .bool false, .bool false, .bool false, .int .i64 0, .slice none 0 0, .slice none 0 0, .slice none 0 0, .slice (some ⟨g, 0, none⟩) (0 + 1) cap] 54) := put14e h7z _ _ _ _ _ _ _ _ _ _ _ _ _ _
  have HB8 : Hid (Below (b + 1 + 1) w7 ((((((((((((((w7.setCell ⟨b + 1 + 1, 0, none⟩ (.int .u16 0)).setCell ⟨b + 1 + 1, 1, none⟩ (.bool false)).setCell ⟨b + 1 + 1, 2, none⟩ (.int .i64 0)).setCell ⟨b + 1 + 1, 3, none⟩ (.bool false)).setCell ⟨b + 1 + 1, 4, none⟩ (.bool false)).setCell ⟨b + 1 + 1, 5, none⟩ (.bool false)).setCell ⟨b + 1 + 1, 6, none⟩ (.bool false)).setCell ⟨b + 1 + 1, 7, none⟩ (.bool false)).setCell ⟨b + 1 + 1, 8, none⟩ (.bool false)).setCell ⟨b + 1 + 1, 9, none⟩ (.int .i64 0)).setCell ⟨b + 1 + 1, 10, none⟩ (.slice none 0 0)).setCell ⟨b + 1 + 1, 11, none⟩ (.slice none 0 0)).setCell ⟨b + 1 + 1, 12, none⟩ (.slice none 0 0)).setCell ⟨b + 1 + 1, 13, none⟩ (.slice (some ⟨g, 0, none⟩) (0 + 1) cap))) := put14e_below w7 (b + 1 + 1) _ _ _ _ _ _ _ _ _ _ _ _ _ _
  have HO8 : Hid (∀ j, j ≠ b + 1 + 1 → ((((((((((((((w7.setCell ⟨b + 1 + 1, 0, none⟩ (.int .u16 0)).setCell ⟨b + 1 + 1, 1, none⟩ (.bool false)).setCell ⟨b + 1 + 1, 2, none⟩ (.int .i64 0)).setCell ⟨b + 1 + 1, 3, none⟩ (.bool false)).setCell ⟨b + 1 + 1, 4, none⟩ (.bool false)).setCell ⟨b + 1 + 1, 5, none⟩ (.bool false)).setCell ⟨b + 1 + 1, 6, none⟩ (.bool false)).setCell ⟨b + 1 + 1, 7, none⟩ (.bool false)).setCell ⟨b + 1 + 1, 8, none⟩ (.bool false)).setCell ⟨b + 1 + 1, 9, none⟩ (.int .i64 0)).setCell ⟨b + 1 + 1, 10, none⟩ (.slice none 0 0)).setCell ⟨b + 1 + 1, 11, none⟩ (.slice none 0 0)).setCell ⟨b + 1 + 1, 12, none⟩ (.slice none 0 0)).setCell ⟨b + 1 + 1, 13, none⟩ (.slice (some ⟨g, 0, none⟩) (0 + 1) cap)).heap[j]? = w7.heap[j]?) := fun j hj => put14e_other w7 (b + 1 + 1) _ _ _ _ _ _ _ _ _ _ _ _ _ _ j hj
  go_wp2_with fail
  generalize ((((((((((((((w7.setCell ⟨b + 1 + 1, 0, none⟩ (.int .u16 0)).setCell ⟨b + 1 + 1, 1, none⟩ (.bool false)).setCell ⟨b + 1 + 1, 2, none⟩ (.int .i64 0)).setCell ⟨b + 1 + 1, 3, none⟩ (.bool false)).setCell ⟨b + 1 + 1, 4, none⟩ (.bool false)).setCell ⟨b + 1 + 1, 5, none⟩ (.bool false)).setCell ⟨b + 1 + 1, 6, none⟩ (.bool false)).setCell ⟨b + 1 + 1, 7, none⟩ (.bool false)).setCell ⟨b + 1 + 1, 8, none⟩ (.bool false)).setCell ⟨b + 1 + 1, 9, none⟩ (.int .i64 0)).setCell ⟨b + 1 + 1, 10, none⟩ (.slice none 0 0)).setCell ⟨b + 1 + 1, 11, none⟩ (.slice none 0 0)).setCell ⟨b + 1 + 1, 12, none⟩ (.slice none 0 0)).setCell ⟨b + 1 + 1, 13, none⟩ (.slice (some ⟨g, 0, none⟩) (0 + 1) cap)) = w8 at *
  clear e0 d0 f0 e1 d1 f1 e2 d2 f2 e3 d3 f3 e4 d4 f4 e5 d5 f5 e6 d6 f6 e7 d7 f7 e8 d8 f8 e9 d9 f9 e10 d10 f10 e11 d11 f11 e12 d12 f12 e13 d13 f13 h7b h7z
  have y0 := box_cell z8 0 _ rfl; have y1 := box_cell z8 1 _ rfl; have y2 := box_cell z8 2 _ rfl; have y3 := box_cell z8 3 _ rfl; have y4 := box_cell z8 4 _ rfl; have y5 := box_cell z8 5 _ rfl; have y6 := box_cell z8 6 _ rfl; have y7 := box_cell z8 7 _ rfl; have y8 := box_cell z8 8 _ rfl; have y9 := box_cell z8 9 _ rfl; have y10 := box_cell z8 10 _ rfl; have y11 := box_cell z8 11 _ rfl; have y12 := box_cell z8 12 _ rfl; have y13 := box_cell z8 13 _ rfl
  have hbb := HBB.out
  refine bodyPost_ret (v := .tuple #[.agg #[.int .u16 0, .bool false, .int .i64 0, .bool false, .bool false, .bool false, .bool false, .bool false, .bool false, .int .i64 0, .slice none 0 0, .slice none 0 0, .slice none 0 0, .slice (some ⟨g, 0, none⟩) (0 + 1) cap], .int .i64 0]) ?_ rfl ⟨⟨some ⟨g, 0, none⟩, 1, cap⟩, rfl, ?_, HB7.out.trans (HB8.out.mono (by omega))⟩
  · simp [results, Try.results23, go_sem, y0, y1, y2, y3, y4, y5, y6, y7, y8, y9, y10, y11, y12, y13]
  · have h9 : w8.ownsRow w5.heap.size 37 8 (.slice (some ⟨g, 0, none⟩) (0 + 1) cap) (0 + 1) ([] ++ cellsR [(x, RE)]) := HR7.out.kept (row := some (b + 1 + 1)) ⟨HB8.out.os, HB8.out.tape, HB8.out.output, HB8.out.size, fun k _ hk => HO8.out k (fun e => hk (by rw [e]))⟩ (.inr (by have := HCG.out; simp [Value.ownBlock]; omega))
    exact row_lsrd (ps := [(x, RE)]) h9 (fun p hp => by rw [List.mem_singleton.1 hp]; exact HRA.out _)
end Go.Proofs.Ytgeoadkcmbageaa
