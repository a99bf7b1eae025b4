/- What the reader's inner step does to a reader that cannot do it, or that is bad. -/
import Derived.Test.YtglkjiebcmmglaaRead
namespace Go.Proofs.Ytglkjiebcmmglaa
open Go.ChangeShapes Go.WideShapes Go.ChangeAt Go.RowKit
set_option linter.unusedVariables false
set_option linter.unusedSimpArgs false

theorem spoilt (g : Nat) (t : Value) (k : Int) (w : World) (hb : RBlk w g t k false) (cs : Array Value) :
    RBlk (((((w.setCell ⟨g, 0, none⟩ (.pointer (some ⟨g, 0, none⟩))).setCell ⟨g, 1, none⟩ (.slice none 0 0)).setCell ⟨g, 2, none⟩ (.int .i64 0)).setCell ⟨g, 3, none⟩ (.bool true)).alloc (.cells cs 83)) g (.slice none 0 0) 0 true ∧
    w.grownBy (((((w.setCell ⟨g, 0, none⟩ (.pointer (some ⟨g, 0, none⟩))).setCell ⟨g, 1, none⟩ (.slice none 0 0)).setCell ⟨g, 2, none⟩ (.int .i64 0)).setCell ⟨g, 3, none⟩ (.bool true)).alloc (.cells cs 83)) (some g) := by
  have h4 := heap_set (heap_set (heap_set (heap_set hb 0 (.pointer (some ⟨g, 0, none⟩))) 1 (.slice none 0 0)) 2 (.int .i64 0)) 3 (.bool true)
  have hsz : ((((w.setCell ⟨g, 0, none⟩ (.pointer (some ⟨g, 0, none⟩))).setCell ⟨g, 1, none⟩ (.slice none 0 0)).setCell ⟨g, 2, none⟩ (.int .i64 0)).setCell ⟨g, 3, none⟩ (.bool true)).heap.size = w.heap.size := by simp [World.setCell]
  have hoth : ∀ j, j ≠ g → ((((w.setCell ⟨g, 0, none⟩ (.pointer (some ⟨g, 0, none⟩))).setCell ⟨g, 1, none⟩ (.slice none 0 0)).setCell ⟨g, 2, none⟩ (.int .i64 0)).setCell ⟨g, 3, none⟩ (.bool true)).heap[j]? = w.heap[j]? := by
    intro j hj
    rw [Below.heap_setCell _ _ _ j hj, Below.heap_setCell _ _ _ j hj, Below.heap_setCell _ _ _ j hj, Below.heap_setCell _ _ _ j hj]
  have hlt := hb.lt
  have hgr : w.grownBy ((((w.setCell ⟨g, 0, none⟩ (.pointer (some ⟨g, 0, none⟩))).setCell ⟨g, 1, none⟩ (.slice none 0 0)).setCell ⟨g, 2, none⟩ (.int .i64 0)).setCell ⟨g, 3, none⟩ (.bool true)) (some g) := ⟨rfl, rfl, rfl, by rw [hsz]; exact Nat.le_refl _, fun j _ hne => hoth j (fun e => hne (by rw [e]))⟩
  revert h4 hsz hoth hgr
  generalize ((((w.setCell ⟨g, 0, none⟩ (.pointer (some ⟨g, 0, none⟩))).setCell ⟨g, 1, none⟩ (.slice none 0 0)).setCell ⟨g, 2, none⟩ (.int .i64 0)).setCell ⟨g, 3, none⟩ (.bool true)) = W
  intro h4 hsz hoth hgr
  refine ⟨?_, ?_⟩
  · have : (W.alloc (.cells cs 83)).heap[g]? = W.heap[g]? := Below.heap_alloc _ _ g (by omega)
    exact this.trans (h4.trans (by simp))
  · exact ⟨hgr.os, hgr.tape, hgr.output, by simp; omega, fun j hj hne => (Below.heap_alloc _ _ j (by omega)).trans (hgr.block j hj hne)⟩

set_option maxHeartbeats 1000000 in
theorem move_here_out (g : Nat) (a : Option Addr) (len cap : Nat) (k n : Int) (w : World) (hb : RBlk w g (.slice a len cap) k false) (hc : len ≤ cap) (hm : len ≤ 140737488355328) (hk : 0 ≤ k ∧ k ≤ len) (hn : n < 0 ∨ (len : Int) < k + n) :
    Calls Try.prog 52 #[.pointer (some ⟨g, 0, none⟩), .int .u8 0, .int .i64 n] w fun e w' => e = .returned (.agg #[.slice none 0 0, .int .i64 0, .int .i64 0, .bool true]) ∧
      Hid (RBlk w' g (.slice none 0 0) 0 true ∧ w.grownBy w' (some g)) := by
  have HB : Hid (RBlk w g (.slice a len cap) k false) := hb
  have hg := hb.lt
  have c0 := hb.c0
  have c1 := hb.c1
  have c2 := hb.c2
  have c3 := hb.c3
  have f0 := hb.fz 0
  have f1 := hb.fz 1
  have f2 := hb.fz 2
  have f3 := hb.fz 3
  have hne := neq_ptr_same ⟨g, 0, none⟩
  clear hb
  have HN : Hid (n < 0 ∨ (len : Int) < k + n) := hn
  clear hn
  go_enter Try.func52, Try.ntmps52
  go_wp2_with fail
  refine (piece_out a len cap k n _ hm (by have := HN.out; omega)).mono ?_
  rintro e w' ⟨rfl, rfl⟩
  go_wp2_with fail
  have hM := spoilt g _ _ w HB.out #[.slice none 0 0, .int .i64 0, .int .i64 0, .bool true]
  exact bodyPost_ret (v := .agg #[.slice none 0 0, .int .i64 0, .int .i64 0, .bool true]) (by simp [results, Try.results52, go_sem]) rfl ⟨rfl, hM⟩

set_option maxHeartbeats 1000000 in
theorem move_front_out (g : Nat) (a : Option Addr) (len cap : Nat) (k n : Int) (w : World) (hb : RBlk w g (.slice a len cap) k false) (hc : len ≤ cap) (hm : len ≤ 140737488355328) (hk : 0 ≤ k ∧ k ≤ len) (hn : n < 0 ∨ (len : Int) < n) :
    Calls Try.prog 52 #[.pointer (some ⟨g, 0, none⟩), .int .u8 1, .int .i64 n] w fun e w' => e = .returned (.agg #[.slice none 0 0, .int .i64 0, .int .i64 0, .bool true]) ∧
      Hid (RBlk w' g (.slice none 0 0) 0 true ∧ w.grownBy w' (some g)) := by
  have HB : Hid (RBlk w g (.slice a len cap) k false) := hb
  have hg := hb.lt
  have c0 := hb.c0
  have c1 := hb.c1
  have c2 := hb.c2
  have c3 := hb.c3
  have f0 := hb.fz 0
  have f1 := hb.fz 1
  have f2 := hb.fz 2
  have f3 := hb.fz 3
  have hne := neq_ptr_same ⟨g, 0, none⟩
  clear hb
  have HN : Hid (n < 0 ∨ (len : Int) < n) := hn
  clear hn
  go_enter Try.func52, Try.ntmps52
  go_wp2_with fail
  refine (piece_out a len cap 0 n _ hm (by have := HN.out; omega)).mono ?_
  rintro e w' ⟨rfl, rfl⟩
  go_wp2_with fail
  have hM := spoilt g _ _ w HB.out #[.slice none 0 0, .int .i64 0, .int .i64 0, .bool true]
  exact bodyPost_ret (v := .agg #[.slice none 0 0, .int .i64 0, .int .i64 0, .bool true]) (by simp [results, Try.results52, go_sem]) rfl ⟨rfl, hM⟩


set_option maxHeartbeats 1000000 in
theorem move_isbad (g : Nat) (f n : Int) (t : Value) (k : Int) (w : World) (hb : RBlk w g t k true) :
    Calls Try.prog 52 #[.pointer (some ⟨g, 0, none⟩), .int .u8 f, .int .i64 n] w fun e w' => e = .returned (.agg #[.slice none 0 0, .int .i64 0, .int .i64 0, .bool true]) ∧ Below w.heap.size w w' := by
  have hg := hb.lt
  have c0 := hb.c0
  have c3 := hb.c3
  have hne := neq_ptr_same ⟨g, 0, none⟩
  clear hb
  go_enter Try.func52, Try.ntmps52
  go_wp2
  exact bodyPost_ret (v := .agg #[.slice none 0 0, .int .i64 0, .int .i64 0, .bool true]) (by simp [results, Try.results52, go_sem]) rfl ⟨rfl, ((Below.refl _ _).alloc (Nat.le_refl _) _)⟩
end Go.Proofs.Ytglkjiebcmmglaa
