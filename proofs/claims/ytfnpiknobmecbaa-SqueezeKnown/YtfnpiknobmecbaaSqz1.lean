/- Small things for SqueezeKnown's walk: five blocks in a row, a made list of many bytes. -/
import Derived.Test.YtfnpiknobmecbaaSqz0
namespace Go.Proofs.Ytfnpiknobmecbaa
open Go.ChangeShapes Go.WideShapes Go.ChangeAt Go.RowKit Go.Maps
set_option linter.unusedVariables false
set_option linter.unusedSimpArgs false
theorem five_below (w : World) (a b c d e : Obj) : Below w.heap.size w (((((w.alloc a).alloc b).alloc c).alloc d).alloc e) ∧
    (((((w.alloc a).alloc b).alloc c).alloc d).alloc e).heap[w.heap.size]? = some a ∧
    (((((w.alloc a).alloc b).alloc c).alloc d).alloc e).heap[w.heap.size + 1]? = some b ∧
    (((((w.alloc a).alloc b).alloc c).alloc d).alloc e).heap[w.heap.size + 1 + 1]? = some c ∧
    (((((w.alloc a).alloc b).alloc c).alloc d).alloc e).heap[w.heap.size + 1 + 1 + 1]? = some d ∧
    (((((w.alloc a).alloc b).alloc c).alloc d).alloc e).heap[w.heap.size + 1 + 1 + 1 + 1]? = some e := by
  have s1 : (w.alloc a).heap.size = w.heap.size + 1 := by simp
  have s2 : ((w.alloc a).alloc b).heap.size = w.heap.size + 1 + 1 := by simp
  have s3 : (((w.alloc a).alloc b).alloc c).heap.size = w.heap.size + 1 + 1 + 1 := by simp
  have s4 : ((((w.alloc a).alloc b).alloc c).alloc d).heap.size = w.heap.size + 1 + 1 + 1 + 1 := by simp
  have n1 := heap_alloc_new w a
  have n2 := heap_alloc_new (w.alloc a) b
  have n3 := heap_alloc_new ((w.alloc a).alloc b) c
  have n4 := heap_alloc_new (((w.alloc a).alloc b).alloc c) d
  have n5 := heap_alloc_new ((((w.alloc a).alloc b).alloc c).alloc d) e
  rw [s1] at n2
  rw [s2] at n3
  rw [s3] at n4
  rw [s4] at n5
  refine ⟨(((((Below.refl _ w).alloc (Nat.le_refl _) _).alloc (by omega) _).alloc (by omega) _).alloc (by omega) _).alloc (by omega) _, ?_, ?_, ?_, ?_, n5⟩
  · rw [Below.heap_alloc _ _ _ (by omega), Below.heap_alloc _ _ _ (by omega), Below.heap_alloc _ _ _ (by omega), Below.heap_alloc _ _ _ (by omega)]; exact n1
  · rw [Below.heap_alloc _ _ _ (by omega), Below.heap_alloc _ _ _ (by omega), Below.heap_alloc _ _ _ (by omega)]; exact n2
  · rw [Below.heap_alloc _ _ _ (by omega), Below.heap_alloc _ _ _ (by omega)]; exact n3
  · rw [Below.heap_alloc _ _ _ (by omega)]; exact n4
theorem wpList_make_big (w : World) {ops : Array Oper} {rest : List Oper} {o : Oper} {a : Act} {Q : Exit → Act → World → Prop} (hgd : o.guard = none) (s x : Operand)
    (ho : o.op = .makeSlice 27 s x) (n : Nat) (L : Int) (hs : a.eval s = .int .i64 L) (hx : a.eval x = .int .i64 L) (hL : L = (n : Int)) (hn : n ≤ 281474976710656)
    (h : ∀ W, Hid (∃ rp : List Int, rp.length = n ∧ Rd W (some ⟨w.heap.size, 0, none⟩) rp ∧ Below w.heap.size w W) → wpList Try.prog ops Q rest (a.put o.dst (.slice (some ⟨w.heap.size, 0, none⟩) n n)) W) : wpList Try.prog ops Q (o :: rest) a w :=
  wpList_make_blk w hgd s x ho n n L L hs hx hL hL (Nat.le_refl _) hn (h _ ⟨_, List.length_replicate, many_rd w n, new_below _ _⟩)
theorem bytes_big (C h : Nat) (a : Option Addr) (rp : List Int) (W : World) (hw : Wr C W h [] []) (hC : C ≤ W.heap.size) (hr : Rd W a rp) (hl : rp.length = 65535) (ha : a ≠ none) :
    Calls Try.prog 23 #[.pointer (some ⟨h, 0, none⟩), .slice a 65535 65535] W fun e w' => e = .returned (.int .i64 0) ∧ Hid (Wr C w' h rp [] ∧ Fr C W w') := by
  have := wbytes_any C h [] [] a 65535 65535 rp W hw hC (by rw [List.length_nil]; omega) hr hl (fun h => absurd h ha) (by omega)
  rw [if_neg (by rw [List.length_nil]; omega), if_neg (by rw [List.length_nil]; omega), List.nil_append] at this
  exact this
theorem bytes_more (C h : Nat) (rp : List Int) (w : World) (hw : Wr C w h rp []) (hC : C ≤ w.heap.size) (hl : rp.length = 65535) :
    Calls Try.prog 23 #[.pointer (some ⟨h, 0, none⟩), .slice (some ⟨w.heap.size, 0, none⟩) 1 1] (w.alloc (.cells #[.int .u8 1] 5)) fun e w' => e = .returned (.int .i64 3) ∧ Hid (Wr C w' h rp [] ∧ Fr C (w.alloc (.cells #[.int .u8 1] 5)) w') := by
  have := wbytes_any C h rp [] (some ⟨w.heap.size, 0, none⟩) 1 1 [1] _ (hw.below (new_below w (.cells #[.int .u8 1] 5))) (Nat.le_trans hC (new_below w _).size) (by omega) (one_rd w 1 (by omega)) rfl (by simp) (by omega)
  rw [if_pos (by omega), if_pos (by omega)] at this
  exact this
end Go.Proofs.Ytfnpiknobmecbaa
