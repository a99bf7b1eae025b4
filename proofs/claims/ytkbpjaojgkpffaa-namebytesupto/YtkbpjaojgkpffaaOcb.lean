/- The reader of octets, for names. -/
import Derived.Test.YtkbpjaojgkpffaaOca
namespace Go.Proofs.Ytkbpjaojgkpffaa
open Go.ChangeShapes Go.WideShapes Go.ChangeAt Go.RowKit
set_option linter.unusedVariables false
set_option linter.unusedSimpArgs false
attribute [local go_sem] view0 view1 view2 view3 slice_is_nil


/-- A reader's block: itself, its bytes, its place, whether it is bad. -/
def RBlk (w : World) (g : Nat) (t : Value) (k : Int) (bad : Bool) : Prop :=
  w.heap[g]? = some (.cells #[.pointer (some ⟨g, 0, none⟩), t, .int .i64 k, .bool bad] 113 (0, 0))
theorem RBlk.lt {w : World} {g : Nat} {t : Value} {k : Int} {bad : Bool} (h : RBlk w g t k bad) : g < w.heap.size := (Array.getElem?_eq_some_iff.1 h).1
theorem RBlk.c0 {w : World} {g : Nat} {t : Value} {k : Int} {bad : Bool} (h : RBlk w g t k bad) : w.cell? ⟨g, 0, none⟩ = some (.pointer (some ⟨g, 0, none⟩)) := by
  have h' : w.heap[g]? = _ := h
  simp [World.cell?, h']
theorem RBlk.c1 {w : World} {g : Nat} {t : Value} {k : Int} {bad : Bool} (h : RBlk w g t k bad) : w.cell? ⟨g, 1, none⟩ = some t := by
  have h' : w.heap[g]? = _ := h
  simp [World.cell?, h']
theorem RBlk.c2 {w : World} {g : Nat} {t : Value} {k : Int} {bad : Bool} (h : RBlk w g t k bad) : w.cell? ⟨g, 2, none⟩ = some (.int .i64 k) := by
  have h' : w.heap[g]? = _ := h
  simp [World.cell?, h']
theorem RBlk.c3 {w : World} {g : Nat} {t : Value} {k : Int} {bad : Bool} (h : RBlk w g t k bad) : w.cell? ⟨g, 3, none⟩ = some (.bool bad) := by
  have h' : w.heap[g]? = _ := h
  simp [World.cell?, h']
theorem RBlk.fz {w : World} {g : Nat} {t : Value} {k : Int} {bad : Bool} (h : RBlk w g t k bad) (i : Nat) : w.frozen? ⟨g, i, none⟩ = false := by
  have h' : w.heap[g]? = _ := h
  simp [World.frozen?, h']
theorem RBlk.same {w w' : World} {g : Nat} {t : Value} {k : Int} {bad : Bool} (h : RBlk w g t k bad) (hb : w'.heap[g]? = w.heap[g]?) : RBlk w' g t k bad := hb.trans h
theorem RBlk.at {w : World} {g : Nat} {t : Value} {k : Int} {bad : Bool} (h : RBlk w g t k bad) (k' : Int) : RBlk (w.setCell ⟨g, 2, none⟩ (.int .i64 k')) g t k' bad := heap_set h 2 _
set_option maxRecDepth 100000 in
set_option maxHeartbeats 400000 in
theorem piece_in (a : Option Addr) (len cap at_ n : Nat) (zs : List Int) (w : World) (hr : Rd w a zs) (hl : zs.length = len) (hc : len ≤ cap) (hm : len ≤ 140737488355328) (hn : at_ + n ≤ len) :
    Calls Try.prog 100 #[.slice a len cap, .int .i64 at_, .int .i64 n] w fun e w' => (∃ a', e = .returned (.tuple #[.slice a' n (cap - at_), .bool true]) ∧ Hid ((∀ W, Rd W a zs → Rd W a' ((zs.drop at_).take n)) ∧ (a' = none → a = none))) ∧ w' = w := by
  have HL : Hid (zs.length = len) := hl
  have HR : Hid (Rd w a zs) := hr
  clear hl hr
  have h1 : ¬ (at_ : Int) < 0 := by omega
  have h2 : (at_ : Int) ≤ (len : Int) := by omega
  have h3 : ¬ (n : Int) < 0 := by omega
  have h4 : (n : Int) ≤ (len : Int) - (at_ : Int) := by omega
  go_enter Try.func100, Try.ntmps100
  go_wp2
  · go_ret2
    exact ⟨⟨_, rfl, fun W hW => hW.cut at_ n (by rw [HL.out]; exact hn) (fun h b o e => absurd h (by omega)), fun e => e⟩, rfl⟩
  · go_ret2
    exact ⟨⟨_, rfl, fun W hW => hW.cut at_ n (by rw [HL.out]; exact hn) (fun h b o e => by subst e; simp [Addr.add]), fun e => Option.map_eq_none_iff.1 e⟩, rfl⟩
set_option maxRecDepth 100000 in
set_option maxHeartbeats 400000 in
theorem piece_out (a : Option Addr) (len cap : Nat) (at_ n : Int) (w : World) (hm : len ≤ 140737488355328)
    (h : at_ < 0 ∨ (0 ≤ at_ ∧ (len : Int) < at_) ∨ (0 ≤ at_ ∧ at_ ≤ (len : Int) ∧ n < 0) ∨ (0 ≤ at_ ∧ at_ ≤ (len : Int) ∧ 0 ≤ n ∧ (len : Int) - at_ < n)) :
    Calls Try.prog 100 #[.slice a len cap, .int .i64 at_, .int .i64 n] w fun e w' => e = .returned (.tuple #[.slice none 0 0, .bool false]) ∧ w' = w := by
  rcases h with h | ⟨h0, h⟩ | ⟨h0, h1, h⟩ | ⟨h0, h1, h2, h⟩
  · go_enter Try.func100, Try.ntmps100
    go_wp2
    go_ret2
    exact ⟨rfl, rfl⟩
  · go_enter Try.func100, Try.ntmps100
    go_wp2
    go_ret2
    exact ⟨rfl, rfl⟩
  · go_enter Try.func100, Try.ntmps100
    go_wp2
    go_ret2
    exact ⟨rfl, rfl⟩
  · go_enter Try.func100, Try.ntmps100
    go_wp2
    go_ret2
    exact ⟨rfl, rfl⟩
/-- The text lies elsewhere than the reader. -/
def Off (a : Option Addr) (g : Nat) : Prop := ∀ b o, a = some ⟨b, o, none⟩ → b ≠ g
theorem Rd.grown {w w' : World} {a : Option Addr} {zs : List Int} {g : Nat} (h : Rd w a zs) (hg : w.grownBy w' (some g)) (ho : Off a g) : Rd w' a zs := by
  refine ⟨?_, h.2⟩
  rcases h.1 with h1 | ⟨b, o, rfl, h1, h2⟩
  · exact .inl h1
  · refine .inr ⟨b, o, rfl, Nat.lt_of_lt_of_le h1 hg.size, fun i hi => ?_⟩
    rw [← h2 i hi]
    exact World.cell?_of_block (w := w) (a := ⟨b, o + i, none⟩) (hg.block b h1 (fun e => ho b o rfl (Option.some.inj e)))
/-- The world in which a good reader has moved: its place is set, a new block is there for the answer. -/
theorem moved (g : Nat) (t : Value) (k k' : Int) (w : World) (hb : RBlk w g t k false) (cs : Array Value) :
    RBlk ((w.setCell ⟨g, 2, none⟩ (.int .i64 k')).alloc (.cells cs 117)) g t k' false ∧ ((w.setCell ⟨g, 2, none⟩ (.int .i64 k')).alloc (.cells cs 117)).heap[w.heap.size]? = some (.cells cs 117 (0, 0)) ∧
    w.grownBy ((w.setCell ⟨g, 2, none⟩ (.int .i64 k')).alloc (.cells cs 117)) (some g) ∧ ((w.setCell ⟨g, 2, none⟩ (.int .i64 k')).alloc (.cells cs 117)).heap.size = w.heap.size + 1 := by
  have hsz : (w.setCell ⟨g, 2, none⟩ (.int .i64 k')).heap.size = w.heap.size := by simp [World.setCell]
  have hold : ∀ j, j < w.heap.size → ((w.setCell ⟨g, 2, none⟩ (.int .i64 k')).alloc (.cells cs 117)).heap[j]? = (w.setCell ⟨g, 2, none⟩ (.int .i64 k')).heap[j]? := fun j hj => Below.heap_alloc _ _ j (by rw [hsz]; exact hj)
  refine ⟨(hb.at k').same (hold g hb.lt), ?_, ⟨rfl, rfl, rfl, by simp [hsz], fun j hj hne => ?_⟩, by simp [hsz]⟩
  · have := heap_alloc_new (w.setCell ⟨g, 2, none⟩ (.int .i64 k')) (.cells cs 117)
    rw [hsz] at this
    exact this
  · rw [hold j hj]
    exact Below.heap_setCell _ _ _ j (fun e => hne (by rw [e]))
theorem cells4 {w : World} {s : Nat} {a b c d : Value} {t : TypeId} (h : w.heap[s]? = some (.cells #[a, b, c, d] t (0, 0))) :
    w.cell? ⟨s, 0, none⟩ = some a ∧ w.cell? ⟨s, 1, none⟩ = some b ∧ w.cell? ⟨s, 2, none⟩ = some c ∧ w.cell? ⟨s, 3, none⟩ = some d ∧ ∀ i, w.frozen? ⟨s, i, none⟩ = false := by
  simp [World.cell?, World.frozen?, h]
/-- Behind what is written into the new block nothing else has turned. -/
theorem moved_end {w W1 : World} {g s : Nat} {t : Value} {k' : Int} {bad : Bool} (h : RBlk W1 g t k' bad ∧ w.grownBy W1 (some g)) (hs : w.heap.size = s) (hg : g < s) (x0 x1 x2 x3 : Value) :
    RBlk ((((W1.setCell ⟨s, 0, none⟩ x0).setCell ⟨s, 1, none⟩ x1).setCell ⟨s, 2, none⟩ x2).setCell ⟨s, 3, none⟩ x3) g t k' bad ∧
    w.grownBy ((((W1.setCell ⟨s, 0, none⟩ x0).setCell ⟨s, 1, none⟩ x1).setCell ⟨s, 2, none⟩ x2).setCell ⟨s, 3, none⟩ x3) (some g) := by
  have hold : ∀ j, j < s → ((((W1.setCell ⟨s, 0, none⟩ x0).setCell ⟨s, 1, none⟩ x1).setCell ⟨s, 2, none⟩ x2).setCell ⟨s, 3, none⟩ x3).heap[j]? = W1.heap[j]? := by
    intro j hj
    have hne : j ≠ s := by omega
    rw [Below.heap_setCell _ _ _ j hne, Below.heap_setCell _ _ _ j hne, Below.heap_setCell _ _ _ j hne, Below.heap_setCell _ _ _ j hne]
  refine ⟨h.1.same (hold g hg), h.2.os, h.2.tape, h.2.output, ?_, fun j hj hne => (hold j (by omega)).trans (h.2.block j hj hne)⟩
  have := h.2.size
  simpa [World.setCell] using this
set_option maxRecDepth 100000 in
set_option maxHeartbeats 1000000 in
theorem move_here (g : Nat) (a : Option Addr) (len cap k n : Nat) (zs : List Int) (w : World) (hb : RBlk w g (.slice a len cap) k false) (hr : Rd w a zs) (hl : zs.length = len) (hc : len ≤ cap) (hm : len ≤ 140737488355328) (hn : k + n ≤ len) (ho : Off a g) :
    Calls Try.prog 94 #[.pointer (some ⟨g, 0, none⟩), .int .u8 0, .int .i64 n] w fun e w' => ∃ ov, e = .returned (.agg #[.slice ov n (cap - k), .int .i64 ((k : Int) + (n : Int)), .int .i64 ((len : Int) - ((k : Int) + (n : Int))), .bool false]) ∧
      Hid (Rd w' ov ((zs.drop k).take n) ∧ (ov = none → a = none) ∧ RBlk w' g (.slice a len cap) ((k : Int) + (n : Int)) false ∧ w.grownBy w' (some g)) := by
  have HB : Hid (RBlk w g (.slice a len cap) k false) := hb
  have HR : Hid (Rd w a zs) := hr
  have HL : Hid (zs.length = len) := hl
  have HO : Hid (Off a g) := ho
  have hg := hb.lt
  have c0 := hb.c0
  have c1 := hb.c1
  have c2 := hb.c2
  have c3 := hb.c3
  have f2 := hb.fz 2
  have hne := neq_ptr_same ⟨g, 0, none⟩
  clear hb hr hl ho
  go_enter Try.func94, Try.ntmps94
  go_wp2_with fail
  refine (piece_in a len cap k n zs _ (HR.out.below ((Below.refl _ _).alloc (Nat.le_refl _) _)) HL.out hc hm hn).mono ?_
  rintro e w' ⟨⟨ov, rfl, H1⟩, rfl⟩
  go_wp2_with fail
  have hkn : (k : Int) + (n : Int) ≤ (len : Int) := by omega
  have hw : IntKind.i64.wrap ((len : Int) - ((k : Int) + (n : Int))) = (len : Int) - ((k : Int) + (n : Int)) := by rw [IntKind.wrap_i64]; omega
  have hgw : ¬ w.heap.size = g := by omega
  obtain ⟨m1, m2, m3, m4⟩ := moved g (.slice a len cap) k ((k : Int) + (n : Int)) w HB.out #[.slice none 0 0, .int .i64 0, .int .i64 0, .bool false]
  obtain ⟨v0, v1, v2, v3, v4⟩ := cells4 m2
  have d1 := m1.c1
  have d2 := m1.c2
  have HM : Hid (RBlk ((w.setCell ⟨g, 2, none⟩ (.int .i64 ((k : Int) + (n : Int)))).alloc (.cells #[.slice none 0 0, .int .i64 0, .int .i64 0, .bool false] 117)) g (.slice a len cap) ((k : Int) + (n : Int)) false ∧ w.grownBy ((w.setCell ⟨g, 2, none⟩ (.int .i64 ((k : Int) + (n : Int)))).alloc (.cells #[.slice none 0 0, .int .i64 0, .int .i64 0, .bool false] 117)) (some g)) := ⟨m1, m3⟩
  clear m1 m2 m3 c0 c1 c2 c3 f2 hne
  generalize (w.setCell ⟨g, 2, none⟩ (.int .i64 ((k : Int) + (n : Int)))).alloc (.cells #[.slice none 0 0, .int .i64 0, .int .i64 0, .bool false] 117) = W1 at *
  generalize hs : w.heap.size = s at *
  have HS : Hid (w.heap.size = s) := hs
  clear hs
  have v4a := v4 0
  have v4b := v4 1
  have v4c := v4 2
  have v4d := v4 3
  clear v4
  go_region_held3 (fun W => W.cell? ⟨g, 1, none⟩ = some (.slice a len cap) ∧ W.cell? ⟨g, 2, none⟩ = some (.int .i64 ((k : Int) + (n : Int)))) (go_keep) (fail)
  go_wp2
  obtain ⟨h1, h2⟩ := H1.out
  have hM := moved_end HM.out HS.out (by omega) (.slice ov n (cap - k)) (.int .i64 ((k : Int) + (n : Int))) (.int .i64 ((len : Int) - ((k : Int) + (n : Int)))) (.bool false)
  have hR := h1 _ (HR.out.grown hM.2 HO.out)
  clear h1
  refine bodyPost_ret (v := .agg #[.slice ov n (cap - k), .int .i64 ((k : Int) + (n : Int)), .int .i64 ((len : Int) - ((k : Int) + (n : Int))), .bool false]) ?_ rfl ⟨ov, rfl, hR, h2, hM.1, hM.2.os, hM.2.tape, hM.2.output, hM.2.size, hM.2.block⟩
  clear hM hR HM H1 HR HO
  simp [results, Try.results52, go_sem, *]

theorem spoilt (g : Nat) (t : Value) (k : Int) (w : World) (hb : RBlk w g t k false) (cs : Array Value) :
    RBlk (((((w.setCell ⟨g, 0, none⟩ (.pointer (some ⟨g, 0, none⟩))).setCell ⟨g, 1, none⟩ (.slice none 0 0)).setCell ⟨g, 2, none⟩ (.int .i64 0)).setCell ⟨g, 3, none⟩ (.bool true)).alloc (.cells cs 117)) g (.slice none 0 0) 0 true ∧
    w.grownBy (((((w.setCell ⟨g, 0, none⟩ (.pointer (some ⟨g, 0, none⟩))).setCell ⟨g, 1, none⟩ (.slice none 0 0)).setCell ⟨g, 2, none⟩ (.int .i64 0)).setCell ⟨g, 3, none⟩ (.bool true)).alloc (.cells cs 117)) (some g) := by
  have h4 := heap_set (heap_set (heap_set (heap_set hb 0 (.pointer (some ⟨g, 0, none⟩))) 1 (.slice none 0 0)) 2 (.int .i64 0)) 3 (.bool true)
  have hsz : ((((w.setCell ⟨g, 0, none⟩ (.pointer (some ⟨g, 0, none⟩))).setCell ⟨g, 1, none⟩ (.slice none 0 0)).setCell ⟨g, 2, none⟩ (.int .i64 0)).setCell ⟨g, 3, none⟩ (.bool true)).heap.size = w.heap.size := by simp [World.setCell]
  have hoth : ∀ j, j ≠ g → ((((w.setCell ⟨g, 0, none⟩ (.pointer (some ⟨g, 0, none⟩))).setCell ⟨g, 1, none⟩ (.slice none 0 0)).setCell ⟨g, 2, none⟩ (.int .i64 0)).setCell ⟨g, 3, none⟩ (.bool true)).heap[j]? = w.heap[j]? := by
    intro j hj
    rw [Below.heap_setCell _ _ _ j hj, Below.heap_setCell _ _ _ j hj, Below.heap_setCell _ _ _ j hj, Below.heap_setCell _ _ _ j hj]
  have hlt := hb.lt
  have hgr : w.grownBy ((((w.setCell ⟨g, 0, none⟩ (.pointer (some ⟨g, 0, none⟩))).setCell ⟨g, 1, none⟩ (.slice none 0 0)).setCell ⟨g, 2, none⟩ (.int .i64 0)).setCell ⟨g, 3, none⟩ (.bool true)) (some g) := ⟨rfl, rfl, rfl, by rw [hsz]; exact Nat.le_refl _, fun j _ hne => hoth j (fun e => hne (by rw [e]))⟩
  revert h4 hsz hoth hgr
  generalize ((((w.setCell ⟨g, 0, none⟩ (.pointer (some ⟨g, 0, none⟩))).setCell ⟨g, 1, none⟩ (.slice none 0 0)).setCell ⟨g, 2, none⟩ (.int .i64 0)).setCell ⟨g, 3, none⟩ (.bool true)) = W
  intro h4 hsz hoth hgr
  refine ⟨?_, ?_⟩
  · have : (W.alloc (.cells cs 117)).heap[g]? = W.heap[g]? := Below.heap_alloc _ _ g (by omega)
    exact this.trans (h4.trans (by simp))
  · exact ⟨hgr.os, hgr.tape, hgr.output, by simp; omega, fun j hj hne => (Below.heap_alloc _ _ j (by omega)).trans (hgr.block j hj hne)⟩
set_option maxRecDepth 100000 in
set_option maxHeartbeats 1000000 in
theorem move_here_out (g : Nat) (a : Option Addr) (len cap : Nat) (k n : Int) (w : World) (hb : RBlk w g (.slice a len cap) k false) (hc : len ≤ cap) (hm : len ≤ 140737488355328) (hk : 0 ≤ k ∧ k ≤ len) (hn : n < 0 ∨ (len : Int) < k + n) :
    Calls Try.prog 94 #[.pointer (some ⟨g, 0, none⟩), .int .u8 0, .int .i64 n] w fun e w' => e = .returned (.agg #[.slice none 0 0, .int .i64 0, .int .i64 0, .bool true]) ∧
      Hid (RBlk w' g (.slice none 0 0) 0 true ∧ w.grownBy w' (some g)) := by
  have HB : Hid (RBlk w g (.slice a len cap) k false) := hb
  have hg := hb.lt
  have c0 := hb.c0
  have c1 := hb.c1
  have c2 := hb.c2
  have c3 := hb.c3
  have f0 := hb.fz 0
  have f1 := hb.fz 1
  have f2 := hb.fz 2
  have f3 := hb.fz 3
  have hne := neq_ptr_same ⟨g, 0, none⟩
  clear hb
  have HN : Hid (n < 0 ∨ (len : Int) < k + n) := hn
  clear hn
  go_enter Try.func94, Try.ntmps94
  go_wp2_with fail
  refine (piece_out a len cap k n _ hm (by have := HN.out; omega)).mono ?_
  rintro e w' ⟨rfl, rfl⟩
  go_wp2_with fail
  have hM := spoilt g _ _ w HB.out #[.slice none 0 0, .int .i64 0, .int .i64 0, .bool true]
  exact bodyPost_ret (v := .agg #[.slice none 0 0, .int .i64 0, .int .i64 0, .bool true]) (by simp [results, Try.results52, go_sem]) rfl ⟨rfl, hM⟩
set_option maxRecDepth 100000 in
set_option maxHeartbeats 1000000 in
theorem move_isbad (g : Nat) (f n : Int) (t : Value) (k : Int) (w : World) (hb : RBlk w g t k true) :
    Calls Try.prog 94 #[.pointer (some ⟨g, 0, none⟩), .int .u8 f, .int .i64 n] w fun e w' => e = .returned (.agg #[.slice none 0 0, .int .i64 0, .int .i64 0, .bool true]) ∧ Below w.heap.size w w' := by
  have hg := hb.lt
  have c0 := hb.c0
  have c3 := hb.c3
  have hne := neq_ptr_same ⟨g, 0, none⟩
  clear hb
  go_enter Try.func94, Try.ntmps94
  go_wp2
  exact bodyPost_ret (v := .agg #[.slice none 0 0, .int .i64 0, .int .i64 0, .bool true]) (by simp [results, Try.results52, go_sem]) rfl ⟨rfl, ((Below.refl _ _).alloc (Nat.le_refl _) _)⟩
end Go.Proofs.Ytkbpjaojgkpffaa
