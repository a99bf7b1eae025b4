/- Texts laid together, in parts: Eg Vw Jz Eh Ei Ej. -/
import Derived.Test.YtoppdmlmhigogaaDoorWtc
import Derived.Deep.RegionHeld3
import Derived.Deep.CutBlock
import Derived.Lib.Hide
namespace Go.Proofs.YtoppdmlmhigogaaDoor
open Go.ChangeShapes Go.WideShapes Go.ChangeAt Go.RowKit
set_option linter.unusedVariables false
set_option linter.unusedSimpArgs false
theorem put8 {w : World} {g : Nat} {v0 v1 v2 v3 v4 v5 v6 v7 : Value} {t : TypeId} (h : w.heap[g]? = some (.cells #[v0, v1, v2, v3, v4, v5, v6, v7] t)) (x0 x1 x2 x3 x4 x5 x6 x7 : Value) : ((((((((w.setCell ⟨g, 0, none⟩ x0).setCell ⟨g, 1, none⟩ x1).setCell ⟨g, 2, none⟩ x2).setCell ⟨g, 3, none⟩ x3).setCell ⟨g, 4, none⟩ x4).setCell ⟨g, 5, none⟩ x5).setCell ⟨g, 6, none⟩ x6).setCell ⟨g, 7, none⟩ x7).heap[g]? = some (.cells #[x0, x1, x2, x3, x4, x5, x6, x7] t) := by
  have h0 : (w.setCell ⟨g, 0, none⟩ x0).heap[g]? = some (.cells #[x0, v1, v2, v3, v4, v5, v6, v7] t) := heap_set h 0 x0
  have h1 : ((w.setCell ⟨g, 0, none⟩ x0).setCell ⟨g, 1, none⟩ x1).heap[g]? = some (.cells #[x0, x1, v2, v3, v4, v5, v6, v7] t) := heap_set h0 1 x1
  have h2 : (((w.setCell ⟨g, 0, none⟩ x0).setCell ⟨g, 1, none⟩ x1).setCell ⟨g, 2, none⟩ x2).heap[g]? = some (.cells #[x0, x1, x2, v3, v4, v5, v6, v7] t) := heap_set h1 2 x2
  have h3 : ((((w.setCell ⟨g, 0, none⟩ x0).setCell ⟨g, 1, none⟩ x1).setCell ⟨g, 2, none⟩ x2).setCell ⟨g, 3, none⟩ x3).heap[g]? = some (.cells #[x0, x1, x2, x3, v4, v5, v6, v7] t) := heap_set h2 3 x3
  have h4 : (((((w.setCell ⟨g, 0, none⟩ x0).setCell ⟨g, 1, none⟩ x1).setCell ⟨g, 2, none⟩ x2).setCell ⟨g, 3, none⟩ x3).setCell ⟨g, 4, none⟩ x4).heap[g]? = some (.cells #[x0, x1, x2, x3, x4, v5, v6, v7] t) := heap_set h3 4 x4
  have h5 : ((((((w.setCell ⟨g, 0, none⟩ x0).setCell ⟨g, 1, none⟩ x1).setCell ⟨g, 2, none⟩ x2).setCell ⟨g, 3, none⟩ x3).setCell ⟨g, 4, none⟩ x4).setCell ⟨g, 5, none⟩ x5).heap[g]? = some (.cells #[x0, x1, x2, x3, x4, x5, v6, v7] t) := heap_set h4 5 x5
  have h6 : (((((((w.setCell ⟨g, 0, none⟩ x0).setCell ⟨g, 1, none⟩ x1).setCell ⟨g, 2, none⟩ x2).setCell ⟨g, 3, none⟩ x3).setCell ⟨g, 4, none⟩ x4).setCell ⟨g, 5, none⟩ x5).setCell ⟨g, 6, none⟩ x6).heap[g]? = some (.cells #[x0, x1, x2, x3, x4, x5, x6, v7] t) := heap_set h5 6 x6
  exact heap_set h6 7 x7
theorem put8_other (w : World) (g : Nat) (x0 x1 x2 x3 x4 x5 x6 x7 : Value) (j : Nat) (h : j ≠ g) : ((((((((w.setCell ⟨g, 0, none⟩ x0).setCell ⟨g, 1, none⟩ x1).setCell ⟨g, 2, none⟩ x2).setCell ⟨g, 3, none⟩ x3).setCell ⟨g, 4, none⟩ x4).setCell ⟨g, 5, none⟩ x5).setCell ⟨g, 6, none⟩ x6).setCell ⟨g, 7, none⟩ x7).heap[j]? = w.heap[j]? := by
  rw [Below.heap_setCell _ _ _ _ h, Below.heap_setCell _ _ _ _ h, Below.heap_setCell _ _ _ _ h, Below.heap_setCell _ _ _ _ h, Below.heap_setCell _ _ _ _ h, Below.heap_setCell _ _ _ _ h, Below.heap_setCell _ _ _ _ h, Below.heap_setCell _ _ _ _ h]
theorem put8_size (w : World) (g : Nat) (x0 x1 x2 x3 x4 x5 x6 x7 : Value) : ((((((((w.setCell ⟨g, 0, none⟩ x0).setCell ⟨g, 1, none⟩ x1).setCell ⟨g, 2, none⟩ x2).setCell ⟨g, 3, none⟩ x3).setCell ⟨g, 4, none⟩ x4).setCell ⟨g, 5, none⟩ x5).setCell ⟨g, 6, none⟩ x6).setCell ⟨g, 7, none⟩ x7).heap.size = w.heap.size := by simp [World.setCell]
theorem sc_os (w : World) (p : Addr) (v : Value) : (w.setCell p v).os = w.os := rfl
theorem sc_tape (w : World) (p : Addr) (v : Value) : (w.setCell p v).tape = w.tape := rfl
theorem sc_out (w : World) (p : Addr) (v : Value) : (w.setCell p v).output = w.output := rfl
theorem put8_os (w : World) (g : Nat) (x0 x1 x2 x3 x4 x5 x6 x7 : Value) : ((((((((w.setCell ⟨g, 0, none⟩ x0).setCell ⟨g, 1, none⟩ x1).setCell ⟨g, 2, none⟩ x2).setCell ⟨g, 3, none⟩ x3).setCell ⟨g, 4, none⟩ x4).setCell ⟨g, 5, none⟩ x5).setCell ⟨g, 6, none⟩ x6).setCell ⟨g, 7, none⟩ x7).os = w.os ∧ ((((((((w.setCell ⟨g, 0, none⟩ x0).setCell ⟨g, 1, none⟩ x1).setCell ⟨g, 2, none⟩ x2).setCell ⟨g, 3, none⟩ x3).setCell ⟨g, 4, none⟩ x4).setCell ⟨g, 5, none⟩ x5).setCell ⟨g, 6, none⟩ x6).setCell ⟨g, 7, none⟩ x7).tape = w.tape ∧ ((((((((w.setCell ⟨g, 0, none⟩ x0).setCell ⟨g, 1, none⟩ x1).setCell ⟨g, 2, none⟩ x2).setCell ⟨g, 3, none⟩ x3).setCell ⟨g, 4, none⟩ x4).setCell ⟨g, 5, none⟩ x5).setCell ⟨g, 6, none⟩ x6).setCell ⟨g, 7, none⟩ x7).output = w.output := by
  simp only [sc_os, sc_tape, sc_out, and_self]
/-- All blocks but two stay. -/
structure Fr2 (p q : Nat) (w w' : World) : Prop where
  os : w'.os = w.os
  tape : w'.tape = w.tape
  output : w'.output = w.output
  size : w.heap.size ≤ w'.heap.size
  block : ∀ k, k < w.heap.size → k ≠ p → k ≠ q → w'.heap[k]? = w.heap[k]?
theorem Fr2.below {p q B : Nat} {w w' : World} (h : Fr2 p q w w') (hp : B ≤ p) (hq : B ≤ q) (hB : B ≤ w.heap.size) : Below B w w' := ⟨h.os, h.tape, h.output, h.size, fun k hk => h.block k (by omega) (by omega) (by omega)⟩
theorem row_same5 {B e k n : Nat} {v : Value} {xs : List Value} {w w' : World} (h : w.ownsRow B e k v n xs) (hb : ∀ g, v.ownBlock = some g → w'.heap[g]? = w.heap[g]?) : w'.ownsRow B e k v n xs := by
  refine ⟨h.1, ?_⟩
  rcases h.2 with hn | ⟨g, cap, cur, rfl, h1, h2, rest⟩
  · exact .inl hn
  · exact .inr ⟨g, cap, cur, rfl, h1, by rw [hb g rfl]; exact h2, rest⟩
theorem row_kind5 {B e k n : Nat} {v : Value} {xs : List Value} {w : World} (h : w.ownsRow B e k v n xs) (g : Nat) (hg : v.ownBlock = some g) : ∃ cur, w.heap[g]? = some (.cells cur e (0, 0)) := by
  rcases h.2 with ⟨rfl, _⟩ | ⟨g', cap, cur, rfl, h1, h2, rest⟩
  · simp [Value.ownBlock] at hg
  · simp [Value.ownBlock] at hg; subst hg; exact ⟨cur, h2⟩
/-- What the closure keeps: the record ahead, and whether there is none. -/
structure Rep (W : World) (p q : Nat) (f : Bool) (y : RA) (s : Rec) : Prop where
  p : W.heap[p]? = some (.cells (recCells y s).toArray 37)
  q : W.heap[q]? = some (.cells #[.bool f] 4)
theorem Rep.ne {W : World} {p q : Nat} {f : Bool} {y : RA} {s : Rec} (h : Rep W p q f y s) : p ≠ q := by
  rintro rfl
  have h1 := h.p
  rw [h.q] at h1
  injection h1 with h1
  injection h1 with _ h1 _
  exact absurd h1 (by decide)
theorem Rep.go {W W' : World} {p q : Nat} {f : Bool} {y : RA} {s : Rec} (h : Rep W p q f y s) (hb : Below W.heap.size W W') : Rep W' p q f y s := ⟨(hb.block _ (lt_block h.p)).trans h.p, (hb.block _ (lt_block h.q)).trans h.q⟩
theorem Rep.off {W W' : World} {p q b : Nat} {f : Bool} {y : RA} {s : Rec} (h : Rep W p q f y s) (ho : OffB b W W') (hp : p ≠ b) (hq : q ≠ b) : Rep W' p q f y s := ⟨ho _ _ _ _ h.p (by decide) hp, ho _ _ _ _ h.q (by decide) hq⟩
theorem G2.fr2 {B b p q : Nat} {bs : List Value} {w w' : World} {f : Bool} {y : RA} {s : Rec} (h : G2 B w b bs) (hr : Rep w p q f y s) (hf : Fr2 p q w w') : G2 B w' b bs := by
  have hp := hr.p
  have hq := hr.q
  have hk : ∀ (k : Nat) (cs : Array Value) (t : TypeId), w.heap[k]? = some (.cells cs t (0, 0)) → t ≠ 37 → t ≠ 4 → w'.heap[k]? = w.heap[k]? := fun k cs t e h1 h2 => hf.block k (lt_block e) (by
    rintro rfl; rw [hp] at e; injection e with e; injection e with _ e _; exact h1 e.symm) (by
    rintro rfl; rw [hq] at e; injection e with e; injection e with _ e _; exact h2 e.symm)
  rcases h with ⟨h, e⟩ | ⟨v, g1, g2, g3, g4⟩
  · exact .inl ⟨h.same (hk _ _ _ h (by decide) (by decide)), e⟩
  · refine .inr ⟨v, g1.same (hk _ _ _ g1 (by decide) (by decide)), row_same5 g2 (fun g hg => ?_), g3, g4⟩
    obtain ⟨cur, hc⟩ := row_kind5 g2 g hg
    exact hk _ _ _ hc (by decide) (by decide)
theorem fin_rep {w V V8 : World} {p q : Nat} {f : Bool} {x y : RA} {r s : Rec} (e1 : V8.heap[p]? = some (.cells (recCells x r).toArray 37)) (e2 : ∀ j, j ≠ p → V8.heap[j]? = V.heap[j]?) (e3 : V8.heap.size = V.heap.size) (e5 : V8.os = V.os) (e6 : V8.tape = V.tape) (e7 : V8.output = V.output) (hV : Below w.heap.size w V) (hR : Rep V p q f y s) (hne : p ≠ q) :
    Rep (V8.setCell ⟨q, 0, none⟩ (.bool false)) p q false x r ∧ Fr2 p q w (V8.setCell ⟨q, 0, none⟩ (.bool false)) := by
  have s9 : (V8.setCell ⟨q, 0, none⟩ (.bool false)).heap.size = V8.heap.size := by simp [World.setCell]
  refine ⟨⟨(Below.heap_setCell V8 ⟨q, 0, none⟩ (.bool false) p hne).trans e1, ?_⟩, e5.trans hV.os, e6.trans hV.tape, e7.trans hV.output, ?_, fun k hk h1 h2 => ?_⟩
  · have e4 := heap_set ((e2 q (Ne.symm hne)).trans hR.q) 0 (.bool false)
    simpa using e4
  · rw [s9, e3]
    exact hV.size
  · rw [Below.heap_setCell V8 ⟨q, 0, none⟩ (.bool false) k h2, e2 k h1]
    exact hV.block k hk
/-- The record ahead of the first one. -/
def noA : RA := ⟨⟨none, 0, 0⟩, ⟨⟨none, 0, 0⟩, ⟨none, 0, 0⟩, ⟨none, 0, 0⟩, ⟨none, 0, 0⟩⟩⟩
def noR : Rec := ⟨[], 0, 1, 0, ⟨[], [], [], []⟩⟩
set_option maxRecDepth 100000 in
set_option maxHeartbeats 2000000 in
theorem repeats65 (w : World) : Calls Tryd.prog 28 #[] w fun e w' => e = .returned (.func (.func 45) #[] #[.pointer (some ⟨w.heap.size + 1, 0, none⟩), .pointer (some ⟨w.heap.size, 0, none⟩)]) ∧ Hid (Rep w' w.heap.size (w.heap.size + 1) true noA noR ∧ Below w.heap.size w w') := by
  have H : Hid (Rep ((w.alloc (.cells (recCells noA noR).toArray 37)).alloc (.cells #[.bool true] 4)) w.heap.size (w.heap.size + 1) true noA noR ∧ Below w.heap.size w ((w.alloc (.cells (recCells noA noR).toArray 37)).alloc (.cells #[.bool true] 4))) := by
    have b1 := new_below w (.cells (recCells noA noR).toArray 37)
    have b2 := new_below (w.alloc (.cells (recCells noA noR).toArray 37)) (.cells #[.bool true] 4)
    refine ⟨⟨(b2.block _ (by simp)).trans (heap_alloc_new _ _), ?_⟩, b1.trans (b2.mono b1.size)⟩
    have := heap_alloc_new (w.alloc (.cells (recCells noA noR).toArray 37)) (.cells #[.bool true] 4)
    rw [World.size_alloc] at this
    exact this
  go_enter Tryd.func28, Tryd.ntmps28
  go_wp2_with fail
  go_ret
  exact ⟨rfl, H.out⟩
set_option maxRecDepth 100000 in
set_option maxHeartbeats 4000000 in
theorem rep104_any (p q : Nat) (f : Bool) (x y : RA) (r s : Rec) (w : World) (h : Rep w p q f y s) (hx : ∀ W, Below w.heap.size w W → RdT W x.o.a r.ow) (hxl : r.ow.length = x.o.n) (hxn : x.o.n ≤ 1000) (hy : f = false → (∀ W, Below w.heap.size w W → RdT W y.o.a s.ow) ∧ s.ow.length = y.o.n ∧ y.o.n ≤ 1000) :
    Calls Tryd.prog 45 #[.agg (recCells x r).toArray, .pointer (some ⟨q, 0, none⟩), .pointer (some ⟨p, 0, none⟩)] w fun e w' => e = .returned (.tuple #[.bool (!f && decide (r.ow = s.ow)), .bool (decide (r.cl = s.cl))]) ∧ Hid (Rep w' p q false x r ∧ Fr2 p q w w') := by
  have hne := h.ne
  have KE : Hid (f = false → ∀ W, Below w.heap.size w W → Calls Tryd.prog 26 #[.slice x.o.a x.o.n x.o.c, .slice y.o.a y.o.n y.o.c] W fun e w' => e = .returned (.bool (decide (r.ow = s.ow))) ∧ Hid (Below W.heap.size W w')) := fun hf W hW => by
    obtain ⟨h1, h2, h3⟩ := hy hf
    exact eq75_any x.o.a y.o.a x.o.n y.o.n x.o.c y.o.c r.ow s.ow W (hx W hW) (h1 W hW) hxl h2 (by omega) (by omega)
  have hb0 := new_below w (.cells (recCells x r).toArray 37)
  have h0 := h.go hb0
  have h0x : (w.alloc (.cells (recCells x r).toArray 37)).heap[w.heap.size]? = some (.cells (recCells x r).toArray 37) := heap_alloc_new _ _
  have hpl := lt_block h.p
  have hql := lt_block h.q
  -- what the stores leave
  have HFIN : Hid (∀ V, Below w.heap.size w V → Rep V p q f y s → Rep (((((((((V.setCell ⟨p, 0, none⟩ (.slice x.o.a x.o.n x.o.c)).setCell ⟨p, 1, none⟩ (.int .u16 (r.t : Int))).setCell ⟨p, 2, none⟩ (.int .u16 (r.cl : Int))).setCell ⟨p, 3, none⟩ (.int .u32 (r.tt : Int))).setCell ⟨p, 4, none⟩ (.slice x.d.p1.a x.d.p1.n x.d.p1.c)).setCell ⟨p, 5, none⟩ (.slice x.d.p2.a x.d.p2.n x.d.p2.c)).setCell ⟨p, 6, none⟩ (.slice x.d.p3.a x.d.p3.n x.d.p3.c)).setCell ⟨p, 7, none⟩ (.slice x.d.p4.a x.d.p4.n x.d.p4.c)).setCell ⟨q, 0, none⟩ (.bool false)) p q false x r ∧ Fr2 p q w (((((((((V.setCell ⟨p, 0, none⟩ (.slice x.o.a x.o.n x.o.c)).setCell ⟨p, 1, none⟩ (.int .u16 (r.t : Int))).setCell ⟨p, 2, none⟩ (.int .u16 (r.cl : Int))).setCell ⟨p, 3, none⟩ (.int .u32 (r.tt : Int))).setCell ⟨p, 4, none⟩ (.slice x.d.p1.a x.d.p1.n x.d.p1.c)).setCell ⟨p, 5, none⟩ (.slice x.d.p2.a x.d.p2.n x.d.p2.c)).setCell ⟨p, 6, none⟩ (.slice x.d.p3.a x.d.p3.n x.d.p3.c)).setCell ⟨p, 7, none⟩ (.slice x.d.p4.a x.d.p4.n x.d.p4.c)).setCell ⟨q, 0, none⟩ (.bool false))) := by
    intro V hV hR
    have e1 := put8 hR.p (.slice x.o.a x.o.n x.o.c) (.int .u16 (r.t : Int)) (.int .u16 (r.cl : Int)) (.int .u32 (r.tt : Int)) (.slice x.d.p1.a x.d.p1.n x.d.p1.c) (.slice x.d.p2.a x.d.p2.n x.d.p2.c) (.slice x.d.p3.a x.d.p3.n x.d.p3.c) (.slice x.d.p4.a x.d.p4.n x.d.p4.c)
    have e2 := fun j (hj : j ≠ p) => put8_other V p (.slice x.o.a x.o.n x.o.c) (.int .u16 (r.t : Int)) (.int .u16 (r.cl : Int)) (.int .u32 (r.tt : Int)) (.slice x.d.p1.a x.d.p1.n x.d.p1.c) (.slice x.d.p2.a x.d.p2.n x.d.p2.c) (.slice x.d.p3.a x.d.p3.n x.d.p3.c) (.slice x.d.p4.a x.d.p4.n x.d.p4.c) j hj
    have e3 := put8_size V p (.slice x.o.a x.o.n x.o.c) (.int .u16 (r.t : Int)) (.int .u16 (r.cl : Int)) (.int .u32 (r.tt : Int)) (.slice x.d.p1.a x.d.p1.n x.d.p1.c) (.slice x.d.p2.a x.d.p2.n x.d.p2.c) (.slice x.d.p3.a x.d.p3.n x.d.p3.c) (.slice x.d.p4.a x.d.p4.n x.d.p4.c)
    have e4 := put8_os V p (.slice x.o.a x.o.n x.o.c) (.int .u16 (r.t : Int)) (.int .u16 (r.cl : Int)) (.int .u32 (r.tt : Int)) (.slice x.d.p1.a x.d.p1.n x.d.p1.c) (.slice x.d.p2.a x.d.p2.n x.d.p2.c) (.slice x.d.p3.a x.d.p3.n x.d.p3.c) (.slice x.d.p4.a x.d.p4.n x.d.p4.c)
    generalize ((((((((V.setCell ⟨p, 0, none⟩ (.slice x.o.a x.o.n x.o.c)).setCell ⟨p, 1, none⟩ (.int .u16 (r.t : Int))).setCell ⟨p, 2, none⟩ (.int .u16 (r.cl : Int))).setCell ⟨p, 3, none⟩ (.int .u32 (r.tt : Int))).setCell ⟨p, 4, none⟩ (.slice x.d.p1.a x.d.p1.n x.d.p1.c)).setCell ⟨p, 5, none⟩ (.slice x.d.p2.a x.d.p2.n x.d.p2.c)).setCell ⟨p, 6, none⟩ (.slice x.d.p3.a x.d.p3.n x.d.p3.c)).setCell ⟨p, 7, none⟩ (.slice x.d.p4.a x.d.p4.n x.d.p4.c)) = V8 at *
    exact fin_rep e1 e2 e3 e4.1 e4.2.1 e4.2.2 hV hR hne
  obtain ⟨⟨oa, on, oc⟩, ⟨⟨a1, n1, k1⟩, ⟨a2, n2, k2⟩, ⟨a3, n3, k3⟩, ⟨a4, n4, k4⟩⟩⟩ := x
  obtain ⟨⟨oa2, on2, oc2⟩, ⟨⟨b1, m1, h1⟩, ⟨b2, m2, h2⟩, ⟨b3, m3, h3⟩, ⟨b4, m4, h4⟩⟩⟩ := y
  obtain ⟨ow, t, cl, tt, d⟩ := r
  obtain ⟨ow2, t2, cl2, tt2, d2⟩ := s
  have HB0 : Hid (Below w.heap.size w (w.alloc (.cells #[.slice oa on oc, .int .u16 (t : Int), .int .u16 (cl : Int), .int .u32 (tt : Int), .slice a1 n1 k1, .slice a2 n2 k2, .slice a3 n3 k3, .slice a4 n4 k4] 37))) := hb0
  have H0 : Hid (Rep (w.alloc (.cells #[.slice oa on oc, .int .u16 (t : Int), .int .u16 (cl : Int), .int .u32 (tt : Int), .slice a1 n1 k1, .slice a2 n2 k2, .slice a3 n3 k3, .slice a4 n4 k4] 37)) p q f ⟨⟨oa2, on2, oc2⟩, ⟨⟨b1, m1, h1⟩, ⟨b2, m2, h2⟩, ⟨b3, m3, h3⟩, ⟨b4, m4, h4⟩⟩⟩ ⟨ow2, t2, cl2, tt2, d2⟩ ∧ (w.alloc (.cells #[.slice oa on oc, .int .u16 (t : Int), .int .u16 (cl : Int), .int .u32 (tt : Int), .slice a1 n1 k1, .slice a2 n2 k2, .slice a3 n3 k3, .slice a4 n4 k4] 37)).heap[w.heap.size]? = some (.cells #[.slice oa on oc, .int .u16 (t : Int), .int .u16 (cl : Int), .int .u32 (tt : Int), .slice a1 n1 k1, .slice a2 n2 k2, .slice a3 n3 k3, .slice a4 n4 k4] 37)) := ⟨h0, h0x⟩
  have KF : ∀ W : World, Rep W p q f ⟨⟨oa2, on2, oc2⟩, ⟨⟨b1, m1, h1⟩, ⟨b2, m2, h2⟩, ⟨b3, m3, h3⟩, ⟨b4, m4, h4⟩⟩⟩ ⟨ow2, t2, cl2, tt2, d2⟩ → W.cell? ⟨q, 0, none⟩ = some (.bool f) ∧ p < W.heap.size ∧ q < W.heap.size ∧ W.frozen? ⟨q, 0, none⟩ = false ∧ W.cell? ⟨p, 0, none⟩ = some (.slice oa2 on2 oc2) ∧ W.cell? ⟨p, 1, none⟩ = some (.int .u16 (t2 : Int)) ∧ W.cell? ⟨p, 2, none⟩ = some (.int .u16 (cl2 : Int)) ∧ W.cell? ⟨p, 3, none⟩ = some (.int .u32 (tt2 : Int)) ∧ W.cell? ⟨p, 4, none⟩ = some (.slice b1 m1 h1) ∧ W.cell? ⟨p, 5, none⟩ = some (.slice b2 m2 h2) ∧ W.cell? ⟨p, 6, none⟩ = some (.slice b3 m3 h3) ∧ W.cell? ⟨p, 7, none⟩ = some (.slice b4 m4 h4) ∧ W.frozen? ⟨p, 0, none⟩ = false ∧ W.frozen? ⟨p, 1, none⟩ = false ∧ W.frozen? ⟨p, 2, none⟩ = false ∧ W.frozen? ⟨p, 3, none⟩ = false ∧ W.frozen? ⟨p, 4, none⟩ = false ∧ W.frozen? ⟨p, 5, none⟩ = false ∧ W.frozen? ⟨p, 6, none⟩ = false ∧ W.frozen? ⟨p, 7, none⟩ = false := fun W hW => by
    have a1 : W.heap[p]? = some (.cells #[.slice oa2 on2 oc2, .int .u16 (t2 : Int), .int .u16 (cl2 : Int), .int .u32 (tt2 : Int), .slice b1 m1 h1, .slice b2 m2 h2, .slice b3 m3 h3, .slice b4 m4 h4] 37) := hW.p
    have a2 := hW.q
    exact ⟨bx_cell a2 rfl, lt_block a1, lt_block a2, by simp [World.frozen?, a2], bx_cell a1 rfl, bx_cell a1 rfl, bx_cell a1 rfl, bx_cell a1 rfl, bx_cell a1 rfl, bx_cell a1 rfl, bx_cell a1 rfl, bx_cell a1 rfl, by simp [World.frozen?, a1], by simp [World.frozen?, a1], by simp [World.frozen?, a1], by simp [World.frozen?, a1], by simp [World.frozen?, a1], by simp [World.frozen?, a1], by simp [World.frozen?, a1], by simp [World.frozen?, a1]⟩
  have KX : ∀ W : World, W.heap[w.heap.size]? = some (.cells #[.slice oa on oc, .int .u16 (t : Int), .int .u16 (cl : Int), .int .u32 (tt : Int), .slice a1 n1 k1, .slice a2 n2 k2, .slice a3 n3 k3, .slice a4 n4 k4] 37) → W.cell? ⟨w.heap.size, 0, none⟩ = some (.slice oa on oc) ∧ W.cell? ⟨w.heap.size, 1, none⟩ = some (.int .u16 (t : Int)) ∧ W.cell? ⟨w.heap.size, 2, none⟩ = some (.int .u16 (cl : Int)) ∧ W.cell? ⟨w.heap.size, 3, none⟩ = some (.int .u32 (tt : Int)) ∧ W.cell? ⟨w.heap.size, 4, none⟩ = some (.slice a1 n1 k1) ∧ W.cell? ⟨w.heap.size, 5, none⟩ = some (.slice a2 n2 k2) ∧ W.cell? ⟨w.heap.size, 6, none⟩ = some (.slice a3 n3 k3) ∧ W.cell? ⟨w.heap.size, 7, none⟩ = some (.slice a4 n4 k4) ∧ w.heap.size < W.heap.size := fun W hh =>
    ⟨bx_cell hh rfl, bx_cell hh rfl, bx_cell hh rfl, bx_cell hh rfl, bx_cell hh rfl, bx_cell hh rfl, bx_cell hh rfl, bx_cell hh rfl, lt_block hh⟩
  have hcd : ((cl : Int) == (cl2 : Int)) = decide (cl = cl2) := by
    by_cases e : cl = cl2
    · subst e; simp
    · rw [decide_eq_false e]; simp; omega
  have hne1 : ¬ p = q := hne
  have hne2 : ¬ q = p := fun e => hne e.symm
  have hpw : ¬ p = w.heap.size := by omega
  have hqw : ¬ q = w.heap.size := by omega
  have KEx := KE
  clear h hb0 h0 h0x hx hxl hxn hy hne KE
  obtain ⟨B, hBB⟩ : ∃ B, B = w.heap.size := ⟨_, rfl⟩
  show Calls Tryd.prog 45 #[.agg #[.slice oa on oc, .int .u16 (t : Int), .int .u16 (cl : Int), .int .u32 (tt : Int), .slice a1 n1 k1, .slice a2 n2 k2, .slice a3 n3 k3, .slice a4 n4 k4], .pointer (some ⟨q, 0, none⟩), .pointer (some ⟨p, 0, none⟩)] w _
  simp only at HFIN KEx ⊢
  cases f with
  | true =>
    clear KEx
    obtain ⟨f0, f1, f2, f3, f4, f5, f6, f7, f8, f9, f10, f11, f12, f13, f14, f15, f16, f17, f18, f19⟩ := KF _ H0.out.1
    obtain ⟨g0, g1, g2, g3, g4, g5, g6, g7, g8⟩ := KX _ H0.out.2
    have HE := Lib.hid (HFIN.out _ HB0.out H0.out.1)
    generalize decide (cl = cl2) = dc at *
    clear KF KX HFIN H0 HB0 hBB
    go_enter Tryd.func45, Tryd.ntmps45
    go_upto_region 1 with fail
    generalize w.alloc (.cells #[.slice oa on oc, .int .u16 (t : Int), .int .u16 (cl : Int), .int .u32 (tt : Int), .slice a1 n1 k1, .slice a2 n2 k2, .slice a3 n3 k3, .slice a4 n4 k4] 37) = wa at *
    go_wp2_with fail
    go_ret2
    exact ⟨rfl, HE.out⟩
  | false =>
    have KE2 := Lib.hid (KEx.out rfl _ HB0.out)
    obtain ⟨f0, f1, f2, f3, f4, f5, f6, f7, f8, f9, f10, f11, f12, f13, f14, f15, f16, f17, f18, f19⟩ := KF _ H0.out.1
    obtain ⟨g0, g1, g2, g3, g4, g5, g6, g7, g8⟩ := KX _ H0.out.2
    generalize decide (cl = cl2) = dc at *
    generalize decide (ow = ow2) = dw at *
    clear KEx
    go_enter Tryd.func45, Tryd.ntmps45
    go_wp2_with fail
    refine KE2.out.mono ?_
    rintro e w2 ⟨rfl, H2⟩
    have HR2 : Hid (Rep w2 p q false ⟨⟨oa2, on2, oc2⟩, ⟨⟨b1, m1, h1⟩, ⟨b2, m2, h2⟩, ⟨b3, m3, h3⟩, ⟨b4, m4, h4⟩⟩⟩ ⟨ow2, t2, cl2, tt2, d2⟩ ∧ w2.heap[w.heap.size]? = some (.cells #[.slice oa on oc, .int .u16 (t : Int), .int .u16 (cl : Int), .int .u32 (tt : Int), .slice a1 n1 k1, .slice a2 n2 k2, .slice a3 n3 k3, .slice a4 n4 k4] 37) ∧ Below w.heap.size w w2) := ⟨H0.out.1.go H2.out, (H2.out.block _ g8).trans H0.out.2, HB0.out.trans (H2.out.mono HB0.out.size)⟩
    clear f0 f1 f2 f3 f4 f5 f6 f7 f8 f9 f10 f11 f12 f13 f14 f15 f16 f17 f18 f19 g0 g1 g2 g3 g4 g5 g6 g7 g8
    obtain ⟨f0, f1, f2, f3, f4, f5, f6, f7, f8, f9, f10, f11, f12, f13, f14, f15, f16, f17, f18, f19⟩ := KF _ HR2.out.1
    obtain ⟨g0, g1, g2, g3, g4, g5, g6, g7, g8⟩ := KX _ HR2.out.2.1
    have HE := Lib.hid (HFIN.out _ HR2.out.2.2 HR2.out.1)
    clear KF KX HFIN H0 HB0 hBB H2 KE2
    go_wp2_with fail
    go_ret2
    exact ⟨rfl, HE.out⟩
end Go.Proofs.YtoppdmlmhigogaaDoor
namespace Go.Proofs.YtoppdmlmhigogaaDoor
open Go.ChangeShapes Go.WideShapes Go.ChangeAt Go.RowKit
set_option linter.unusedVariables false
set_option linter.unusedSimpArgs false
theorem alloc_at (w : World) (o : Obj) : (w.alloc o).heap[w.heap.size]? = some o := by
  show (w.heap.push o)[w.heap.size]? = some o
  simp
end Go.Proofs.YtoppdmlmhigogaaDoor
namespace Go.Proofs.YtoppdmlmhigogaaDoor
open Go.ChangeShapes Go.WideShapes Go.ChangeAt Go.RowKit
set_option linter.unusedVariables false
set_option linter.unusedSimpArgs false
/-- Records that came, as a list. -/
structure LRd (w : World) (x : Sl) (rs : List Rec) : Prop where
  rd : RdR w x.a rs
  len : rs.length = x.n
  n63 : x.n ≤ 9223372036854775807
theorem LRd.below {w w' : World} {x : Sl} {rs : List Rec} (h : LRd w x rs) (hb : Below w.heap.size w w') : LRd w' x rs := ⟨h.rd.below hb, h.len, h.n63⟩
/-- A list of records that is made in place. -/
theorem lrd_new (w : World) (ps : List (RA × Rec)) (n : Nat) (hn : ps.length = n) (hm : n ≤ 9223372036854775807) (h : ∀ p ∈ ps, RRd w p.1 p.2) : LRd (w.alloc (.cells (cellsR ps).toArray 37)) ⟨some ⟨w.heap.size, 0, none⟩, n, n⟩ (ps.map (·.2)) := by
  refine ⟨?_, by simpa using hn, hm⟩
  by_cases h0 : ps.map (·.2) = []
  · exact .inl h0
  refine .inr ⟨w.heap.size, 0, rfl, by simp, fun i hi => ?_⟩
  have hi' : i < ps.length := by simpa using hi
  refine ⟨ps[i].1, fun j hj => ?_, ?_⟩
  · have e1 := cellsR_at ps i hi' j hj
    rw [List.getElem_map, Nat.zero_add]
    unfold World.cell?
    rw [alloc_at]
    simpa using e1
  · rw [List.getElem_map]
    exact (h ps[i] (List.getElem_mem _)).below (new_below _ _)
end Go.Proofs.YtoppdmlmhigogaaDoor
namespace Go.Proofs.YtoppdmlmhigogaaDoor
open Go.ChangeShapes Go.WideShapes Go.ChangeAt Go.RowKit
set_option linter.unusedVariables false
set_option linter.unusedSimpArgs false
/-- What the record ahead is, as the document's text asks it. -/
def qOf : List Rec → Option (List ByteArray × Nat)
  | [] => none
  | r :: l => match l with
    | [] => some (r.ow, r.cl)
    | _ => qOf l
theorem textP_app (og : List ByteArray) : ∀ (l : List Rec) (q : Option (List ByteArray × Nat)) (r : Rec), textP og q (l ++ [r]) = textP og q l ++ stepP og (match l with | [] => q | _ => qOf l) r
  | [], q, r => by simp [textP]
  | [a], q, r => by simp [textP, qOf]
  | a :: b :: l, q, r => by
    have ih := textP_app og (b :: l) (some (a.ow, a.cl)) r
    show stepP og q a ++ textP og (some (a.ow, a.cl)) (b :: l ++ [r]) = stepP og q a ++ textP og (some (a.ow, a.cl)) (b :: l) ++ _
    rw [ih, List.append_assoc]
    rfl
theorem textP_pre (og : List ByteArray) : ∀ (a b : List Rec) (q : Option (List ByteArray × Nat)), ∃ t, textP og q (a ++ b) = textP og q a ++ t
  | [], b, q => ⟨textP og q b, by simp [textP]⟩
  | r :: a, b, q => by
    obtain ⟨t, ht⟩ := textP_pre og a b (some (r.ow, r.cl))
    refine ⟨t, ?_⟩
    show stepP og q r ++ textP og _ (a ++ b) = stepP og q r ++ textP og _ a ++ t
    rw [ht, List.append_assoc]
theorem textP_le (og : List ByteArray) (l : List Rec) (j : Nat) : (textP og none (l.take j)).length ≤ (textP og none l).length := by
  obtain ⟨t, ht⟩ := textP_pre og (l.take j) (l.drop j) none
  rw [List.take_append_drop] at ht
  rw [ht, List.length_append]
  omega
theorem qOf_last : ∀ (l : List Rec) (r : Rec), qOf (l ++ [r]) = some (r.ow, r.cl)
  | [], r => rfl
  | [a], r => rfl
  | a :: b :: l, r => by
    have ih := qOf_last (b :: l) r
    exact ih
theorem textP_snoc (og : List ByteArray) (l : List Rec) (r : Rec) : textP og none (l ++ [r]) = textP og none l ++ stepP og (qOf l) r := by
  have h := textP_app og l none r
  cases l with
  | nil => exact h
  | cons a l => exact h
theorem step_mid (og : List ByteArray) (q : Option (List ByteArray × Nat)) (r : Rec) : stepP og q r = midP (if blkP q r = true then ⟨#[]⟩ else shF r.ow og) (clsP q r) r := by
  unfold stepP midP
  cases blkP q r <;> cases clsP q r <;> simp
theorem step_le {og : List ByteArray} {q : Option (List ByteArray × Nat)} {r : Rec} (h : nck r.ow = 0) (hg : nck og = 0) : (stepP og q r).length ≤ (lineP r).length := by
  have h1 := sh_len h hg
  have h2 := text_pos h
  have e1 : (shF r.ow og).data.toList.length = (shF r.ow og).size := rfl
  have e2 : (ntext r.ow).1.data.toList.length = (ntext r.ow).1.size := rfl
  unfold stepP lineP
  cases blkP q r <;> cases clsP q r <;> simp only [if_true, Bool.false_eq_true, if_false, List.length_append, List.length_cons, List.length_nil] <;> omega
/-- A record that may be printed, small enough for a machine. -/
structure PrK (r : Rec) : Prop where
  w : wrongF r = 0
  b : Bd r.d
  t : r.t < 65536
  cl : r.cl < 65536
  tt : r.tt < 4294967296
  wl : (wordsR r.t r.d).length ≤ 100000
  z : (lineP r).length ≤ 1000000000
/-- While all is printed. -/
structure PaS (w0 : World) (b p q : Nat) (W : World) (l : List UInt8) (f : Bool) (y : RA) (s : Rec) : Prop where
  g : G2 w0.heap.size W b (Lib.byteCells l)
  lo : Below w0.heap.size w0 W
  rp : Rep W p q f y s
  hp : w0.heap.size ≤ p
  hq : w0.heap.size ≤ q
  hb : w0.heap.size ≤ b
theorem PaS.go {w0 W W' : World} {b p q : Nat} {l : List UInt8} {f : Bool} {y : RA} {s : Rec} (h : PaS w0 b p q W l f y s) (hb : Below W.heap.size W W') : PaS w0 b p q W' l f y s :=
  ⟨h.g.go hb, h.lo.trans (hb.mono h.lo.size), h.rp.go hb, h.hp, h.hq, h.hb⟩
theorem PaS.ne {w0 W : World} {b p q : Nat} {l : List UInt8} {f : Bool} {y : RA} {s : Rec} (h : PaS w0 b p q W l f y s) : p ≠ b ∧ q ≠ b := by
  obtain ⟨pp, vv, hb⟩ := h.g.at
  constructor
  · rintro rfl
    have h1 := h.rp.p
    rw [hb] at h1; injection h1 with h1; injection h1 with _ h1 _
    exact absurd h1 (by decide)
  · rintro rfl
    have h1 := h.rp.q
    rw [hb] at h1; injection h1 with h1; injection h1 with _ h1 _
    exact absurd h1 (by decide)
theorem PaS.put {w0 W W' : World} {b p q : Nat} {l l' : List UInt8} {f : Bool} {y : RA} {s : Rec} (h : PaS w0 b p q W l f y s) (h1 : G2 w0.heap.size W' b (Lib.byteCells l')) (h2 : Below w0.heap.size W W') (h3 : OffB b W W') : PaS w0 b p q W' l' f y s :=
  ⟨h1, h.lo.trans h2, h.rp.off h3 h.ne.1 h.ne.2, h.hp, h.hq, h.hb⟩
theorem PaS.rep {w0 W W' : World} {b p q : Nat} {l : List UInt8} {f : Bool} {x y : RA} {r s : Rec} (h : PaS w0 b p q W l f y s) (h1 : Rep W' p q false x r) (h2 : Fr2 p q W W') : PaS w0 b p q W' l false x r :=
  ⟨h.g.fr2 h.rp h2, h.lo.trans (h2.below h.hp h.hq h.lo.size), h1, h.hp, h.hq, h.hb⟩
set_option maxRecDepth 100000 in
theorem len66_any (bs : List Value) (w : World) (B b : Nat) (h : G2 B w b bs) : Calls Tryd.prog 29 #[.pointer (some ⟨b, 0, none⟩)] w fun e w' => e = .returned (.int .i64 bs.length) ∧ w' = w := by
  obtain ⟨p, ao, c, h1⟩ : ∃ p ao c, BB w b p (.slice ao bs.length c) := by
    rcases h with ⟨h, e⟩ | ⟨v, g1, g2, g3, g4⟩
    · subst e; exact ⟨_, _, _, h⟩
    · obtain ⟨ao, c, rfl⟩ := row_shape g2
      exact ⟨_, _, _, g1⟩
  have c1 := h1.c1
  have hlt := h1.lt
  generalize bs.length = n at *
  clear h h1
  go_enter Tryd.func29, Tryd.ntmps29
  go_wp2_with fail
  go_ret
  exact ⟨rfl, rfl⟩
/-- The first line. -/
def headP (og : List ByteArray) : List UInt8 := cORGs ++ ((ntext og).1.data.toList ++ [10])
theorem allP_eq (og : List ByteArray) (l : List Rec) : allP og l = headP og ++ textP og none l := by unfold allP headP; simp
set_option maxRecDepth 100000 in
set_option maxHeartbeats 8000000 in
theorem putAll30_any (w0 w : World) (b : Nat) (oa : Option Addr) (on oc : Nat) (og : List ByteArray) (x : Sl) (rs : List Rec) (hb : w0.heap.size ≤ b) (hB : Below w0.heap.size w0 w) (hg : G2 w0.heap.size w b (Lib.byteCells [])) (ho : Nm w0 oa on og) (hk : nck og = 0) (hl : LRd w0 x rs) (hn : x.n ≤ 2048) (hr : ∀ r ∈ rs, PrK r) (hL : LayT w0) :
    Calls Tryd.prog 15 #[.pointer (some ⟨b, 0, none⟩), .slice oa on oc, .slice x.a x.n x.c] w fun e w' => e = .returned (.bool (decide ((allP og rs).length ≤ 65536))) ∧ Hid (((allP og rs).length ≤ 65536 → G2 w0.heap.size w' b (Lib.byteCells (allP og rs))) ∧ Below w0.heap.size w0 w') := by
  obtain ⟨DD, hDD⟩ : ∃ DD, decide ((allP og rs).length ≤ 65536) = DD := ⟨_, rfl⟩
  have HDD := Lib.hid hDD
  rw [hDD]
  have KT := Lib.hid (fun W (hW : Below w0.heap.size w0 W) => text42_any oa on oc og W ⟨ho.rd.below hW, ho.len, ho.sz⟩)
  have htz := text_size hk
  have HG0 : Hid (G2 w0.heap.size w b (Lib.byteCells []) ∧ Below w0.heap.size w0 w) := ⟨hg, hB⟩
  have HO : Hid (Nm w0 oa on og ∧ nck og = 0) := ⟨ho, hk⟩
  have hc4 : catP [⟨#[36, 79, 82, 73, 71, 73, 78]⟩, ⟨#[32]⟩, (ntext og).1, ⟨#[10]⟩] = headP og := by unfold headP cORGs; simp [catP]
  have hhl : (headP og).length ≤ 1100 := by
    unfold headP cORGs
    have e : (ntext og).1.data.toList.length = (ntext og).1.size := rfl
    simp only [List.length_append, List.length_cons, List.length_nil]
    omega
  have KP := Lib.hid (fun W (h : G2 w0.heap.size W b (Lib.byteCells [])) => (put64_any w0.heap.size b W.heap.size 0 4 [] [⟨#[36, 79, 82, 73, 71, 73, 78]⟩, ⟨#[32]⟩, (ntext og).1, ⟨#[10]⟩] (W.alloc (.cells (tv [⟨#[36, 79, 82, 73, 71, 73, 78]⟩, ⟨#[32]⟩, (ntext og).1, ⟨#[10]⟩]).toArray 9)) (h.go (new_below _ _)) hb (PcT.new W _) rfl (by omega) (by rw [hc4]; simp only [List.length_nil]; omega)))
  simp only [tv, List.map_cons, List.map_nil, hc4, List.nil_append] at KP
  have HLAY := Lib.hid hL
  have HAL := Lib.hid (allP_eq og rs)
  have HH := Lib.hid hhl
  generalize (ntext og).1 = TX at *
  have HLL := Lib.hid hl
  have HRR := Lib.hid hr
  obtain ⟨xa, xn, xc⟩ := x
  simp only at hn ⊢
  have hlen : rs.length = xn := hl.len
  have HLEN := Lib.hid hlen
  clear hl hr hlen hg hB ho hk htz hc4 hhl hDD
  go_enter Tryd.func15, Tryd.ntmps15
  go_wp2_with fail
  refine (KT.out _ HG0.out.2).mono ?_
  rintro e w1 ⟨rfl, H1⟩
  have HG1 : Hid (G2 w0.heap.size w1 b (Lib.byteCells []) ∧ Below w0.heap.size w0 w1) := ⟨HG0.out.1.go H1.out, HG0.out.2.trans (H1.out.mono HG0.out.2.size)⟩
  go_wp2_with fail
  refine (KP.out w1 HG1.out.1).mono ?_
  rintro e w2 ⟨rfl, H2⟩
  have HB2 : Hid (Below w0.heap.size w0 w2) := (HG1.out.2.trans ((new_below _ _).mono HG1.out.2.size)).trans H2.out.2.1
  go_wp2_with fail
  refine (repeats65 w2).mono ?_
  rintro e w3 ⟨rfl, H3⟩
  have HS3 : Hid (PaS w0 b w2.heap.size (w2.heap.size + 1) w3 (headP og) true noA noR) := ⟨H2.out.1.go H3.out.2, HB2.out.trans (H3.out.2.mono HB2.out.size), H3.out.1, HB2.out.size, Nat.le_succ_of_le HB2.out.size, hb⟩
  clear H1 H2 H3 HG0 HG1 HB2 KP KT
  generalize w2.heap.size = p at *
  obtain ⟨q, hq⟩ : ∃ q, p + 1 = q := ⟨_, rfl⟩
  rw [hq] at HS3 ⊢
  clear hq
  go_wp2_with fail
  go_loopw [21] (fun v wr => ∃ k : Nat, k ≤ xn ∧ v = .int .i64 (k : Int) ∧ ∃ (l : List UInt8) (f : Bool) (y : RA) (s : Rec), l.length ≤ 65536 ∧ Hid (l = headP og ++ textP og none (rs.take k)) ∧ f = (k == 0) ∧ Hid (PaS w0 b p q wr l f y s) ∧ Hid (qOf (rs.take k) = if f = true then none else some (s.ow, s.cl)) ∧ (f = false → Hid ((∀ W, Below w0.heap.size w0 W → RdT W y.o.a s.ow) ∧ s.ow.length = y.o.n ∧ y.o.n ≤ 1000)) ∧ (f = true → s.cl = 1)) (fun v _ => xn - (intOf v).toNat)
  case atStart => exact ⟨0, Nat.zero_le _, rfl, headP og, true, noA, noR, by have := HH.out; omega, (by show _ = _; simp [textP]), rfl, HS3.out, (by show _ = _; rfl), (fun h => by cases h), fun _ => rfl⟩
  case round =>
    clear HS3
    obtain ⟨k, hk, rfl, l, f, y, s, hlz, HL0, hf, HS, HQ, HY, hcl1⟩ := hrel
    by_cases hlt : k < xn
    · have hlt' : (k : Int) < (xn : Int) := by omega
      have hkr : k < rs.length := by rw [HLEN.out]; exact hlt
      obtain ⟨lb, lo, hla, hll, x, hx0, hxr0⟩ := HLL.out.rd.at k hkr
      simp only at hla
      subst hla
      have hx : ∀ j, j < 8 → wr.cell? ⟨lb, lo + k * 8 + j, none⟩ = (recCells x rs[k])[j]? := fun j hj => (HS.out.lo.cell (p := ⟨lb, lo + k * 8 + j, none⟩) hll).trans (hx0 j hj)
      obtain ⟨r, hrk⟩ : ∃ r, rs[k] = r := ⟨_, rfl⟩
      rw [hrk] at hx hxr0
      have hpr : PrK r := by rw [← hrk]; exact HRR.out _ (List.getElem_mem hkr)
      have htk : rs.take (k + 1) = rs.take k ++ [r] := by rw [List.take_succ_eq_append_getElem hkr, hrk]
      obtain ⟨hrk0, hrc, -⟩ := wrong_ok hpr.w
      have hon : x.o.n ≤ 1000 := by
        have h1 := hxr0.1.len
        have h2 := (nck_small hrk0).1
        have h3 := nsz_len r.ow
        omega
      have hnm : Nm w0 x.o.a x.o.n r.ow := ⟨hxr0.1.rd, hxr0.1.len, by have := (nck_small hrk0).1; omega⟩
      have HY2 : Hid ((∀ W, Below w0.heap.size w0 W → RdT W x.o.a r.ow) ∧ r.ow.length = x.o.n ∧ x.o.n ≤ 1000) := ⟨fun W hW => hxr0.1.rd.below hW, hxr0.1.len, hon⟩
      -- the line
      have hstep := step_mid og (qOf (rs.take k)) r
      have hsl := step_le (q := qOf (rs.take k)) hrk0 HO.out.2
      obtain ⟨blk, hblk⟩ : ∃ blk, blkP (qOf (rs.take k)) r = blk := ⟨_, rfl⟩
      obtain ⟨cls, hcls⟩ : ∃ cls, clsP (qOf (rs.take k)) r = cls := ⟨_, rfl⟩
      have hdw : (!f && decide (r.ow = s.ow)) = blk := by
        rw [← hblk, HQ.out]
        cases f with
        | true => rfl
        | false => simp only [Bool.not_false, Bool.true_and, Bool.false_eq_true, if_false, blkP]; exact decide_eq_decide.2 ⟨fun h => h.symm, fun h => h.symm⟩
      have hnr := hcl1
      have hdc : (!(decide (r.cl = s.cl))) = cls := by
        rw [← hcls, HQ.out]
        cases f with
        | true => simp only [if_true, clsP, hnr rfl]; by_cases e : r.cl = 1 <;> simp [e]
        | false => simp only [Bool.false_eq_true, if_false, clsP]; by_cases e : r.cl = s.cl <;> simp [e]; exact fun h => e h.symm
      rw [hblk, hcls] at hstep
      have hmz : l.length + (midP (if blk = true then ⟨#[]⟩ else shF r.ow og) cls r).length ≤ 140737488355328 := by
        rw [← hstep]; have := hpr.z; omega
      obtain ⟨O, hO⟩ : ∃ O, (if blk = true then (⟨#[]⟩ : ByteArray) else shF r.ow og) = O := ⟨_, rfl⟩
      rw [hO] at hmz hstep
      have hLN : l ++ midP O cls r = headP og ++ textP og none (rs.take (k + 1)) := by rw [htk, textP_snoc, hstep, HL0.out, List.append_assoc]
      have hbig : 65536 < (l ++ midP O cls r).length → DD = false := fun h => by
        rw [← HDD.out, HAL.out]
        have := textP_le og rs (k + 1)
        rw [hLN] at h
        simp only [List.length_append] at h ⊢
        simp only [decide_eq_false_iff_not]
        omega
      have KL := Lib.hid (fun W f' y' s' (h : PaS w0 b p q W l f' y' s') => (pline41_any w0 W b l O x r cls hb h.lo h.g hxr0 HLAY.out hrc hpr.b hpr.t hpr.cl hpr.tt hpr.wl hmz).mono (R' := fun e w' => e = .returned (.tuple #[]) ∧ Hid (PaS w0 b p q w' (l ++ midP O cls r) f' y' s' ∧ OffB b W w')) fun e w' z => ⟨z.1, h.put z.2.out.1 z.2.out.2.1 z.2.out.2.2, z.2.out.2.2⟩)
      have KS := Lib.hid (fun W (hW : Below w0.heap.size w0 W) => short39_any x.o.a oa x.o.n on x.o.c oc r.ow og W ⟨hnm.rd.below hW, hnm.len, hnm.sz⟩ ⟨HO.out.1.rd.below hW, HO.out.1.len, HO.out.1.sz⟩ hrk0 HO.out.2 hxr0.1.cap hxr0.1.nil)
      have KR := Lib.hid (rep104_any p q f x y r s (wr.alloc (.cells (recCells x r).toArray 37)) (HS.out.go (new_below _ _)).rp (fun W hW => HY2.out.1 W ((HS.out.go (new_below wr _)).lo.trans (hW.mono (HS.out.go (new_below wr _)).lo.size))) HY2.out.2.1 HY2.out.2.2 (fun h => ⟨fun W hW => (HY h).out.1 W ((HS.out.go (new_below wr _)).lo.trans (hW.mono (HS.out.go (new_below wr _)).lo.size)), (HY h).out.2.1, (HY h).out.2.2⟩))
      rw [hdw] at KR
      have HQ2 : Hid (qOf (rs.take (k + 1)) = if false = true then none else some (r.ow, r.cl)) := by show _ = _; rw [htk, qOf_last]; rfl
      have hpl := lt_block HS.out.rp.p
      have hql := lt_block HS.out.rp.q
      have HPW : Hid (PaS w0 b p q (wr.alloc (.cells (recCells x r).toArray 37)) l f y s ∧ (wr.alloc (.cells (recCells x r).toArray 37)).heap[wr.heap.size]? = some (.cells (recCells x r).toArray 37)) := ⟨HS.out.go (new_below _ _), heap_alloc_new _ _⟩
      have hll2 : lb < wr.heap.size := Nat.lt_of_lt_of_le hll HS.out.lo.size
      obtain ⟨LN, hLNe⟩ : ∃ LN, l ++ midP O cls r = LN := ⟨_, rfl⟩
      rw [hLNe] at hLN hbig KL
      have HBIG := Lib.hid hbig
      have HLN : Hid (LN = headP og ++ textP og none (rs.take (k + 1))) := hLN
      have HOO := Lib.hid hO
      generalize decide (r.cl = s.cl) = dc at *
      subst hdc
      clear hLN hbig hLNe hmz hstep hsl hblk hcls hdw hpr htk hrk hrk0 hrc hnm hon hx0 HY hcl1 hnr HQ
      have c0 := hx 0 (by omega)
      have c1 := hx 1 (by omega)
      have c2 := hx 2 (by omega)
      have c3 := hx 3 (by omega)
      have c4 := hx 4 (by omega)
      have c5 := hx 5 (by omega)
      have c6 := hx 6 (by omega)
      have c7 := hx 7 (by omega)
      obtain ⟨⟨oa1, on1, oc1⟩, ⟨⟨a1, n1, k1⟩, ⟨a2, n2, k2⟩, ⟨a3, n3, k3⟩, ⟨a4, n4, k4⟩⟩⟩ := x
      obtain ⟨ow, t, cl, tt, d⟩ := r
      simp only [recCells, Nat.add_zero] at c0 c1 c2 c3 c4 c5 c6 c7
      replace c0 : wr.cell? ⟨lb, lo + k * 8, none⟩ = some (.slice oa1 on1 oc1) := c0
      replace c1 : wr.cell? ⟨lb, lo + k * 8 + 1, none⟩ = some (.int .u16 (t : Int)) := c1
      replace c2 : wr.cell? ⟨lb, lo + k * 8 + 2, none⟩ = some (.int .u16 (cl : Int)) := c2
      replace c3 : wr.cell? ⟨lb, lo + k * 8 + 3, none⟩ = some (.int .u32 (tt : Int)) := c3
      replace c4 : wr.cell? ⟨lb, lo + k * 8 + 4, none⟩ = some (.slice a1 n1 k1) := c4
      replace c5 : wr.cell? ⟨lb, lo + k * 8 + 5, none⟩ = some (.slice a2 n2 k2) := c5
      replace c6 : wr.cell? ⟨lb, lo + k * 8 + 6, none⟩ = some (.slice a3 n3 k3) := c6
      replace c7 : wr.cell? ⟨lb, lo + k * 8 + 7, none⟩ = some (.slice a4 n4 k4) := c7
      replace KR : Hid (Calls Tryd.prog 45 #[.agg #[.slice oa1 on1 oc1, .int .u16 (t : Int), .int .u16 (cl : Int), .int .u32 (tt : Int), .slice a1 n1 k1, .slice a2 n2 k2, .slice a3 n3 k3, .slice a4 n4 k4], .pointer (some ⟨q, 0, none⟩), .pointer (some ⟨p, 0, none⟩)] (wr.alloc (.cells #[.slice oa1 on1 oc1, .int .u16 (t : Int), .int .u16 (cl : Int), .int .u32 (tt : Int), .slice a1 n1 k1, .slice a2 n2 k2, .slice a3 n3 k3, .slice a4 n4 k4] 37)) fun e w' => e = .returned (.tuple #[.bool blk, .bool dc]) ∧ Hid (Rep w' p q false ⟨⟨oa1, on1, oc1⟩, ⟨⟨a1, n1, k1⟩, ⟨a2, n2, k2⟩, ⟨a3, n3, k3⟩, ⟨a4, n4, k4⟩⟩⟩ ⟨ow, t, cl, tt, d⟩ ∧ Fr2 p q (wr.alloc (.cells #[.slice oa1 on1 oc1, .int .u16 (t : Int), .int .u16 (cl : Int), .int .u32 (tt : Int), .slice a1 n1 k1, .slice a2 n2 k2, .slice a3 n3 k3, .slice a4 n4 k4] 37)) w')) := KR
      replace HPW : Hid (PaS w0 b p q (wr.alloc (.cells #[.slice oa1 on1 oc1, .int .u16 (t : Int), .int .u16 (cl : Int), .int .u32 (tt : Int), .slice a1 n1 k1, .slice a2 n2 k2, .slice a3 n3 k3, .slice a4 n4 k4] 37)) l f y s ∧ (wr.alloc (.cells #[.slice oa1 on1 oc1, .int .u16 (t : Int), .int .u16 (cl : Int), .int .u32 (tt : Int), .slice a1 n1 k1, .slice a2 n2 k2, .slice a3 n3 k3, .slice a4 n4 k4] 37)).heap[wr.heap.size]? = some (.cells #[.slice oa1 on1 oc1, .int .u16 (t : Int), .int .u16 (cl : Int), .int .u32 (tt : Int), .slice a1 n1 k1, .slice a2 n2 k2, .slice a3 n3 k3, .slice a4 n4 k4] 37)) := HPW
      replace KL : Hid (∀ W f' y' s', PaS w0 b p q W l f' y' s' → Calls Tryd.prog 10 #[.pointer (some ⟨b, 0, none⟩), .string O, .agg #[.slice oa1 on1 oc1, .int .u16 (t : Int), .int .u16 (cl : Int), .int .u32 (tt : Int), .slice a1 n1 k1, .slice a2 n2 k2, .slice a3 n3 k3, .slice a4 n4 k4], .bool (!dc)] W fun e w' => e = .returned (.tuple #[]) ∧ Hid (PaS w0 b p q w' LN f' y' s' ∧ OffB b W w')) := KL
      simp only at KS
      clear hx hxr0 HS HL0
      go_wp2_with fail
      refine KR.out.mono ?_
      rintro e w4 ⟨rfl, H4⟩
      have hbx4 : w4.heap[wr.heap.size]? = some (.cells #[.slice oa1 on1 oc1, .int .u16 (t : Int), .int .u16 (cl : Int), .int .u32 (tt : Int), .slice a1 n1 k1, .slice a2 n2 k2, .slice a3 n3 k3, .slice a4 n4 k4] 37) := (H4.out.2.block wr.heap.size (by simp) (by omega) (by omega)).trans HPW.out.2
      have HS4 : Hid (PaS w0 b p q w4 l false ⟨⟨oa1, on1, oc1⟩, ⟨⟨a1, n1, k1⟩, ⟨a2, n2, k2⟩, ⟨a3, n3, k3⟩, ⟨a4, n4, k4⟩⟩⟩ ⟨ow, t, cl, tt, d⟩) := HPW.out.1.rep H4.out.1 H4.out.2
      have d0 := bx_cell (i := 0) hbx4 rfl
      have d1 := bx_cell (i := 1) hbx4 rfl
      have d2 := bx_cell (i := 2) hbx4 rfl
      have d3 := bx_cell (i := 3) hbx4 rfl
      have d4 := bx_cell (i := 4) hbx4 rfl
      have d5 := bx_cell (i := 5) hbx4 rfl
      have d6 := bx_cell (i := 6) hbx4 rfl
      have d7 := bx_cell (i := 7) hbx4 rfl
      have dl := lt_block hbx4
      have HBX4 := Lib.hid hbx4
      clear c0 c1 c2 c3 c4 c5 c6 c7 hpl hql hll2 KR HPW H4 hbx4
      cases blk with
      | true =>
        simp only [if_true] at hO
        subst hO
        clear KS
        go_wp2_with fail
        refine (KL.out _ _ _ _ HS4.out).mono ?_
        rintro e w6 ⟨rfl, H6⟩
        clear d0 d1 d2 d3 d4 d5 d6 d7 dl
        have KN := Lib.hid (len66_any (Lib.byteCells LN) w6 w0.heap.size b H6.out.1.g)
        rw [Lib.byteCells_length] at KN
        go_wp2_with fail
        refine KN.out.mono ?_
        rintro e w7 ⟨rfl, rfl⟩
        by_cases hgt : 65536 < LN.length
        · have hgt' : (65536 : Int) < (LN.length : Int) := by omega
          have HF : Hid (DD = false) := HBIG.out hgt
          go_wp2_with fail
          go_ret
          exact ⟨by rw [HF.out]; rfl, (fun h => by have h2 := HDD.out; rw [HF.out] at h2; simp only [decide_eq_false_iff_not] at h2; exact absurd h h2), H6.out.1.lo⟩
        · have hle' : ¬ (65536 : Int) < (LN.length : Int) := by omega
          go_wp2_with fail
          exact ⟨⟨k + 1, by omega, by go_num, LN, false, ⟨⟨oa1, on1, oc1⟩, ⟨⟨a1, n1, k1⟩, ⟨a2, n2, k2⟩, ⟨a3, n3, k3⟩, ⟨a4, n4, k4⟩⟩⟩, ⟨ow, t, cl, tt, d⟩, by omega, HLN.out, rfl, H6.out.1, HQ2.out, (fun _ => HY2.out), (fun h => by cases h)⟩, by simp [intOf]; omega⟩
      | false =>
        simp only [Bool.false_eq_true, if_false] at hO
        rw [hO] at KS
        go_wp2_with fail
        refine (KS.out _ HS4.out.lo).mono ?_
        rintro e w5 ⟨rfl, H5⟩
        have HS5 : Hid (PaS w0 b p q w5 l false ⟨⟨oa1, on1, oc1⟩, ⟨⟨a1, n1, k1⟩, ⟨a2, n2, k2⟩, ⟨a3, n3, k3⟩, ⟨a4, n4, k4⟩⟩⟩ ⟨ow, t, cl, tt, d⟩) := HS4.out.go H5.out
        have hbx5 := (H5.out.block _ dl).trans HBX4.out
        clear d0 d1 d2 d3 d4 d5 d6 d7 dl
        have d0 := bx_cell (i := 0) hbx5 rfl
        have d1 := bx_cell (i := 1) hbx5 rfl
        have d2 := bx_cell (i := 2) hbx5 rfl
        have d3 := bx_cell (i := 3) hbx5 rfl
        have d4 := bx_cell (i := 4) hbx5 rfl
        have d5 := bx_cell (i := 5) hbx5 rfl
        have d6 := bx_cell (i := 6) hbx5 rfl
        have d7 := bx_cell (i := 7) hbx5 rfl
        have dl := lt_block hbx5
        clear hbx5 HBX4
        go_wp2_with fail
        refine (KL.out _ _ _ _ HS5.out).mono ?_
        rintro e w6 ⟨rfl, H6⟩
        clear d0 d1 d2 d3 d4 d5 d6 d7 dl
        have KN := Lib.hid (len66_any (Lib.byteCells LN) w6 w0.heap.size b H6.out.1.g)
        rw [Lib.byteCells_length] at KN
        go_wp2_with fail
        refine KN.out.mono ?_
        rintro e w7 ⟨rfl, rfl⟩
        by_cases hgt : 65536 < LN.length
        · have hgt' : (65536 : Int) < (LN.length : Int) := by omega
          have HF : Hid (DD = false) := HBIG.out hgt
          go_wp2_with fail
          go_ret
          exact ⟨by rw [HF.out]; rfl, (fun h => by have h2 := HDD.out; rw [HF.out] at h2; simp only [decide_eq_false_iff_not] at h2; exact absurd h h2), H6.out.1.lo⟩
        · have hle' : ¬ (65536 : Int) < (LN.length : Int) := by omega
          go_wp2_with fail
          exact ⟨⟨k + 1, by omega, by go_num, LN, false, ⟨⟨oa1, on1, oc1⟩, ⟨⟨a1, n1, k1⟩, ⟨a2, n2, k2⟩, ⟨a3, n3, k3⟩, ⟨a4, n4, k4⟩⟩⟩, ⟨ow, t, cl, tt, d⟩, by omega, HLN.out, rfl, H6.out.1, HQ2.out, (fun _ => HY2.out), (fun h => by cases h)⟩, by simp [intOf]; omega⟩
    · obtain rfl : k = xn := by omega
      have hge : ¬ (k : Int) < (k : Int) := by omega
      have HA : Hid (l = allP og rs) := by
        show _ = _
        rw [HL0.out, HAL.out, List.take_of_length_le (by rw [HLEN.out]; omega)]
      have HT : Hid (DD = true) := by
        show _ = _
        rw [← HDD.out, ← HA.out]
        exact decide_eq_true hlz
      go_wp2_with fail
      go_ret
      exact ⟨by rw [HT.out]; rfl, fun _ => by rw [← HA.out]; exact HS.out.g, HS.out.lo⟩
end Go.Proofs.YtoppdmlmhigogaaDoor
namespace Go.Proofs.YtoppdmlmhigogaaDoor
open Go.ChangeShapes Go.WideShapes Go.ChangeAt Go.RowKit
set_option linter.unusedVariables false
set_option linter.unusedSimpArgs false
theorem wrongs_app : ∀ a b : List Rec, wrongsF (a ++ b) = if wrongsF a = 0 then wrongsF b else wrongsF a
  | [], b => by simp [wrongsF]
  | r :: a, b => by
    have e1 : wrongsF (r :: (a ++ b)) = if wrongF r = 0 then wrongsF (a ++ b) else wrongF r := rfl
    have e2 : wrongsF (r :: a) = if wrongF r = 0 then wrongsF a else wrongF r := rfl
    show wrongsF (r :: (a ++ b)) = _
    rw [e1, e2]
    by_cases h : wrongF r = 0
    · rw [if_pos h, if_pos h]; exact wrongs_app a b
    · rw [if_neg h, if_neg h, if_neg h]
/-- A record that came, small enough for a machine. -/
structure PrI (r : Rec) : Prop where
  b : Bd r.d
  t : r.t < 65536
  cl : r.cl < 65536
  tt : r.tt < 4294967296
  o : r.ow.length ≤ 1000
  wl : (wordsR r.t r.d).length ≤ 100000
  z : wrongF r = 0 → (lineP r).length ≤ 1000000000
set_option maxRecDepth 100000 in
set_option maxHeartbeats 8000000 in
theorem text9_any (oa : Option Addr) (on oc : Nat) (og : List ByteArray) (x : Sl) (rs : List Rec) (w : World) (ho : TRd w ⟨oa, on, oc⟩ og) (hon : on ≤ 1000) (hl : LRd w x rs) (hr : ∀ r ∈ rs, PrI r) (hL : LayT w) :
    Calls Tryd.prog 7 #[.slice oa on oc, .slice x.a x.n x.c] w fun e w' => e = .returned (.tuple #[.string ⟨(paperF og rs).1.toArray⟩, .int .i64 (paperF og rs).2]) ∧ Hid (Below w.heap.size w w') := by
  obtain ⟨xa, xn, xc⟩ := x
  have hw : Nw w oa on og := ⟨ho.rd, ho.len, hon, ho.z63⟩
  have KN := Lib.hid (wcheck oc hw)
  have hlen : rs.length = xn := hl.len
  have h63 : xn ≤ 9223372036854775807 := hl.n63
  have HP : Hid (paperF og rs = if nck og ≠ 0 then ([], nck og) else if 2048 < rs.length then ([], 3) else if wrongsF rs ≠ 0 then ([], wrongsF rs) else if 65536 < (allP og rs).length then ([], 3) else (allP og rs, 0)) := (by show _ = _; rfl)
  simp only
  by_cases hk : nck og = 0
  case neg =>
    have hR : paperF og rs = ([], nck og) := by rw [HP.out, if_pos hk]
    rw [hR]
    generalize nck og = q at *
    have hq : (q != 0) = true := bne_iff_ne.2 hk
    clear hw hR hk ho hl hL hr HP hlen
    go_enter Tryd.func7, Tryd.ntmps7
    go_wp2_with fail
    refine KN.out.mono ?_
    rintro e w1 ⟨rfl, rfl⟩
    go_wp2_with fail
    go_ret2
    exact ⟨rfl, Below.refl _ _⟩
  rw [hk] at KN
  by_cases hbig : 2048 < xn
  · have hR : paperF og rs = ([], 3) := by rw [HP.out, if_neg (fun e => e hk), if_pos (by omega)]
    rw [hR]
    have hbig' : (2048 : Int) < (xn : Int) := by omega
    clear hw hR hk ho hl hL hr HP hlen
    go_enter Tryd.func7, Tryd.ntmps7
    go_wp2_with fail
    refine KN.out.mono ?_
    rintro e w1 ⟨rfl, rfl⟩
    go_wp2_with fail
    go_ret2
    exact ⟨rfl, Below.refl _ _⟩
  have hbig' : ¬ (2048 : Int) < (xn : Int) := by omega
  have HPA : Hid ((∀ r ∈ rs, PrK r) → ∀ (w0 V : World) (b : Nat), w0.heap.size ≤ b → Below w.heap.size w w0 → Below w0.heap.size w0 V → G2 w0.heap.size V b (Lib.byteCells []) → Calls Tryd.prog 15 #[.pointer (some ⟨b, 0, none⟩), .slice oa on oc, .slice xa xn xc] V fun e w' => e = .returned (.bool (decide ((allP og rs).length ≤ 65536))) ∧ Hid (((allP og rs).length ≤ 65536 → G2 w0.heap.size w' b (Lib.byteCells (allP og rs))) ∧ Below w0.heap.size w0 w')) := fun hpk w0 V b hb h0 hV hg => putAll30_any w0 V b oa on oc og ⟨xa, xn, xc⟩ rs hb hV hg ((hw.nm hk).rd.below h0 |> fun z => ⟨z, ho.len, (hw.nm hk).sz⟩) hk (hl.below h0) (by show xn ≤ 2048; omega) hpk (hL.below h0)
  have HLL := Lib.hid hl
  have HRI := Lib.hid hr
  have HLEN := Lib.hid hlen
  have HPR : Hid (wrongsF rs = 0 → ∀ r ∈ rs, PrK r) := fun h r hm => by
    have h1 := hr r hm
    have h2 := wrongs_ok h r hm
    exact ⟨h2, h1.b, h1.t, h1.cl, h1.tt, h1.wl, h1.z h2⟩
  have HR : Hid (paperF og rs = if wrongsF rs ≠ 0 then ([], wrongsF rs) else if 65536 < (allP og rs).length then ([], 3) else (allP og rs, 0)) := by
    show _ = _
    rw [HP.out, if_neg (fun e => e hk), if_neg (by omega)]
  generalize paperF og rs = PF at *
  clear hw hk ho hl hL hr HP hlen
  go_enter Tryd.func7, Tryd.ntmps7
  go_wp2_with fail
  refine KN.out.mono ?_
  rintro e w1 ⟨rfl, rfl⟩
  clear KN
  go_wp2_with fail
  go_loopw [21] (fun v wr => ∃ k : Nat, k ≤ xn ∧ v = .int .i64 (k : Int) ∧ Hid (Below w1.heap.size w1 wr) ∧ Hid (wrongsF (rs.take k) = 0)) (fun v _ => xn - (intOf v).toNat)
  case atStart => exact ⟨0, Nat.zero_le _, rfl, Below.refl _ _, (by show _ = _; simp [wrongsF])⟩
  case round =>
    obtain ⟨k, hk, rfl, HB, HW⟩ := hrel
    by_cases hlt : k < xn
    · have hlt' : (k : Int) < (xn : Int) := by omega
      have hkr : k < rs.length := by rw [HLEN.out]; exact hlt
      obtain ⟨lb, lo, hla, hll, x, hx0, hxr0⟩ := HLL.out.rd.at k hkr
      simp only at hla
      subst hla
      have hx : ∀ j, j < 8 → wr.cell? ⟨lb, lo + k * 8 + j, none⟩ = (recCells x rs[k])[j]? := fun j hj => (HB.out.cell (p := ⟨lb, lo + k * 8 + j, none⟩) hll).trans (hx0 j hj)
      obtain ⟨r, hrk⟩ : ∃ r, rs[k] = r := ⟨_, rfl⟩
      rw [hrk] at hx hxr0
      have hpi : PrI r := by rw [← hrk]; exact HRI.out _ (List.getElem_mem hkr)
      have htk : rs.take (k + 1) = rs.take k ++ [r] := by rw [List.take_succ_eq_append_getElem hkr, hrk]
      have hon1 : x.o.n ≤ 1000 := by have h1 := hxr0.1.len; have h2 := hpi.o; omega
      have HBA : Hid (Below w1.heap.size w1 (wr.alloc (.cells (recCells x r).toArray 37))) := HB.out.trans ((new_below _ _).mono HB.out.size)
      have KC := Lib.hid (check29_any x r (wr.alloc (.cells (recCells x r).toArray 37)) (hxr0.below HBA.out) hon1 hpi.b)
      have hll2 : lb < wr.heap.size := Nat.lt_of_lt_of_le hll HB.out.size
      have HWS : Hid (wrongF r ≠ 0 → wrongsF rs = wrongF r) := fun h => by
        have e : rs = rs.take k ++ (r :: rs.drop (k + 1)) := by
          conv => lhs; rw [← List.take_append_drop k rs, List.drop_eq_getElem_cons hkr, hrk]
        rw [e, wrongs_app, if_pos HW.out]
        unfold wrongsF
        rw [if_neg h]
      have HWT : Hid (wrongF r = 0 → wrongsF (rs.take (k + 1)) = 0) := fun h => by
        rw [htk, wrongs_app, if_pos HW.out]
        unfold wrongsF
        rw [if_pos h]
        rfl
      generalize wrongF r = q at *
      obtain ⟨⟨oa1, on1, oc1⟩, ⟨⟨a1, n1, k1⟩, ⟨a2, n2, k2⟩, ⟨a3, n3, k3⟩, ⟨a4, n4, k4⟩⟩⟩ := x
      obtain ⟨ow, t, cl, tt, d⟩ := r
      have c0 : wr.cell? ⟨lb, lo + k * 8, none⟩ = some (.slice oa1 on1 oc1) := hx 0 (by omega)
      have c1 : wr.cell? ⟨lb, lo + k * 8 + 1, none⟩ = some (.int .u16 (t : Int)) := hx 1 (by omega)
      have c2 : wr.cell? ⟨lb, lo + k * 8 + 2, none⟩ = some (.int .u16 (cl : Int)) := hx 2 (by omega)
      have c3 : wr.cell? ⟨lb, lo + k * 8 + 3, none⟩ = some (.int .u32 (tt : Int)) := hx 3 (by omega)
      have c4 : wr.cell? ⟨lb, lo + k * 8 + 4, none⟩ = some (.slice a1 n1 k1) := hx 4 (by omega)
      have c5 : wr.cell? ⟨lb, lo + k * 8 + 5, none⟩ = some (.slice a2 n2 k2) := hx 5 (by omega)
      have c6 : wr.cell? ⟨lb, lo + k * 8 + 6, none⟩ = some (.slice a3 n3 k3) := hx 6 (by omega)
      have c7 : wr.cell? ⟨lb, lo + k * 8 + 7, none⟩ = some (.slice a4 n4 k4) := hx 7 (by omega)
      replace KC : Hid (Calls Tryd.prog 9 #[.agg #[.slice oa1 on1 oc1, .int .u16 (t : Int), .int .u16 (cl : Int), .int .u32 (tt : Int), .slice a1 n1 k1, .slice a2 n2 k2, .slice a3 n3 k3, .slice a4 n4 k4]] (wr.alloc (.cells #[.slice oa1 on1 oc1, .int .u16 (t : Int), .int .u16 (cl : Int), .int .u32 (tt : Int), .slice a1 n1 k1, .slice a2 n2 k2, .slice a3 n3 k3, .slice a4 n4 k4] 37)) fun e w' => e = .returned (.int .i64 q) ∧ Hid (Below (wr.alloc (.cells #[.slice oa1 on1 oc1, .int .u16 (t : Int), .int .u16 (cl : Int), .int .u32 (tt : Int), .slice a1 n1 k1, .slice a2 n2 k2, .slice a3 n3 k3, .slice a4 n4 k4] 37)).heap.size (wr.alloc (.cells #[.slice oa1 on1 oc1, .int .u16 (t : Int), .int .u16 (cl : Int), .int .u32 (tt : Int), .slice a1 n1 k1, .slice a2 n2 k2, .slice a3 n3 k3, .slice a4 n4 k4] 37)) w')) := KC
      replace HBA : Hid (Below w1.heap.size w1 (wr.alloc (.cells #[.slice oa1 on1 oc1, .int .u16 (t : Int), .int .u16 (cl : Int), .int .u32 (tt : Int), .slice a1 n1 k1, .slice a2 n2 k2, .slice a3 n3 k3, .slice a4 n4 k4] 37))) := HBA
      clear hx hx0 hxr0 hrk hpi htk hon1 HW
      by_cases hq : q = 0
      · subst hq
        go_wp2_with fail
        refine KC.out.mono ?_
        rintro e w3 ⟨rfl, H3⟩
        go_wp2_with fail
        exact ⟨⟨k + 1, by omega, by go_num, HBA.out.trans (H3.out.mono HBA.out.size), HWT.out (by first | rfl | trivial)⟩, by simp [intOf]; omega⟩
      · have hq' : (q != 0) = true := bne_iff_ne.2 hq
        have HE : Hid (PF = ([], q)) := by
          show _ = _
          rw [HR.out, HWS.out hq, if_pos hq]
        go_wp2_with fail
        refine KC.out.mono ?_
        rintro e w3 ⟨rfl, H3⟩
        have HB3 := Lib.hid (HBA.out.trans (H3.out.mono HBA.out.size))
        go_wp2_with fail
        go_ret2
        exact ⟨by rw [HE.out]; rfl, HB3.out⟩
    · obtain rfl : k = xn := by omega
      have hge : ¬ (k : Int) < (k : Int) := by omega
      have HW0 : Hid (wrongsF rs = 0) := by
        have h := HW.out
        rw [List.take_of_length_le (by rw [HLEN.out]; omega)] at h
        exact h
      have KP := Lib.hid (HPA.out (HPR.out HW0.out) wr (wr.alloc (.cells #[.pointer none, .slice none 0 0] 46)) wr.heap.size (Nat.le_refl _) HB.out (new_below _ _) (bb_new wr))
      clear HW HPA HPR
      by_cases hz : (allP og rs).length ≤ 65536
      · have HE : Hid (PF = (allP og rs, 0)) := by
          show _ = _
          rw [HR.out, if_neg (fun e => e HW0.out), if_neg (by omega)]
        rw [show decide ((allP og rs).length ≤ 65536) = true from decide_eq_true hz] at KP
        generalize allP og rs = LP at *
        go_wp2_with fail
        refine KP.out.mono ?_
        rintro e w3 ⟨rfl, H3⟩
        have HS := Lib.hid (wstringU wr.heap.size wr.heap.size LP w3 (H3.out.1 hz) (by omega))
        have HB3 := Lib.hid (HB.out.trans (H3.out.2.mono HB.out.size))
        go_wp2_with fail
        refine HS.out.mono ?_
        rintro e w4 ⟨rfl, H4⟩
        have HB4 := Lib.hid (HB3.out.trans (H4.out.mono HB.out.size))
        go_wp2_with fail
        go_ret2
        exact ⟨by rw [HE.out]; rfl, HB4.out⟩
      · have HE : Hid (PF = ([], 3)) := by
          show _ = _
          rw [HR.out, if_neg (fun e => e HW0.out), if_pos (by omega)]
        rw [show decide ((allP og rs).length ≤ 65536) = false from decide_eq_false hz] at KP
        generalize allP og rs = LP at *
        go_wp2_with fail
        refine KP.out.mono ?_
        rintro e w3 ⟨rfl, H3⟩
        have HB3 := Lib.hid (HB.out.trans (H3.out.2.mono HB.out.size))
        go_wp2_with fail
        go_ret2
        exact ⟨by rw [HE.out]; rfl, HB3.out⟩
end Go.Proofs.YtoppdmlmhigogaaDoor
namespace Go.Proofs.YtoppdmlmhigogaaDoor
open Go.ChangeShapes Go.WideShapes Go.ChangeAt Go.RowKit
set_option linter.unusedVariables false
set_option linter.unusedSimpArgs false
theorem nrd_none (w : World) : NRd w ⟨none, 0, 0⟩ [] := ⟨.inl rfl, rfl, ⟨Nat.le_refl _, by decide⟩, fun _ => rfl⟩
theorem urd_none (w : World) : URd w ⟨none, 0, 0⟩ [] := ⟨.inl rfl, rfl, ⟨Nat.le_refl _, by decide⟩, fun _ => rfl, by simp⟩
theorem trd_none (w : World) : TRd w ⟨none, 0, 0⟩ [] := ⟨.inl rfl, rfl, ⟨Nat.le_refl _, by decide⟩, fun _ => rfl, by simp⟩
theorem brd_none (w : World) : BRd w ⟨none, 0, 0⟩ [] := ⟨⟨.inl rfl, by simp⟩, rfl, ⟨Nat.le_refl _, by decide⟩, fun _ => rfl⟩
theorem rrd_raw {W : World} {o b : Sl} {own : List ByteArray} {zs : List Int} {t cl tt : Nat} (h : TRd W o own) (h2 : BRd W b zs) : RRd W ⟨o, ⟨⟨none, 0, 0⟩, ⟨none, 0, 0⟩, ⟨none, 0, 0⟩, b⟩⟩ ⟨own, t, cl, tt, ⟨[], [], [], zs⟩⟩ := ⟨h, nrd_none W, urd_none W, trd_none W, h2⟩
theorem rrd_txt {W : World} {o b : Sl} {own ts : List ByteArray} {t cl tt : Nat} (h : TRd W o own) (h2 : TRd W b ts) : RRd W ⟨o, ⟨⟨none, 0, 0⟩, ⟨none, 0, 0⟩, b, ⟨none, 0, 0⟩⟩⟩ ⟨own, t, cl, tt, ⟨[], [], ts, []⟩⟩ := ⟨h, nrd_none W, urd_none W, h2, brd_none W⟩
/-- The three records, made in place. -/
theorem three_mem (w : World) (n : Nat) (hn : w.heap.size = n) : ∀ (w1 w2 w3 w4 w5 w6 w7 w8 w9 w10 : World),
    w1 = w.alloc (.cells #[.string ⟨#[97]⟩, .string ⟨#[98]⟩] 9) → w2 = w1.alloc (.cells #[.int .u8 1, .int .u8 2, .int .u8 3, .int .u8 4] 5) →
    (∃ o, w3 = w2.alloc o) → w4 = w3.alloc (.cells #[.string ⟨#[97]⟩, .string ⟨#[98]⟩] 9) → w5 = w4.alloc (.cells #[.string ⟨#[120]⟩] 9) →
    (∃ o, w6 = w5.alloc o) → w7 = w6.alloc (.cells #[.string ⟨#[98]⟩] 9) → w8 = w7.alloc (.cells #[.int .u8 1, .int .u8 2, .int .u8 3, .int .u8 5] 5) →
    (∃ o, w9 = w8.alloc o) →
    w10 = w9.alloc (.cells #[.slice (some ⟨n, 0, none⟩) 2 2, .int .u16 1, .int .u16 1, .int .u32 60, .slice none 0 0, .slice none 0 0, .slice none 0 0, .slice (some ⟨n + 1, 0, none⟩) 4 4,
      .slice (some ⟨n + 1 + 1 + 1, 0, none⟩) 2 2, .int .u16 16, .int .u16 1, .int .u32 60, .slice none 0 0, .slice none 0 0, .slice (some ⟨n + 1 + 1 + 1 + 1, 0, none⟩) 1 1, .slice none 0 0,
      .slice (some ⟨n + 1 + 1 + 1 + 1 + 1 + 1, 0, none⟩) 1 1, .int .u16 1, .int .u16 3, .int .u32 5, .slice none 0 0, .slice none 0 0, .slice none 0 0, .slice (some ⟨n + 1 + 1 + 1 + 1 + 1 + 1 + 1, 0, none⟩) 4 4] 37) →
    LRd w10 ⟨some ⟨n + 1 + 1 + 1 + 1 + 1 + 1 + 1 + 1 + 1, 0, none⟩, 3, 3⟩ [exA, exT, exC] ∧ Below n w w10 := by
  intro w1 w2 w3 w4 w5 w6 w7 w8 w9 w10 e1 e2 ⟨o3, e3⟩ e4 e5 ⟨o6, e6⟩ e7 e8 ⟨o9, e9⟩ e10
  have s1 : w1.heap.size = n + 1 := by rw [e1, World.size_alloc, hn]
  have s2 : w2.heap.size = n + 1 + 1 := by rw [e2, World.size_alloc, s1]
  have s3 : w3.heap.size = n + 1 + 1 + 1 := by rw [e3, World.size_alloc, s2]
  have s4 : w4.heap.size = n + 1 + 1 + 1 + 1 := by rw [e4, World.size_alloc, s3]
  have s5 : w5.heap.size = n + 1 + 1 + 1 + 1 + 1 := by rw [e5, World.size_alloc, s4]
  have s6 : w6.heap.size = n + 1 + 1 + 1 + 1 + 1 + 1 := by rw [e6, World.size_alloc, s5]
  have s7 : w7.heap.size = n + 1 + 1 + 1 + 1 + 1 + 1 + 1 := by rw [e7, World.size_alloc, s6]
  have s8 : w8.heap.size = n + 1 + 1 + 1 + 1 + 1 + 1 + 1 + 1 := by rw [e8, World.size_alloc, s7]
  have s9 : w9.heap.size = n + 1 + 1 + 1 + 1 + 1 + 1 + 1 + 1 + 1 := by rw [e9, World.size_alloc, s8]
  have b1 : Below w.heap.size w w1 := by rw [e1]; exact new_below _ _
  have b2 : Below w1.heap.size w1 w2 := by rw [e2]; exact new_below _ _
  have b3 : Below w2.heap.size w2 w3 := by rw [e3]; exact new_below _ _
  have b4 : Below w3.heap.size w3 w4 := by rw [e4]; exact new_below _ _
  have b5 : Below w4.heap.size w4 w5 := by rw [e5]; exact new_below _ _
  have b6 : Below w5.heap.size w5 w6 := by rw [e6]; exact new_below _ _
  have b7 : Below w6.heap.size w6 w7 := by rw [e7]; exact new_below _ _
  have b8 : Below w7.heap.size w7 w8 := by rw [e8]; exact new_below _ _
  have b9 : Below w8.heap.size w8 w9 := by rw [e9]; exact new_below _ _
  have b10 : Below w9.heap.size w9 w10 := by rw [e10]; exact new_below _ _
  have t1 : TRd w1 ⟨some ⟨n, 0, none⟩, 2, 2⟩ [lA, lB] := by
    have := new_t w [lA, lB] 2 rfl (by omega) (by intro x hx; simp only [List.mem_cons, List.not_mem_nil, or_false] at hx; rcases hx with rfl | rfl <;> decide)
    rw [hn] at this; rw [e1]; exact this
  have r2 : BRd w2 ⟨some ⟨n + 1, 0, none⟩, 4, 4⟩ [1, 2, 3, 4] := by
    have := new_b w1 [1, 2, 3, 4] 4 rfl (by omega) (by simp)
    rw [s1] at this; rw [e2]; exact this
  have t4 : TRd w4 ⟨some ⟨n + 1 + 1 + 1, 0, none⟩, 2, 2⟩ [lA, lB] := by
    have := new_t w3 [lA, lB] 2 rfl (by omega) (by intro x hx; simp only [List.mem_cons, List.not_mem_nil, or_false] at hx; rcases hx with rfl | rfl <;> decide)
    rw [s3] at this; rw [e4]; exact this
  have t5 : TRd w5 ⟨some ⟨n + 1 + 1 + 1 + 1, 0, none⟩, 1, 1⟩ [⟨#[120]⟩] := by
    have := new_t w4 [⟨#[120]⟩] 1 rfl (by omega) (by intro x hx; simp only [List.mem_cons, List.not_mem_nil, or_false] at hx; subst hx; decide)
    rw [s4] at this; rw [e5]; exact this
  have t7 : TRd w7 ⟨some ⟨n + 1 + 1 + 1 + 1 + 1 + 1, 0, none⟩, 1, 1⟩ [lB] := by
    have := new_t w6 [lB] 1 rfl (by omega) (by intro x hx; simp only [List.mem_cons, List.not_mem_nil, or_false] at hx; subst hx; decide)
    rw [s6] at this; rw [e7]; exact this
  have r8 : BRd w8 ⟨some ⟨n + 1 + 1 + 1 + 1 + 1 + 1 + 1, 0, none⟩, 4, 4⟩ [1, 2, 3, 5] := by
    have := new_b w7 [1, 2, 3, 5] 4 rfl (by omega) (by simp)
    rw [s7] at this; rw [e8]; exact this
  have c89 := b9
  have c79 := b8.trans (c89.mono b8.size)
  have c69 := b7.trans (c79.mono b7.size)
  have c59 := b6.trans (c69.mono b6.size)
  have c49 := b5.trans (c59.mono b5.size)
  have c39 := b4.trans (c49.mono b4.size)
  have c29 := b3.trans (c39.mono b3.size)
  have c19 := b2.trans (c29.mono b2.size)
  have c09 := b1.trans (c19.mono b1.size)
  refine ⟨?_, ?_⟩
  · have h := lrd_new w9 [(⟨⟨some ⟨n, 0, none⟩, 2, 2⟩, ⟨⟨none, 0, 0⟩, ⟨none, 0, 0⟩, ⟨none, 0, 0⟩, ⟨some ⟨n + 1, 0, none⟩, 4, 4⟩⟩⟩, exA), (⟨⟨some ⟨n + 1 + 1 + 1, 0, none⟩, 2, 2⟩, ⟨⟨none, 0, 0⟩, ⟨none, 0, 0⟩, ⟨some ⟨n + 1 + 1 + 1 + 1, 0, none⟩, 1, 1⟩, ⟨none, 0, 0⟩⟩⟩, exT), (⟨⟨some ⟨n + 1 + 1 + 1 + 1 + 1 + 1, 0, none⟩, 1, 1⟩, ⟨⟨none, 0, 0⟩, ⟨none, 0, 0⟩, ⟨none, 0, 0⟩, ⟨some ⟨n + 1 + 1 + 1 + 1 + 1 + 1 + 1, 0, none⟩, 4, 4⟩⟩⟩, exC)] 3 rfl (by omega) (by
      intro p hp
      simp only [List.mem_cons, List.not_mem_nil, or_false] at hp
      rcases hp with rfl | rfl | rfl
      · exact rrd_raw (t1.below c19) (r2.below c29)
      · exact rrd_txt (t4.below c49) (t5.below c59)
      · exact rrd_raw (t7.below c79) (r8.below c89))
    rw [s9] at h
    rw [e10]
    exact h
  · rw [← hn]
    exact c09.trans (b10.mono c09.size)
set_option maxRecDepth 100000 in
set_option maxHeartbeats 2000000 in
theorem three44 (w : World) : Calls Tryd.prog 5 #[] w fun e w' => ∃ x : Sl, e = .returned (.slice x.a x.n x.c) ∧ Hid (LRd w' x [exA, exT, exC] ∧ Below w.heap.size w w') := by
  go_enter Tryd.func5, Tryd.ntmps5
  go_wp2_with fail
  go_ret
  exact ⟨⟨_, _, _⟩, rfl, three_mem w w.heap.size rfl _ _ _ _ _ _ _ _ _ _ rfl rfl ⟨_, rfl⟩ rfl rfl ⟨_, rfl⟩ rfl rfl ⟨_, rfl⟩ rfl⟩
theorem ex_paper : paperF [lB] [exA, exT, exC] = ([36, 79, 82, 73, 71, 73, 78, 32, 98, 46, 10, 97, 32, 54, 48, 32, 65, 32, 49, 46, 50, 46, 51, 46, 52, 10, 32, 54, 48, 32, 84, 88, 84, 32, 34, 120, 34, 10, 64, 32, 53, 32, 67, 72, 32, 65, 32, 49, 46, 50, 46, 51, 46, 53, 10], 0) := by kernel_rfl
theorem bd_of {d : Dat} (h1 : d.ns = []) (h2 : d.us = []) (h3 : (nsz d.ts) ≤ 1000) (h4 : d.raw.length ≤ 1000) : tsum d ≤ 1000000000000 → Bd d := fun h => ⟨by rw [h1]; simp, by rw [h1]; simp, by rw [h2]; simp, h, by omega⟩
theorem exs_ok : ∀ r ∈ [exA, exT, exC], PrI r := by
  intro r hr
  simp only [List.mem_cons, List.not_mem_nil, or_false] at hr
  rcases hr with rfl | rfl | rfl
  all_goals exact ⟨bd_of rfl rfl (by decide +kernel) (by decide +kernel) (by decide +kernel), by decide, by decide, by decide, by decide, by decide +kernel, fun _ => by decide +kernel⟩
set_option maxRecDepth 100000 in
set_option maxHeartbeats 2000000 in
theorem awake17 (w : World) (hL : LayT w) : Calls Tryd.prog 8 #[] w fun e w' => e = .returned (.bool true) ∧ Hid (Below w.heap.size w w') := by
  have HB0 : Hid (Below w.heap.size w (w.alloc (.cells #[.string ⟨#[98]⟩] 9))) := new_below _ _
  have HT : Hid (TRd (w.alloc (.cells #[.string ⟨#[98]⟩] 9)) ⟨some ⟨w.heap.size, 0, none⟩, 1, 1⟩ [lB]) := new_t w [lB] 1 rfl (by omega) (by intro x hx; simp only [List.mem_cons, List.not_mem_nil, or_false] at hx; subst hx; decide)
  have K9 : Hid (∀ W (x : Sl), Below (w.alloc (.cells #[.string ⟨#[98]⟩] 9)).heap.size (w.alloc (.cells #[.string ⟨#[98]⟩] 9)) W → LRd W x [exA, exT, exC] → Calls Tryd.prog 7 #[.slice (some ⟨w.heap.size, 0, none⟩) 1 1, .slice x.a x.n x.c] W fun e w' => e = .returned (.tuple #[.string ⟨#[36, 79, 82, 73, 71, 73, 78, 32, 98, 46, 10, 97, 32, 54, 48, 32, 65, 32, 49, 46, 50, 46, 51, 46, 52, 10, 32, 54, 48, 32, 84, 88, 84, 32, 34, 120, 34, 10, 64, 32, 53, 32, 67, 72, 32, 65, 32, 49, 46, 50, 46, 51, 46, 53, 10]⟩, .int .i64 0]) ∧ Hid (Below W.heap.size W w')) := fun W x hW hx => by
    have h := text9_any (some ⟨w.heap.size, 0, none⟩) 1 1 [lB] x [exA, exT, exC] W (HT.out.below hW) (by omega) hx exs_ok (hL.below (HB0.out.trans (hW.mono HB0.out.size)))
    rw [ex_paper] at h
    exact h
  clear hL
  go_enter Tryd.func8, Tryd.ntmps8
  go_wp2_with fail
  refine (three44 _).mono ?_
  rintro e w2 ⟨x, rfl, H2⟩
  have KK := Lib.hid (K9.out w2 x H2.out.2 H2.out.1)
  have HB2 := Lib.hid (HB0.out.trans (H2.out.2.mono HB0.out.size))
  clear K9 H2 HT HB0
  obtain ⟨xa, xn, xc⟩ := x
  simp only at KK ⊢
  go_wp2_with fail
  refine KK.out.mono ?_
  rintro e w3 ⟨rfl, H3⟩
  have HB3 := Lib.hid (HB2.out.trans (H3.out.mono HB2.out.size))
  clear KK HB2 H3
  go_wp2_with fail
  go_ret
  exact ⟨rfl, HB3.out⟩
end Go.Proofs.YtoppdmlmhigogaaDoor

