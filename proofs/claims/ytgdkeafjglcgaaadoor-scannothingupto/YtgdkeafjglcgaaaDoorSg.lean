/- A text that is being read, in memory; an entry is begun, and put to those ahead of it. -/
import Derived.Test.YtgdkeafjglcgaaaDoorSf
namespace Go.Proofs.YtgdkeafjglcgaaaDoor
open Go.ChangeShapes Go.WideShapes Go.ChangeAt Go.RowKit
set_option linter.unusedVariables false
set_option linter.unusedSimpArgs false


def Bx (w : World) (R : Nat) (s : ByteArray) (ln op st : Nat) (el : Int) (bl : Bool) (wv ev : Value) : Prop :=
  w.heap[R]? = some (.cells #[.string s, .int .i64 ln, .int .i64 op, .int .i64 st, .int .i64 el, .bool bl, wv, ev] 56 (0, 0))
variable {w : World} {R : Nat} {s : ByteArray} {ln op st : Nat} {el : Int} {bl : Bool} {wv ev : Value}
theorem Bx.lt (h : Bx w R s ln op st el bl wv ev) : R < w.heap.size := (Array.getElem?_eq_some_iff.1 h).1
theorem Bx.c0 (h : Bx w R s ln op st el bl wv ev) : w.cell? ⟨R, 0, none⟩ = some (.string s) := by unfold Bx at h; simp [World.cell?, h]
theorem Bx.c1 (h : Bx w R s ln op st el bl wv ev) : w.cell? ⟨R, 1, none⟩ = some (.int .i64 ln) := by unfold Bx at h; simp [World.cell?, h]
theorem Bx.c2 (h : Bx w R s ln op st el bl wv ev) : w.cell? ⟨R, 2, none⟩ = some (.int .i64 op) := by unfold Bx at h; simp [World.cell?, h]
theorem Bx.c3 (h : Bx w R s ln op st el bl wv ev) : w.cell? ⟨R, 3, none⟩ = some (.int .i64 st) := by unfold Bx at h; simp [World.cell?, h]
theorem Bx.c4 (h : Bx w R s ln op st el bl wv ev) : w.cell? ⟨R, 4, none⟩ = some (.int .i64 el) := by unfold Bx at h; simp [World.cell?, h]
theorem Bx.c5 (h : Bx w R s ln op st el bl wv ev) : w.cell? ⟨R, 5, none⟩ = some (.bool bl) := by unfold Bx at h; simp [World.cell?, h]
theorem Bx.c6 (h : Bx w R s ln op st el bl wv ev) : w.cell? ⟨R, 6, none⟩ = some wv := by unfold Bx at h; simp [World.cell?, h]
theorem Bx.c7 (h : Bx w R s ln op st el bl wv ev) : w.cell? ⟨R, 7, none⟩ = some ev := by unfold Bx at h; simp [World.cell?, h]
theorem Bx.fz (h : Bx w R s ln op st el bl wv ev) (i : Nat) : w.frozen? ⟨R, i, none⟩ = false := by unfold Bx at h; simp [World.frozen?, h]
theorem Bx.same {w' : World} (h : Bx w R s ln op st el bl wv ev) (hb : w'.heap[R]? = w.heap[R]?) : Bx w' R s ln op st el bl wv ev := hb.trans h
theorem Bx.not_lst (h : Bx w R s ln op st el bl wv ev) : ¬ lst w R := by
  rintro ⟨cur, t, h1, h2⟩
  unfold Bx at h
  rw [h] at h1
  cases h1
  simp at h2
theorem Bx.p1 (h : Bx w R s ln op st el bl wv ev) (n : Nat) : Bx (w.setCell ⟨R, 1, none⟩ (.int .i64 n)) R s n op st el bl wv ev := by
  have := heap_set h 1 (.int .i64 n); simpa [Bx] using this
theorem Bx.p2 (h : Bx w R s ln op st el bl wv ev) (n : Nat) : Bx (w.setCell ⟨R, 2, none⟩ (.int .i64 n)) R s ln n st el bl wv ev := by
  have := heap_set h 2 (.int .i64 n); simpa [Bx] using this
theorem Bx.p3 (h : Bx w R s ln op st el bl wv ev) (n : Nat) : Bx (w.setCell ⟨R, 3, none⟩ (.int .i64 n)) R s ln op n el bl wv ev := by
  have := heap_set h 3 (.int .i64 n); simpa [Bx] using this
theorem Bx.p4 (h : Bx w R s ln op st el bl wv ev) (n : Int) : Bx (w.setCell ⟨R, 4, none⟩ (.int .i64 n)) R s ln op st n bl wv ev := by
  have := heap_set h 4 (.int .i64 n); simpa [Bx] using this
theorem Bx.p5 (h : Bx w R s ln op st el bl wv ev) (b : Bool) : Bx (w.setCell ⟨R, 5, none⟩ (.bool b)) R s ln op st el b wv ev := by
  have := heap_set h 5 (.bool b); simpa [Bx] using this
theorem Bx.p6 (h : Bx w R s ln op st el bl wv ev) (v : Value) : Bx (w.setCell ⟨R, 6, none⟩ v) R s ln op st el bl v ev := by
  have := heap_set h 6 v; simpa [Bx] using this
theorem Bx.p7 (h : Bx w R s ln op st el bl wv ev) (v : Value) : Bx (w.setCell ⟨R, 7, none⟩ v) R s ln op st el bl wv v := by
  have := heap_set h 7 v; simpa [Bx] using this
theorem set_size (w : World) (a : Addr) (v : Value) : (w.setCell a v).heap.size = w.heap.size := by simp
/-- Entries since then: words are gathered behind wS. -/
def Since (B : Nat) (wS w : World) : Prop := B ≤ wS.heap.size ∧ wS.heap.size ≤ w.heap.size ∧ ∀ j, B ≤ j → lst wS j → w.heap[j]? = wS.heap[j]?
theorem Since.refl {B : Nat} {w : World} (h : B ≤ w.heap.size) : Since B w w := ⟨h, Nat.le_refl _, fun _ _ _ => rfl⟩
theorem Since.set {B : Nat} {wS w : World} (h : Since B wS w) {R : Nat} (hR : ¬ lst w R) (i : Nat) (u : Value) : Since B wS (w.setCell ⟨R, i, none⟩ u) := by
  refine ⟨h.1, by rw [set_size]; exact h.2.1, fun j h1 h2 => ?_⟩
  have e := h.2.2 j h1 h2
  rw [Below.heap_setCell _ _ _ _ (fun x => ?_), e]
  simp only at x; subst x
  obtain ⟨cur, t, a, b⟩ := h2
  exact hR ⟨cur, t, e.trans a, b⟩
theorem Since.below {B : Nat} {wS w w' : World} (h : Since B wS w) (hb : Below w.heap.size w w') : Since B wS w' :=
  ⟨h.1, Nat.le_trans h.2.1 hb.size, fun j h1 h2 => by
    rw [hb.block j (Nat.lt_of_lt_of_le h2.lt h.2.1)]; exact h.2.2 j h1 h2⟩
theorem Since.grown {B : Nat} {wS w w' : World} {g : Option Nat} (h : Since B wS w) (hb : w.grownBy w' g) (hg : ∀ k, g = some k → wS.heap.size ≤ k) : Since B wS w' :=
  ⟨h.1, Nat.le_trans h.2.1 hb.size, fun j h1 h2 => by
    rw [hb.block j (Nat.lt_of_lt_of_le h2.lt h.2.1) (fun e => by have := hg j e.symm; have := h2.lt; omega)]; exact h.2.2 j h1 h2⟩
theorem Since.own {B : Nat} {wS w : World} (h : Since B wS w) {v : Value} {es : List En} (ho : OwE B wS v es) : OwE B w v es := ho.go h.2.1 h.2.2
theorem row_set57 {B e k n R : Nat} {v : Value} {xs : List Value} {w : World} (h : w.ownsRow B e k v n xs) (he : e = 34 ∨ e = 44) (hR : ¬ lst w R) (i : Nat) (u : Value) : (w.setCell ⟨R, i, none⟩ u).ownsRow B e k v n xs :=
  row_stays h (fun g hg => Below.heap_setCell _ _ _ _ (fun x => by
    simp only at x; subst x
    obtain ⟨cur, hc⟩ := row_type h g hg
    exact hR ⟨cur, e, hc, he⟩))
/-- What stays: blocks below B, and results' cells that are not yet written. -/
structure Fx where
  w : World
  P : List (Nat × Int × Int)
def Fr (B : Nat) (x : Fx) (w : World) : Prop := Below B x.w w ∧ ∀ j ∈ x.P, w.heap[j.1]? = some (.cells #[.int .i64 j.2.1, .int .i64 j.2.2] 36 (0, 0))
theorem Fr.set {B R : Nat} {x : Fx} {w : World} (h : Fr B x w) (hR : B ≤ R) {cs : Array Value} (hb : w.heap[R]? = some (.cells cs 56 (0, 0))) (i : Nat) (u : Value) : Fr B x (w.setCell ⟨R, i, none⟩ u) := by
  refine ⟨h.1.setCell (p := ⟨R, i, none⟩) hR _, fun j hj => ?_⟩
  have e := h.2 j hj
  rw [Below.heap_setCell _ _ _ _ (fun y => ?_), e]
  simp only at y; rw [y, hb] at e; cases e
theorem Fr.go {B : Nat} {x : Fx} {w w' : World} (h : Fr B x w) (hb : Below w.heap.size w w') (hB : B ≤ w.heap.size) : Fr B x w' :=
  ⟨h.1.trans (hb.mono hB), fun j hj => by
    have e := h.2 j hj
    rw [hb.block j.1 (Array.getElem?_eq_some_iff.1 e).1]; exact e⟩
theorem Fr.grown {B : Nat} {x : Fx} {w w' : World} {g : Option Nat} (h : Fr B x w) (hg : w.grownBy w' g) (hB : B ≤ w.heap.size) (hk : ∀ k, g = some k → B ≤ k ∧ lst w k) : Fr B x w' :=
  ⟨h.1.grown hg hB (fun k e => (hk k e).1), fun j hj => by
    have e := h.2 j hj
    rw [hg.block j.1 (Array.getElem?_eq_some_iff.1 e).1 (fun y => ?_)]
    · exact e
    · obtain ⟨cur, t, h1, h2⟩ := (hk j.1 y.symm).2
      rw [e] at h1; cases h1; simp at h2⟩
/-- A reading, its words being gathered. -/
structure RS (B R : Nat) (w0 : Fx) (w : World) (s : ByteArray) (q : Cf) (start : Nat) (wv ev : Value) (wS : World) : Prop where
  bx : Bx w R s q.line q.op start q.el q.bl wv ev
  ow : OwE B wS ev q.es
  si : Since B wS w
  wo : w.ownsRow wS.heap.size 44 2 wv q.ws.length (cellsW q.ws)
  br : B ≤ R
  bl : Fr B w0 w
/-- A reading whose entry is done. -/
structure RC (B R : Nat) (w0 : Fx) (w : World) (s : ByteArray) (q : Cf) (start : Nat) (wv ev : Value) : Prop where
  bx : Bx w R s q.line q.op start q.el q.bl wv ev
  ow : OwE B w ev q.es
  br : B ≤ R
  bl : Fr B w0 w
theorem RS.rc {B R : Nat} {w0 : Fx} {w : World} {s : ByteArray} {q : Cf} {start : Nat} {wv ev : Value} {wS : World} (h : RS B R w0 w s q start wv ev wS) : RC B R w0 w s q start wv ev := ⟨h.bx, h.si.own h.ow, h.br, h.bl⟩
theorem headB_drop (s : ByteArray) (p : Nat) (h : p < s.size) : headB (s.data.toList.drop p) = isB s[p] := by
  rw [List.drop_eq_getElem_cons (by simpa using h)]
  rfl
theorem headB_none (s : ByteArray) (p : Nat) (h : ¬ p < s.size) : headB (s.data.toList.drop p) = false := by
  rw [List.drop_of_length_le (by simp; omega)]; rfl
theorem RC.begun {B R : Nat} {w0 : Fx} {w : World} {s : ByteArray} {q : Cf} {start : Nat} {wv ev : Value} (h : RC B R w0 w s q start wv ev) (r : List UInt8) (b : Bool) (hb : headB r = b) :
    RS B R w0 (((w.setCell ⟨R, 4, none⟩ (.int .i64 0)).setCell ⟨R, 5, none⟩ (.bool b)).setCell ⟨R, 6, none⟩ (.slice none 0 0)) s (beginF q r) start (.slice none 0 0) ev (((w.setCell ⟨R, 4, none⟩ (.int .i64 0)).setCell ⟨R, 5, none⟩ (.bool b)).setCell ⟨R, 6, none⟩ (.slice none 0 0)) := by
  have b1 := h.bx.p4 0
  have b2 := b1.p5 b
  have b3 := b2.p6 (.slice none 0 0)
  have hB : B ≤ w.heap.size := Nat.le_of_lt (Nat.lt_of_le_of_lt h.br h.bx.lt)
  have s0 : Since B w w := Since.refl hB
  have s3 := ((s0.set h.bx.not_lst 4 (.int .i64 0)).set b1.not_lst 5 (.bool b)).set b2.not_lst 6 (.slice none 0 0)
  refine ⟨?_, s3.own h.ow, Since.refl (by simp only [set_size]; exact hB), World.ownsRow_nil _ _ _ _, h.br, ?_⟩
  · simp only [beginF, hb]; exact b3
  · exact ((h.bl.set h.br h.bx 4 _).set h.br b1 5 _).set h.br b2 6 _
set_option maxRecDepth 100000 in
set_option maxHeartbeats 1000000 in
theorem begin28 (B R : Nat) (w0 : Fx) (w : World) (s : ByteArray) (q : Cf) (start : Nat) (wv ev : Value) (p : Nat) (h : RC B R w0 w s q start wv ev) (hs : s.size ≤ 9223372036854775807) :
    Calls Tryd.prog 25 #[.pointer (some ⟨R, 0, none⟩), .int .i64 p] w fun e w' => e = .returned (.tuple #[]) ∧ Hid (∃ wS, RS B R w0 w' s (beginF q (s.data.toList.drop p)) start (.slice none 0 0) ev wS) := by
  have c0 := h.bx.c0
  have f4 := h.bx.fz 4
  have f5 := h.bx.fz 5
  have f6 := h.bx.fz 6
  have c4 := h.bx.c4
  have c5 := h.bx.c5
  have c6 := h.bx.c6
  have hlt := h.bx.lt
  by_cases hp : p < s.size
  · have hp' : (p : Int) < (s.size : Int) := by omega
    have K := Lib.hid (fun w => isb45 ((s[p].toNat : Nat) : Int) w)
    have HF := Lib.hid (h.begun (s.data.toList.drop p) (isBz ((s[p].toNat : Nat) : Int)) (by rw [headB_drop s p hp]; exact (isBz_bI _).symm))
    clear h
    go_enter Tryd.func25, Tryd.ntmps25
    go_wp2_with fail
    refine (K.out _).mono ?_
    rintro e w1 ⟨rfl, rfl⟩
    generalize isBz ((s[p].toNat : Nat) : Int) = b at *
    go_wp2_with fail
    go_end0
    exact ⟨rfl, _, HF.out⟩
  · have hp' : ¬ (p : Int) < (s.size : Int) := by omega
    have HF := Lib.hid (h.begun (s.data.toList.drop p) false (headB_none s p hp))
    clear h
    go_enter Tryd.func25, Tryd.ntmps25
    go_wp2_with fail
    go_end0
    exact ⟨rfl, _, HF.out⟩
end Go.Proofs.YtgdkeafjglcgaaaDoor
