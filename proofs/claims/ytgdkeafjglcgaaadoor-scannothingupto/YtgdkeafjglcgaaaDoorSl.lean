/- The end of a text. -/
import Derived.Test.YtgdkeafjglcgaaaDoorSk
namespace Go.Proofs.YtgdkeafjglcgaaaDoor
open Go.ChangeShapes Go.WideShapes Go.ChangeAt Go.RowKit
set_option linter.unusedVariables false
set_option linter.unusedSimpArgs false


/-- What an end comes to: a fault, or the entries. -/
def FnQ (B R : Nat) (w0 : Fx) (s : ByteArray) (a b : Nat) (w' : World) : Rt → Prop
  | .er e l => a = e ∧ b = l ∧ Fr B w0 w'
  | .ok es => a = 0 ∧ b = 0 ∧ ∃ q start wv ev, q.es = es ∧ RC B R w0 w' s q start wv ev
def FnP (B R : Nat) (w0 : Fx) (s : ByteArray) (r : Rt) (e : Ending) (w' : World) : Prop :=
  ∃ a b : Nat, e = .returned (.agg #[.int .i64 a, .int .i64 b]) ∧ Hid (FnQ B R w0 s a b w' r)
def Fx.put (x : Fx) (j : Nat) (a b : Int) : Fx := ⟨x.w, (j, a, b) :: x.P⟩
theorem Fr.put {B : Nat} {x : Fx} {w : World} (h : Fr B x w) (j : Nat) (a b : Int) (hj : w.heap[j]? = some (.cells #[.int .i64 a, .int .i64 b] 36 (0, 0))) : Fr B (x.put j a b) w := by
  refine ⟨h.1, fun k hk => ?_⟩
  rcases List.mem_cons.1 hk with rfl | hk
  · exact hj
  · exact h.2 k hk
theorem Fr.cell {B : Nat} {x : Fx} {w : World} {j : Nat} {a b : Int} (h : Fr B (x.put j a b) w) : w.heap[j]? = some (.cells #[.int .i64 a, .int .i64 b] 36 (0, 0)) := h.2 (j, a, b) (by simp [Fx.put])
theorem Fr.pop {B : Nat} {x : Fx} {w : World} {j : Nat} {a b : Int} (h : Fr B (x.put j a b) w) : Fr B x w := ⟨h.1, fun k hk => h.2 k (by simp [Fx.put, hk])⟩
theorem RS.put {B R : Nat} {w0 : Fx} {w : World} {s : ByteArray} {q : Cf} {start : Nat} {wv ev : Value} {wS : World} (h : RS B R w0 w s q start wv ev wS) (j : Nat) (a b : Int) (hj : w.heap[j]? = some (.cells #[.int .i64 a, .int .i64 b] 36 (0, 0))) : RS B R (w0.put j a b) w s q start wv ev wS := ⟨h.bx, h.ow, h.si, h.wo, h.br, h.bl.put j a b hj⟩
theorem RC.pop {B R : Nat} {w0 : Fx} {w : World} {s : ByteArray} {q : Cf} {start : Nat} {wv ev : Value} {j : Nat} {a b : Int} (h : RC B R (w0.put j a b) w s q start wv ev) : RC B R w0 w s q start wv ev := ⟨h.bx, h.ow, h.br, h.bl.pop⟩
/-- A result's cell: facts. -/
theorem rc_c0 {w : World} {j : Nat} {a b : Value} (h : w.heap[j]? = some (.cells #[a, b] 36 (0, 0))) : w.cell? ⟨j, 0, none⟩ = some a := by simp [World.cell?, h]
theorem rc_c1 {w : World} {j : Nat} {a b : Value} (h : w.heap[j]? = some (.cells #[a, b] 36 (0, 0))) : w.cell? ⟨j, 1, none⟩ = some b := by simp [World.cell?, h]
theorem rc_fz {w : World} {j : Nat} {a b : Value} (h : w.heap[j]? = some (.cells #[a, b] 36 (0, 0))) (i : Nat) : w.frozen? ⟨j, i, none⟩ = false := by simp [World.frozen?, h]
theorem rc_lt {w : World} {j : Nat} {a b : Value} (h : w.heap[j]? = some (.cells #[a, b] 36 (0, 0))) : j < w.heap.size := (Array.getElem?_eq_some_iff.1 h).1
theorem rc_put {w : World} {j : Nat} {a b : Value} (h : w.heap[j]? = some (.cells #[a, b] 36 (0, 0))) (x y : Value) : ((w.setCell ⟨j, 0, none⟩ x).setCell ⟨j, 1, none⟩ y).heap[j]? = some (.cells #[x, y] 36 (0, 0)) := by
  have h1 := heap_set h 0 x
  have h2 := heap_set h1 1 y
  simpa using h2
/-- A result's cell that is not among those that stay is written. -/
theorem Fr.res {B : Nat} {x : Fx} {w : World} {j : Nat} (h : Fr B x w) (hB : B ≤ j) (hj : ∀ p ∈ x.P, p.1 ≠ j) (u v : Value) : Fr B x ((w.setCell ⟨j, 0, none⟩ u).setCell ⟨j, 1, none⟩ v) := by
  refine ⟨(h.1.setCell (p := ⟨j, 0, none⟩) hB _).setCell (p := ⟨j, 1, none⟩) hB _, fun k hk => ?_⟩
  have hne : k.1 ≠ j := hj k hk
  rw [Below.heap_setCell _ _ _ _ hne, Below.heap_setCell _ _ _ _ hne]
  exact h.2 k hk
theorem RC.res {B R : Nat} {w0 : Fx} {w : World} {s : ByteArray} {q : Cf} {start : Nat} {wv ev : Value} {j : Nat} {a b : Value} (h : RC B R w0 w s q start wv ev) (hc : w.heap[j]? = some (.cells #[a, b] 36 (0, 0))) (hB : B ≤ j) (hj : ∀ p ∈ w0.P, p.1 ≠ j) (u v : Value) : RC B R w0 ((w.setCell ⟨j, 0, none⟩ u).setCell ⟨j, 1, none⟩ v) s q start wv ev := by
  have hnl : ∀ k, lst w k → k ≠ j := fun k hk e => by
    obtain ⟨c, t, h1, h2⟩ := hk
    rw [e, hc] at h1; cases h1; simp at h2
  have hR : R ≠ j := fun e => by
    have := h.bx; unfold Bx at this
    rw [e, hc] at this; cases this
  refine ⟨h.bx.same (by rw [Below.heap_setCell _ _ _ _ hR, Below.heap_setCell _ _ _ _ hR]), h.ow.go (by simp) (fun k _ hk => by rw [Below.heap_setCell _ _ _ _ (hnl k hk), Below.heap_setCell _ _ _ _ (hnl k hk)]), h.br, h.bl.res hB hj u v⟩
set_option maxRecDepth 100000 in
set_option maxHeartbeats 1000000 in
/-- The end in quotes, or behind a backslash. -/
theorem end52_no (B R : Nat) (w0 : Fx) (w : World) (s : ByteArray) (q : Cf) (start : Nat) (wv ev : Value) (wS : World) (k : Nat) (h : RS B R w0 w s q start wv ev wS) (hP : ∀ p ∈ w0.P, p.1 < w.heap.size) (hs : s.size ≤ 1000000) (hk : q.st = k) (hst : k = 3 ∨ k = 2 ∨ k = 4) :
    Calls Tryd.prog 48 #[.pointer (some ⟨R, 0, none⟩), .int .u8 k] w (FnP B R w0 s (finF (linesF s.data.toList) q)) := by
  have HX : Hid (finF (linesF s.data.toList) q = .er 230 (linesF s.data.toList)) := (by show _ = _; simp [finF, hk, hst])
  rw [HX.out]
  have K13 : Hid (∀ w, Calls Tryd.prog 61 #[.string s] w fun e w' => e = .returned (.int .i64 (linesF s.data.toList)) ∧ w' = w) := fun w => lines13 s w (by omega)
  have hlb := lines_le s.data.toList
  have hsl : s.data.toList.length = s.size := by simp
  rw [hsl] at hlb
  generalize linesF s.data.toList = L at *
  have hlt := h.bx.lt
  have c0 : (w.alloc (.cells #[.int .i64 0, .int .i64 0] 36)).cell? ⟨R, 0, none⟩ = some (.string s) := ((al_below w _).cell (p := ⟨R, 0, none⟩) hlt).trans h.bx.c0
  have hB : B ≤ w.heap.size := by have := h.br; omega
  have HF : Hid (∀ o1 o2, Fr B w0 ((w.alloc o1).alloc o2)) := fun o1 o2 => (h.bl.go (al_below w _) hB).go (al_below _ _) (Nat.le_trans hB (al_below w _).size)
  have K46 := Lib.hid (fun w => esc46 k w)
  clear h hP HX
  rcases hst with rfl | rfl | rfl
  · go_enter Tryd.func48, Tryd.ntmps48
    go_wp2_with fail
    refine (K13.out _).mono ?_
    rintro e w1 ⟨rfl, rfl⟩
    go_wp2_with fail
    refine bodyPost_ret (v := .agg #[.int .i64 230, .int .i64 L]) ?_ rfl ⟨230, L, rfl, rfl, rfl, HF.out _ _⟩
    simp [results, Tryd.results48, go_sem]
  · go_enter Tryd.func48, Tryd.ntmps48
    go_wp2_with fail
    refine (K13.out _).mono ?_
    rintro e w1 ⟨rfl, rfl⟩
    go_wp2_with fail
    refine (K46.out _).mono ?_
    rintro e w1 ⟨rfl, rfl⟩
    go_wp2_with fail
    refine bodyPost_ret (v := .agg #[.int .i64 230, .int .i64 L]) ?_ rfl ⟨230, L, rfl, rfl, rfl, HF.out _ _⟩
    simp [results, Tryd.results48, go_sem]
  · go_enter Tryd.func48, Tryd.ntmps48
    go_wp2_with fail
    refine (K13.out _).mono ?_
    rintro e w1 ⟨rfl, rfl⟩
    go_wp2_with fail
    refine (K46.out _).mono ?_
    rintro e w1 ⟨rfl, rfl⟩
    go_wp2_with fail
    refine bodyPost_ret (v := .agg #[.int .i64 230, .int .i64 L]) ?_ rfl ⟨230, L, rfl, rfl, rfl, HF.out _ _⟩
    simp [results, Tryd.results48, go_sem]
set_option maxRecDepth 100000 in
set_option maxHeartbeats 1000000 in
/-- The end where no word is read. -/
theorem end52_out (B R : Nat) (w0 : Fx) (w : World) (s : ByteArray) (q : Cf) (start : Nat) (wv ev : Value) (wS : World) (k : Nat) (h : RS B R w0 w s q start wv ev wS) (hP : ∀ p ∈ w0.P, p.1 < w.heap.size) (hs : s.size ≤ 1000000) (hk : q.st = k) (hst : k = 0 ∨ k = 5 ∨ k = 6) (he : q.es.length ≤ 1000000) :
    Calls Tryd.prog 48 #[.pointer (some ⟨R, 0, none⟩), .int .u8 k] w (FnP B R w0 s (finF (linesF s.data.toList) q)) := by
  have HX : Hid (finF (linesF s.data.toList) q = if 0 < q.op then .er 230 (linesF s.data.toList) else .ok (closeF q).es) := (by
    show _ = _
    have e1 : ¬ (q.st = 3 ∨ q.st = 2 ∨ q.st = 4) := by omega
    have e2 : ¬ q.st = 1 := by omega
    simp only [finF, if_neg e1, if_neg e2])
  rw [HX.out]
  have K13 : Hid (∀ w, Calls Tryd.prog 61 #[.string s] w fun e w' => e = .returned (.int .i64 (linesF s.data.toList)) ∧ w' = w) := fun w => lines13 s w (by omega)
  have hlb := lines_le s.data.toList
  have hsl : s.data.toList.length = s.size := by simp
  rw [hsl] at hlb
  generalize linesF s.data.toList = L at *
  have hlt := h.bx.lt
  have c0 : (w.alloc (.cells #[.int .i64 0, .int .i64 0] 36)).cell? ⟨R, 0, none⟩ = some (.string s) := ((al_below w _).cell (p := ⟨R, 0, none⟩) hlt).trans h.bx.c0
  have hB : B ≤ w.heap.size := by have := h.br; omega
  have HF : Hid (∀ o1 o2, Fr B w0 ((w.alloc o1).alloc o2)) := fun o1 o2 => (h.bl.go (al_below w _) hB).go (al_below _ _) (Nat.le_trans hB (al_below w _).size)
  have K46 := Lib.hid (fun w => esc46 k w)
  have HJ : Hid (∀ p ∈ w0.P, p.1 ≠ w.heap.size) := fun p hp e => by have := hP p hp; omega
  have HA := Lib.hid (h.go (al_below w (.cells #[.int .i64 0, .int .i64 0] 36)))
  have HA2 := Lib.hid (HA.out.go (al_below _ (.cells #[.int .i64 230, .int .i64 L] 36)))
  have hJ0 : ((w.alloc (.cells #[.int .i64 0, .int .i64 0] 36)).alloc (.cells #[.int .i64 230, .int .i64 L] 36)).heap[w.heap.size]? = some (.cells #[.int .i64 0, .int .i64 0] 36 (0, 0)) := by
    rw [(al_below (w.alloc (.cells #[.int .i64 0, .int .i64 0] 36)) _).block w.heap.size (by simp)]
    exact heap_alloc_new w _
  have hJ9 : ((w.alloc (.cells #[.int .i64 0, .int .i64 0] 36)).alloc (.cells #[.int .i64 230, .int .i64 L] 36)).heap[w.heap.size + 1]? = some (.cells #[.int .i64 230, .int .i64 L] 36 (0, 0)) := by
    have := heap_alloc_new (w.alloc (.cells #[.int .i64 0, .int .i64 0] 36)) (.cells #[.int .i64 230, .int .i64 L] 36)
    simpa using this
  have HB := Lib.hid ((HA2.out.put (w.heap.size + 1) 230 L hJ9).put w.heap.size 0 0 hJ0)
  clear hJ9
  have hJ1 := rc_c0 hJ0
  clear hJ0
  have c2 := HA2.out.bx.c2
  have KC := Lib.hid (close65 B R ((w0.put (w.heap.size + 1) 230 L).put w.heap.size 0 0) _ s q start wv ev wS HB.out he)
  have n3 : ¬ (k : Int) = 3 := by omega
  have n3b : ((k : Int) == 3) = false := by simpa using n3
  have n1 : ¬ (k : Int) = 1 := by omega
  have n1b : ((k : Int) == 1) = false := by simpa using n1
  have hd : decide (k = 2 ∨ k = 4) = false := by simp; omega
  rw [hd] at K46
  by_cases hop : 0 < q.op
  · rw [if_pos hop]
    have hop' : (0 : Int) < (q.op : Int) := by omega
    clear h hP HX hst hk hd HA HA2 HB KC hop
    go_enter Tryd.func48, Tryd.ntmps48
    go_wp2_with fail
    refine (K13.out _).mono ?_
    rintro e w1 ⟨rfl, rfl⟩
    go_wp2_with fail
    refine (K46.out _).mono ?_
    rintro e w1 ⟨rfl, rfl⟩
    go_wp2_with fail
    refine bodyPost_ret (v := .agg #[.int .i64 230, .int .i64 L]) ?_ rfl ⟨230, L, rfl, rfl, rfl, HF.out _ _⟩
    simp [results, Tryd.results48, go_sem]
  · rw [if_neg hop]
    have hop' : ¬ (0 : Int) < (q.op : Int) := by omega
    clear h hP HX hst hk hd HA HA2 HB hop
    go_enter Tryd.func48, Tryd.ntmps48
    go_wp2_with fail
    refine (K13.out _).mono ?_
    rintro e w1 ⟨rfl, rfl⟩
    go_wp2_with fail
    refine (K46.out _).mono ?_
    rintro e w1 ⟨rfl, rfl⟩
    go_wp2_with fail
    refine KC.out.mono ?_
    rintro e w2 ⟨rfl, H2⟩
    obtain ⟨wv', ev', hrc⟩ := H2.out
    have HRC := Lib.hid hrc
    clear hrc H2
    have HC2 := Lib.hid HRC.out.bl.cell
    have k0 := rc_c0 HC2.out
    have k1 := rc_c1 HC2.out
    have kf := rc_fz HC2.out
    have kl := rc_lt HC2.out
    have z0 := rc_c0 (rc_put HC2.out (.int .i64 0) (.int .i64 0))
    have z1 := rc_c1 (rc_put HC2.out (.int .i64 0) (.int .i64 0))
    go_wp2_with fail
    refine bodyPost_ret (v := .agg #[.int .i64 0, .int .i64 0]) ?_ rfl ⟨0, 0, rfl, rfl, rfl, _, _, _, _, rfl, (HRC.out.pop.pop).res HC2.out hB HJ.out _ _⟩
    simp [results, Tryd.results48, go_sem, k0, k1, z0, z1, kl]
set_option maxRecDepth 100000 in
set_option maxHeartbeats 1000000 in
/-- The end in a word. -/
theorem end52_word (B R : Nat) (w0 : Fx) (w : World) (s : ByteArray) (q : Cf) (start : Nat) (wv ev : Value) (wS : World) (k : Nat) (h : RS B R w0 w s q start wv ev wS) (hP : ∀ p ∈ w0.P, p.1 < w.heap.size) (hs : s.size ≤ 1000000) (hk : q.st = k) (hst : k = 1) (hc : CurS s q start s.size) (hw : q.ws.length ≤ 64) (he : q.es.length ≤ 1000000) :
    Calls Tryd.prog 48 #[.pointer (some ⟨R, 0, none⟩), .int .u8 k] w (FnP B R w0 s (finF (linesF s.data.toList) q)) := by
  have HX : Hid (finF (linesF s.data.toList) q = match keepF q false with | none => .er 3 q.line | some q' => if 0 < q'.op then .er 230 (linesF s.data.toList) else .ok (closeF q').es) := (by
    show _ = _
    have e1 : ¬ (q.st = 3 ∨ q.st = 2 ∨ q.st = 4) := by omega
    have e2 : q.st = 1 := by omega
    simp only [finF, if_neg e1, if_pos e2]; rfl)
  rw [HX.out]
  have K13 : Hid (∀ w, Calls Tryd.prog 61 #[.string s] w fun e w' => e = .returned (.int .i64 (linesF s.data.toList)) ∧ w' = w) := fun w => lines13 s w (by omega)
  have hlb := lines_le s.data.toList
  have hsl : s.data.toList.length = s.size := by simp
  rw [hsl] at hlb
  generalize linesF s.data.toList = L at *
  have hlt := h.bx.lt
  have c0 : (w.alloc (.cells #[.int .i64 0, .int .i64 0] 36)).cell? ⟨R, 0, none⟩ = some (.string s) := ((al_below w _).cell (p := ⟨R, 0, none⟩) hlt).trans h.bx.c0
  have hB : B ≤ w.heap.size := by have := h.br; omega
  have HF : Hid (∀ o1 o2, Fr B w0 ((w.alloc o1).alloc o2)) := fun o1 o2 => (h.bl.go (al_below w _) hB).go (al_below _ _) (Nat.le_trans hB (al_below w _).size)
  have K46 := Lib.hid (fun w => esc46 1 w)
  have HJ : Hid (∀ p ∈ w0.P, p.1 ≠ w.heap.size) := fun p hp e => by have := hP p hp; omega
  have HA := Lib.hid (h.go (al_below w (.cells #[.int .i64 0, .int .i64 0] 36)))
  have HA2 := Lib.hid (HA.out.go (al_below _ (.cells #[.int .i64 230, .int .i64 L] 36)))
  have hJ0 : ((w.alloc (.cells #[.int .i64 0, .int .i64 0] 36)).alloc (.cells #[.int .i64 230, .int .i64 L] 36)).heap[w.heap.size]? = some (.cells #[.int .i64 0, .int .i64 0] 36 (0, 0)) := by
    rw [(al_below (w.alloc (.cells #[.int .i64 0, .int .i64 0] 36)) _).block w.heap.size (by simp)]
    exact heap_alloc_new w _
  have hJ9 : ((w.alloc (.cells #[.int .i64 0, .int .i64 0] 36)).alloc (.cells #[.int .i64 230, .int .i64 L] 36)).heap[w.heap.size + 1]? = some (.cells #[.int .i64 230, .int .i64 L] 36 (0, 0)) := by
    have := heap_alloc_new (w.alloc (.cells #[.int .i64 0, .int .i64 0] 36)) (.cells #[.int .i64 230, .int .i64 L] 36)
    simpa using this
  have HB := Lib.hid ((HA2.out.put (w.heap.size + 1) 230 L hJ9).put w.heap.size 0 0 hJ0)
  clear hJ9
  have hJ1 := rc_c0 hJ0
  clear hJ0
  subst hst
  have c0b := HA2.out.bx.c0
  have KK := Lib.hid (keep64 B R ((w0.put (w.heap.size + 1) 230 L).put w.heap.size 0 0) _ s q start wv ev wS s.size false HB.out hw hc hs)
  have hd : decide (1 = 2 ∨ 1 = 4) = false := by decide
  rw [hd] at K46
  cases hkf : keepF q false with
  | none =>
    simp only
    have HKK := Lib.hid hkf
    clear h hP HX hk hd HA HA2 HB hkf hc
    go_enter Tryd.func48, Tryd.ntmps48
    go_wp2_with fail
    refine (K13.out _).mono ?_
    rintro e w1 ⟨rfl, rfl⟩
    go_wp2_with fail
    refine (K46.out _).mono ?_
    rintro e w1 ⟨rfl, rfl⟩
    go_wp2_with fail
    refine KK.out.mono ?_
    rintro e w2 ⟨er, rfl, H2⟩
    rcases H2.out with ⟨k1, rfl, wv2, ev2, wS2, k3⟩ | ⟨rfl, q2, k1, wv2, ev2, wS2, k3⟩
    · have HRS := Lib.hid k3
      clear H2 k1 k3
      have c1 := HRS.out.bx.c1
      have HC2 := Lib.hid HRS.out.bl.cell
      have k0 := rc_c0 HC2.out
      have k1 := rc_c1 HC2.out
      have kf := rc_fz HC2.out
      have kl := rc_lt HC2.out
      have z0 := rc_c0 (rc_put HC2.out (.int .i64 3) (.int .i64 q.line))
      have z1 := rc_c1 (rc_put HC2.out (.int .i64 3) (.int .i64 q.line))
      go_wp2_with fail
      refine bodyPost_ret (v := .agg #[.int .i64 3, .int .i64 q.line]) ?_ rfl ⟨3, q.line, rfl, rfl, rfl, HRS.out.bl.pop.pop.res hB HJ.out _ _⟩
      simp [results, Tryd.results48, go_sem, k0, k1, z0, z1, kl]
    · exfalso
      rw [HKK.out] at k1; cases k1
  | some q' =>
    simp only
    have HKK := Lib.hid hkf
    have hes := (keepF_es hkf).1
    have hop0 := (keepF_es hkf).2.1
    have KC : Hid (∀ W wv ev wS, RS B R ((w0.put (w.heap.size + 1) 230 L).put w.heap.size 0 0) W s q' start wv ev wS → Calls Tryd.prog 60 #[.pointer (some ⟨R, 0, none⟩)] W fun e w' => e = .returned (.tuple #[]) ∧ Hid (∃ wv' ev', RC B R ((w0.put (w.heap.size + 1) 230 L).put w.heap.size 0 0) w' s (closeF q') start wv' ev')) := fun W wv ev wS hW => close65 B R _ W s q' start wv ev wS hW (by rw [hes]; exact he)
    clear h hP HX hk hd HA HA2 HB hkf hc hes hop0
    by_cases hop : 0 < q'.op
    · rw [if_pos hop]
      have hop' : (0 : Int) < (q'.op : Int) := by omega
      clear hop
      go_enter Tryd.func48, Tryd.ntmps48
      go_wp2_with fail
      refine (K13.out _).mono ?_
      rintro e w1 ⟨rfl, rfl⟩
      go_wp2_with fail
      refine (K46.out _).mono ?_
      rintro e w1 ⟨rfl, rfl⟩
      go_wp2_with fail
      refine KK.out.mono ?_
      rintro e w2 ⟨er, rfl, H2⟩
      rcases H2.out with ⟨k1, rfl, wv2, ev2, wS2, k3⟩ | ⟨rfl, q2, k1, wv2, ev2, wS2, k3⟩
      · exfalso
        rw [HKK.out] at k1; cases k1
      · rw [HKK.out] at k1
        cases k1
        have HRS := Lib.hid k3
        clear H2 k3
        have c2 := HRS.out.bx.c2
        have HC2 := Lib.hid HRS.out.bl.cell
        have HC3 := Lib.hid HRS.out.bl.pop.cell
        have k0 := rc_c0 HC2.out
        have k1 := rc_c1 HC2.out
        have l0 := rc_c0 HC3.out
        have l1 := rc_c1 HC3.out
        have kf := rc_fz HC2.out
        have kl := rc_lt HC2.out
        have z0 := rc_c0 (rc_put HC2.out (.int .i64 230) (.int .i64 L))
        have z1 := rc_c1 (rc_put HC2.out (.int .i64 230) (.int .i64 L))
        go_wp2_with fail
        refine bodyPost_ret (v := .agg #[.int .i64 230, .int .i64 L]) ?_ rfl ⟨230, L, rfl, rfl, rfl, HRS.out.bl.pop.pop.res hB HJ.out _ _⟩
        simp [results, Tryd.results48, go_sem, k0, k1, z0, z1, kl]
    · rw [if_neg hop]
      have hop' : ¬ (0 : Int) < (q'.op : Int) := by omega
      clear hop
      go_enter Tryd.func48, Tryd.ntmps48
      go_wp2_with fail
      refine (K13.out _).mono ?_
      rintro e w1 ⟨rfl, rfl⟩
      go_wp2_with fail
      refine (K46.out _).mono ?_
      rintro e w1 ⟨rfl, rfl⟩
      go_wp2_with fail
      refine KK.out.mono ?_
      rintro e w2 ⟨er, rfl, H2⟩
      rcases H2.out with ⟨k1, rfl, wv2, ev2, wS2, k3⟩ | ⟨rfl, q2, k1, wv2, ev2, wS2, k3⟩
      · exfalso
        rw [HKK.out] at k1; cases k1
      · rw [HKK.out] at k1
        cases k1
        have HRS := Lib.hid k3
        clear H2 k3
        have c2 := HRS.out.bx.c2
        go_wp2_with fail
        refine (KC.out _ _ _ _ HRS.out).mono ?_
        rintro e w3 ⟨rfl, H3⟩
        obtain ⟨wv', ev', hrc⟩ := H3.out
        have HRC := Lib.hid hrc
        clear hrc H3
        have HC2 := Lib.hid HRC.out.bl.cell
        have k0 := rc_c0 HC2.out
        have k1 := rc_c1 HC2.out
        have kf := rc_fz HC2.out
        have kl := rc_lt HC2.out
        have z0 := rc_c0 (rc_put HC2.out (.int .i64 0) (.int .i64 0))
        have z1 := rc_c1 (rc_put HC2.out (.int .i64 0) (.int .i64 0))
        go_wp2_with fail
        refine bodyPost_ret (v := .agg #[.int .i64 0, .int .i64 0]) ?_ rfl ⟨0, 0, rfl, rfl, rfl, _, _, _, _, rfl, (HRC.out.pop.pop).res HC2.out hB HJ.out _ _⟩
        simp [results, Tryd.results48, go_sem, k0, k1, z0, z1, kl]
end Go.Proofs.YtgdkeafjglcgaaaDoor
