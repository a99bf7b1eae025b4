/- The document's reading in memory; faults, pairs, lines. -/
import Derived.Test.YtgdkeafjglcgaaaDa
import Derived.Test.YtgdkeafjglcgaaaSt
import Derived.Test.YtgdkeafjglcgaaaSs
import Derived.Deep.QuietTactic
import Derived.Maps.AppendAt
namespace Go.Proofs.Ytgdkeafjglcgaaa
open Go.ChangeShapes Go.WideShapes Go.ChangeAt Go.RowKit
set_option linter.unusedVariables false
set_option linter.unusedSimpArgs false

def Dx (w : World) (X : Nat) (s : ByteArray) (p ln : Nat) (op : Int) (bl : Bool) (el : Int) (eb : Bool) (wv ev : Value) (fe fl : Int) : Prop :=
  w.heap[X]? = some (.cells #[.string s, .int .i64 (p : Int), .int .i64 (ln : Int), .int .i64 op, .bool bl, .int .i64 el, .bool eb, wv, ev, .int .i64 fe, .int .i64 fl] 96 (0, 0))
section
variable {w : World} {X : Nat} {s : ByteArray} {p ln : Nat} {op : Int} {bl : Bool} {el : Int} {eb : Bool} {wv ev : Value} {fe fl : Int}
theorem Dx.lt (h : Dx w X s p ln op bl el eb wv ev fe fl) : X < w.heap.size := (Array.getElem?_eq_some_iff.1 h).1
theorem Dx.c0 (h : Dx w X s p ln op bl el eb wv ev fe fl) : w.cell? ⟨X, 0, none⟩ = some (.string s) := by unfold Dx at h; simp [World.cell?, h]
theorem Dx.c1 (h : Dx w X s p ln op bl el eb wv ev fe fl) : w.cell? ⟨X, 1, none⟩ = some (.int .i64 (p : Int)) := by unfold Dx at h; simp [World.cell?, h]
theorem Dx.c2 (h : Dx w X s p ln op bl el eb wv ev fe fl) : w.cell? ⟨X, 2, none⟩ = some (.int .i64 (ln : Int)) := by unfold Dx at h; simp [World.cell?, h]
theorem Dx.c3 (h : Dx w X s p ln op bl el eb wv ev fe fl) : w.cell? ⟨X, 3, none⟩ = some (.int .i64 op) := by unfold Dx at h; simp [World.cell?, h]
theorem Dx.c4 (h : Dx w X s p ln op bl el eb wv ev fe fl) : w.cell? ⟨X, 4, none⟩ = some (.bool bl) := by unfold Dx at h; simp [World.cell?, h]
theorem Dx.c5 (h : Dx w X s p ln op bl el eb wv ev fe fl) : w.cell? ⟨X, 5, none⟩ = some (.int .i64 el) := by unfold Dx at h; simp [World.cell?, h]
theorem Dx.c6 (h : Dx w X s p ln op bl el eb wv ev fe fl) : w.cell? ⟨X, 6, none⟩ = some (.bool eb) := by unfold Dx at h; simp [World.cell?, h]
theorem Dx.c7 (h : Dx w X s p ln op bl el eb wv ev fe fl) : w.cell? ⟨X, 7, none⟩ = some (wv) := by unfold Dx at h; simp [World.cell?, h]
theorem Dx.c8 (h : Dx w X s p ln op bl el eb wv ev fe fl) : w.cell? ⟨X, 8, none⟩ = some (ev) := by unfold Dx at h; simp [World.cell?, h]
theorem Dx.c9 (h : Dx w X s p ln op bl el eb wv ev fe fl) : w.cell? ⟨X, 9, none⟩ = some (.int .i64 fe) := by unfold Dx at h; simp [World.cell?, h]
theorem Dx.c10 (h : Dx w X s p ln op bl el eb wv ev fe fl) : w.cell? ⟨X, 10, none⟩ = some (.int .i64 fl) := by unfold Dx at h; simp [World.cell?, h]
theorem Dx.fz (h : Dx w X s p ln op bl el eb wv ev fe fl) (i : Nat) : w.frozen? ⟨X, i, none⟩ = false := by unfold Dx at h; simp [World.frozen?, h]
theorem Dx.same {w' : World} (h : Dx w X s p ln op bl el eb wv ev fe fl) (hb : w'.heap[X]? = w.heap[X]?) : Dx w' X s p ln op bl el eb wv ev fe fl := hb.trans h
theorem Dx.not_lst (h : Dx w X s p ln op bl el eb wv ev fe fl) : ¬ lst w X := by
  rintro ⟨cur, t, h1, h2⟩
  unfold Dx at h
  rw [h] at h1
  cases h1
  simp at h2
theorem Dx.p1 (h : Dx w X s p ln op bl el eb wv ev fe fl) (n : Nat) : Dx (w.setCell ⟨X, 1, none⟩ (.int .i64 (n : Int))) X s n ln op bl el eb wv ev fe fl := by
  have := heap_set h 1 (.int .i64 (n : Int)); simpa [Dx] using this
theorem Dx.p2 (h : Dx w X s p ln op bl el eb wv ev fe fl) (n : Nat) : Dx (w.setCell ⟨X, 2, none⟩ (.int .i64 (n : Int))) X s p n op bl el eb wv ev fe fl := by
  have := heap_set h 2 (.int .i64 (n : Int)); simpa [Dx] using this
theorem Dx.p3 (h : Dx w X s p ln op bl el eb wv ev fe fl) (n : Int) : Dx (w.setCell ⟨X, 3, none⟩ (.int .i64 n)) X s p ln n bl el eb wv ev fe fl := by
  have := heap_set h 3 (.int .i64 n); simpa [Dx] using this
theorem Dx.p4 (h : Dx w X s p ln op bl el eb wv ev fe fl) (n : Bool) : Dx (w.setCell ⟨X, 4, none⟩ (.bool n)) X s p ln op n el eb wv ev fe fl := by
  have := heap_set h 4 (.bool n); simpa [Dx] using this
theorem Dx.p5 (h : Dx w X s p ln op bl el eb wv ev fe fl) (n : Int) : Dx (w.setCell ⟨X, 5, none⟩ (.int .i64 n)) X s p ln op bl n eb wv ev fe fl := by
  have := heap_set h 5 (.int .i64 n); simpa [Dx] using this
theorem Dx.p6 (h : Dx w X s p ln op bl el eb wv ev fe fl) (n : Bool) : Dx (w.setCell ⟨X, 6, none⟩ (.bool n)) X s p ln op bl el n wv ev fe fl := by
  have := heap_set h 6 (.bool n); simpa [Dx] using this
theorem Dx.p7 (h : Dx w X s p ln op bl el eb wv ev fe fl) (n : Value) : Dx (w.setCell ⟨X, 7, none⟩ (n)) X s p ln op bl el eb n ev fe fl := by
  have := heap_set h 7 (n); simpa [Dx] using this
theorem Dx.p8 (h : Dx w X s p ln op bl el eb wv ev fe fl) (n : Value) : Dx (w.setCell ⟨X, 8, none⟩ (n)) X s p ln op bl el eb wv n fe fl := by
  have := heap_set h 8 (n); simpa [Dx] using this
theorem Dx.p9 (h : Dx w X s p ln op bl el eb wv ev fe fl) (n : Int) : Dx (w.setCell ⟨X, 9, none⟩ (.int .i64 n)) X s p ln op bl el eb wv ev n fl := by
  have := heap_set h 9 (.int .i64 n); simpa [Dx] using this
theorem Dx.p10 (h : Dx w X s p ln op bl el eb wv ev fe fl) (n : Int) : Dx (w.setCell ⟨X, 10, none⟩ (.int .i64 n)) X s p ln op bl el eb wv ev fe n := by
  have := heap_set h 10 (.int .i64 n); simpa [Dx] using this
end
/-- Only the block X is written. -/
def Onl (X : Nat) (w w' : World) : Prop := w.grownBy w' (some X)
theorem Onl.refl (X : Nat) (w : World) : Onl X w w := World.grownBy.refl _ _
theorem Onl.trans {X : Nat} {a b c : World} (h : Onl X a b) (k : Onl X b c) : Onl X a c := World.grownBy.trans h k
theorem Onl.set {X : Nat} {a b : World} (h : Onl X a b) (i : Nat) (v : Value) : Onl X a (b.setCell ⟨X, i, none⟩ v) :=
  h.trans ⟨rfl, rfl, rfl, by simp, fun k _ hk => Below.heap_setCell _ _ _ _ (fun e => hk (by simp [e]))⟩
theorem Onl.dn {X : Nat} {a b : World} (h : Onl X a b) (n : Nat) : Onl X a (b.drewN n) := h.trans ⟨rfl, rfl, rfl, Nat.le_refl _, fun _ _ _ => rfl⟩
theorem Onl.of_below {X : Nat} {w w' : World} (h : Below w.heap.size w w') : Onl X w w' := ⟨h.os, h.tape, h.output, h.size, fun k hk _ => h.block k hk⟩
set_option maxRecDepth 100000 in
set_option maxHeartbeats 400000 in
theorem rblank78 (z : Int) (w : World) : Calls Try.prog 78 #[.int .u8 z] w fun e w' => e = .returned (.bool (isBz z)) ∧ w' = w := by
  go_enter Try.func78, Try.ntmps78
  go_wp2
  all_goals
    go_ret
    exact ⟨ret_bool (by simp_all [isBz]), rfl⟩
set_option maxRecDepth 100000 in
set_option maxHeartbeats 400000 in
theorem rends85 (z : Int) (w : World) : Calls Try.prog 85 #[.int .u8 z] w fun e w' => e = .returned (.bool (endsz z)) ∧ w' = w := by
  have K := Lib.hid (fun w => rblank78 z w)
  go_enter Try.func85, Try.ntmps85
  go_wp2_with fail
  refine (K.out _).mono ?_
  rintro e w1 ⟨rfl, rfl⟩
  cases hb : isBz z with
  | true =>
    go_wp2
    all_goals
      go_ret
      exact ⟨ret_bool (by simp_all [endsz]), rfl⟩
  | false =>
    go_wp2
    all_goals
      go_ret
      exact ⟨ret_bool (by simp_all [endsz]), rfl⟩
set_option maxRecDepth 100000 in
set_option maxHeartbeats 400000 in
theorem rlit26 (v : Wd) (w : World) (hs : v.1.size ≤ 4611686018427387904) : Calls Try.prog 26 #[.agg #[.string v.1, .bool v.2]] w fun e w' => e = .returned (.string (wtx v)) ∧ Hid (Below w.heap.size w w') := by
  obtain ⟨s, q⟩ := v
  simp only at hs ⊢
  have HB : Hid (Below w.heap.size w (w.alloc (.cells #[.string s, .bool q] 27))) := alp_below _ _
  cases q
  · go_enter Try.func26, Try.ntmps26
    go_wp2_with fail
    go_ret
    exact ⟨by simp [wtx, wtxt], HB.out⟩
  · go_enter Try.func26, Try.ntmps26
    go_wp2_with fail
    go_ret
    refine ⟨?_, HB.out⟩
    have : (⟨#[34]⟩ : ByteArray) ++ s ++ ⟨#[34]⟩ = wtx (s, true) := by
      apply ByteArray.ext
      apply Array.ext'
      simp [wtx, wtxt]
    rw [← this]; rfl
def LnP (w : World) (e : Ending) (w' : World) : Prop := ∃ z : Int, e = .returned (.int .i64 z) ∧ w' = w
set_option maxRecDepth 100000 in
set_option maxHeartbeats 1000000 in
theorem rlines72 (s : ByteArray) (w : World) (hs : s.size ≤ 100000) : Calls Try.prog 72 #[.string s] w (LnP w) := by
  go_enter Try.func72, Try.ntmps72
  go_wp2_with fail
  go_loopw [3, 4] (fun u y wr => ∃ k T : Nat, k ≤ s.size ∧ T ≤ k ∧ u = .int .i64 (T : Int) ∧ y = .int .i64 (k : Int) ∧ wr = w) (fun _ y _ => s.size - (intOf y).toNat)
  case atStart => exact ⟨0, 0, Nat.zero_le _, Nat.le_refl _, rfl, rfl, rfl⟩
  case round =>
    obtain ⟨k, T, hk, hT, rfl, rfl, hw⟩ := hrel
    subst hw
    by_cases hlt : k < s.size
    · have hlt' : (k : Int) < (s.size : Int) := by omega
      by_cases h10 : ((s[k].toNat : Nat) : Int) = 10
      · have h11 : (((s[k].toNat : Nat) : Int) == 10) = true := by simpa using h10
        go_wp2_with fail
        go_round
        case rel => exact ⟨k + 1, T + 1, by omega, by omega, by go_num, by go_num, trivial⟩
        case measure => simp [intOf]; omega
      · have h11 : (((s[k].toNat : Nat) : Int) == 10) = false := by simpa using h10
        go_wp2_with fail
        go_round
        case rel => exact ⟨k + 1, T, by omega, by omega, rfl, by go_num, trivial⟩
        case measure => simp [intOf]; omega
    · have hge : ¬ (k : Int) < (s.size : Int) := by omega
      have hTb : T ≤ 100000 := by omega
      by_cases h0 : s.size = 0
      · have h0' : ¬ (0 : Int) < (s.size : Int) := by omega
        go_wp2_with fail
        go_ret
        exact ⟨_, rfl, rfl⟩
      · have h0' : (0 : Int) < (s.size : Int) := by omega
        have hl1 : s.size - 1 < s.size := by omega
        have hl2 : (s.size : Int) - 1 < (s.size : Int) := by omega
        have hl3 : (0 : Int) ≤ (s.size : Int) - 1 := by omega
        have hl4 : ((s.size : Int) - 1).toNat = s.size - 1 := by omega
        go_wp2
        all_goals
          go_ret
          exact ⟨_, rfl, rfl⟩

set_option maxRecDepth 100000 in
set_option maxHeartbeats 1000000 in
theorem fault71_ok {X : Nat} {w : World} {s : ByteArray} {p ln : Nat} {op : Int} {bl : Bool} {el : Int} {eb : Bool} {wv ev : Value} {fl : Int} (h : Dx w X s p ln op bl el eb wv ev 0 fl) (e l : Int) :
    Calls Try.prog 71 #[.pointer (some ⟨X, 0, none⟩), .int .i64 e, .int .i64 l] w fun r w' => r = .returned (.tuple #[]) ∧ Hid (Dx w' X s p ln op bl el eb wv ev e l ∧ Onl X w w') := by
  have c9 := h.c9
  have c10 := h.c10
  have f9 := h.fz 9
  have f10 := h.fz 10
  have hlt := h.lt
  have HF : Hid (Dx ((w.setCell ⟨X, 9, none⟩ (.int .i64 e)).setCell ⟨X, 10, none⟩ (.int .i64 l)) X s p ln op bl el eb wv ev e l ∧ Onl X w ((w.setCell ⟨X, 9, none⟩ (.int .i64 e)).setCell ⟨X, 10, none⟩ (.int .i64 l))) := ⟨(h.p9 e).p10 l, ((Onl.refl X w).set 9 _).set 10 _⟩
  clear h
  go_enter Try.func71, Try.ntmps71
  go_wp2_with fail
  go_end0
  exact ⟨rfl, HF⟩
set_option maxRecDepth 100000 in
set_option maxHeartbeats 1000000 in
theorem fault71_no {X : Nat} {w : World} {s : ByteArray} {p ln : Nat} {op : Int} {bl : Bool} {el : Int} {eb : Bool} {wv ev : Value} {fe fl : Int} (h : Dx w X s p ln op bl el eb wv ev fe fl) (hf : ¬ fe = 0) (e l : Int) :
    Calls Try.prog 71 #[.pointer (some ⟨X, 0, none⟩), .int .i64 e, .int .i64 l] w fun r w' => r = .returned (.tuple #[]) ∧ w' = w := by
  have c9 := h.c9
  have hlt := h.lt
  have hf2 : (fe == 0) = false := by simpa using hf
  clear h
  go_enter Try.func71, Try.ntmps71
  go_wp2_with fail
  go_end0
  exact ⟨rfl, rfl⟩
set_option maxRecDepth 100000 in
set_option maxHeartbeats 1000000 in
theorem pair84_yes {X : Nat} {w : World} {s : ByteArray} {p ln : Nat} {op : Int} {bl : Bool} {el : Int} {eb : Bool} {wv ev : Value} {fl : Int} (h : Dx w X s p ln op bl el eb wv ev 0 fl) (hs : s.size ≤ 100000) (hp : p + 1 < s.size) (h10 : s[p + 1] ≠ 10) :
    Calls Try.prog 84 #[.pointer (some ⟨X, 0, none⟩)] w fun r w' => r = .returned (.bool true) ∧ Hid (Dx w' X s (p + 2) ln op bl el eb wv ev 0 fl ∧ Onl X w w') := by
  have c0 := h.c0
  have c1 := h.c1
  have f1 := h.fz 1
  have hlt := h.lt
  have hp1 : ¬ (s.size : Int) ≤ (p : Int) + 1 := by omega
  have hp2 : (p : Int) + 1 < (s.size : Int) := by omega
  have hp3 : (0 : Int) ≤ (p : Int) + 1 := by omega
  have hp4 : ((p : Int) + 1).toNat = p + 1 := by omega
  have hn : ¬ ((s[p + 1].toNat : Nat) : Int) = 10 := fun e => h10 (by rw [← UInt8.toNat_inj]; show s[p + 1].toNat = 10; omega)
  have hn2 : (((s[p + 1].toNat : Nat) : Int) == 10) = false := by simpa using hn
  have HF : Hid (∀ n, Dx ((w.drewN n).setCell ⟨X, 1, none⟩ (.int .i64 ((p : Int) + 2))) X s (p + 2) ln op bl el eb wv ev 0 fl ∧ Onl X w ((w.drewN n).setCell ⟨X, 1, none⟩ (.int .i64 ((p : Int) + 2)))) := fun n => ⟨(by have := (h.same (w' := w.drewN n) rfl).p1 (p + 2); simpa using this), ((Onl.refl X w).dn n).set 1 _⟩
  clear h h10
  go_enter Try.func84, Try.ntmps84
  go_wp2_with fail
  go_quiet (fail)
  go_wp2_with fail
  go_quiet (fail)
  go_wp2_with fail
  go_ret
  exact ⟨rfl, HF.out _⟩
set_option maxRecDepth 100000 in
set_option maxHeartbeats 1000000 in
theorem pair84_no {X : Nat} {w : World} {s : ByteArray} {p ln : Nat} {op : Int} {bl : Bool} {el : Int} {eb : Bool} {wv ev : Value} {fl : Int} (h : Dx w X s p ln op bl el eb wv ev 0 fl) (hs : s.size ≤ 100000) (hp : p < s.size) (hno : ∀ h : p + 1 < s.size, s[p + 1] = 10) :
    Calls Try.prog 84 #[.pointer (some ⟨X, 0, none⟩)] w fun r w' => r = .returned (.bool false) ∧ Hid (∃ fl', Dx w' X s p ln op bl el eb wv ev 230 fl' ∧ Onl X w w') := by
  have c0 := h.c0
  have c1 := h.c1
  have c2 := h.c2
  have hlt := h.lt
  have HD := Lib.hid h
  by_cases hq : p + 1 < s.size
  · have h10 := hno hq
    have hp1 : ¬ (s.size : Int) ≤ (p : Int) + 1 := by omega
    have hp2 : (p : Int) + 1 < (s.size : Int) := by omega
    have hp3 : (0 : Int) ≤ (p : Int) + 1 := by omega
    have hp4 : ((p : Int) + 1).toNat = p + 1 := by omega
    have hn : ((s[p + 1].toNat : Nat) : Int) = 10 := by rw [h10]; rfl
    have hn2 : (((s[p + 1].toNat : Nat) : Int) == 10) = true := by simpa using hn
    have K71 : Hid (∀ n, Calls Try.prog 71 #[.pointer (some ⟨X, 0, none⟩), .int .i64 230, .int .i64 (ln : Int)] (w.drewN n) fun r w' => r = .returned (.tuple #[]) ∧ Hid (Dx w' X s p ln op bl el eb wv ev 230 (ln : Int) ∧ Onl X (w.drewN n) w')) := fun n => fault71_ok (HD.out.same (w' := w.drewN n) rfl) 230 (ln : Int)
    clear h hno h10
    go_enter Try.func84, Try.ntmps84
    go_wp2_with fail
    go_quiet (fail)
    go_wp2_with fail
    go_quiet (fail)
    go_wp2_with fail
    refine (K71.out _).mono ?_
    rintro e w1 ⟨rfl, H1⟩
    go_wp2_with fail
    go_ret
    exact ⟨rfl, _, H1.out.1, ((Onl.refl X w).dn _).trans H1.out.2⟩
  · have hp1 : (s.size : Int) ≤ (p : Int) + 1 := by omega
    have K72 := Lib.hid (fun W => rlines72 s W hs)
    have K71 : Hid (∀ n (z : Int), Calls Try.prog 71 #[.pointer (some ⟨X, 0, none⟩), .int .i64 230, .int .i64 z] (w.drewN n) fun r w' => r = .returned (.tuple #[]) ∧ Hid (Dx w' X s p ln op bl el eb wv ev 230 z ∧ Onl X (w.drewN n) w')) := fun n z => fault71_ok (HD.out.same (w' := w.drewN n) rfl) 230 z
    clear h hno
    go_enter Try.func84, Try.ntmps84
    go_wp2_with fail
    go_quiet (fail)
    go_wp2_with fail
    refine (K72.out _).mono ?_
    rintro e w1 ⟨z, rfl, rfl⟩
    go_wp2_with fail
    refine (K71.out _ _).mono ?_
    rintro e w1 ⟨rfl, H1⟩
    go_wp2_with fail
    go_ret
    exact ⟨rfl, _, H1.out.1, ((Onl.refl X w).dn _).trans H1.out.2⟩
end Go.Proofs.Ytgdkeafjglcgaaa
