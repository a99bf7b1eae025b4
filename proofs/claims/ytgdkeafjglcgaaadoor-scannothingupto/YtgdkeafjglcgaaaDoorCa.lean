/- strings.IndexRune of a rune that is no ASCII byte, in the text of the three bytes 10, 34, 92. -/
import Derived.Test.YtgdkeafjglcgaaaDoorShn
import Derived.Test.YtgdkeafjglcgaaaDoorOwn
import Derived.Lib.OthersKept
import Derived.Lib.Hide
import Derived.Laws.RangeAny
import Derived.Laws.Runes
import Derived.WalkMore
namespace Go.Proofs.YtgdkeafjglcgaaaDoor
open Go.ChangeShapes Go.WideShapes Go.ChangeAt Go.RowKit
set_option linter.unusedVariables false
set_option linter.unusedSimpArgs false

def C3 : ByteArray := ⟨#[10, 34, 92]⟩
theorem iter_below (w : World) (i : Nat) : Below w.heap.size w (w.iter C3 i) := by
  have h : w.iter C3 i = w.alloc (.stringIter C3 i) := rfl
  rw [h]; exact Below.alloc (Below.refl _ _) (Nat.le_refl _) _
set_option maxRecDepth 100000 in
set_option maxHeartbeats 2000000 in
theorem rune49_err (w : World) : Calls Tryd.prog 49 #[.string C3, .int .i32 65533] w fun e w' => ∃ z, e = .returned (.int .i64 z) ∧ Below w.heap.size w w' := by
  have n0 := fun ty => run_next_ascii (P := Tryd.prog) w C3 0 ty (by decide) (by decide)
  have n1 := fun ty => run_next_ascii (P := Tryd.prog) w C3 1 ty (by decide) (by decide)
  have n2 := fun ty => run_next_ascii (P := Tryd.prog) w C3 2 ty (by decide) (by decide)
  have n3 := fun ty => run_next_end (P := Tryd.prog) w C3 3 ty (by decide)
  have d0 : (C3[0]'(by decide)).toNat = 10 := by decide
  have d1 : (C3[1]'(by decide)).toNat = 34 := by decide
  have d2 : (C3[2]'(by decide)).toNat = 92 := by decide
  rw [d0] at n0; rw [d1] at n1; rw [d2] at n2
  have hb : Hid (∀ i, Below w.heap.size w (w.iter C3 i)) := fun i => iter_below w i
  go_enter Tryd.func49, Tryd.ntmps49
  go_wp2_with fail
  go_loopg [5, 6] 3 (fun g _ _ wx => ∃ i : Nat, i + g = 3 ∧ wx = w.iter C3 i)
  case atStart => exact ⟨0, by omega, rfl⟩
  case round =>
    obtain ⟨i, hig, rfl⟩ := hrel
    rcases (by omega : i = 0 ∨ i = 1 ∨ i = 2 ∨ i = 3) with rfl | rfl | rfl | rfl
    · obtain ⟨g, rfl⟩ : ∃ g, gk = g + 1 := ⟨2, by omega⟩
      go_wp2_with fail
      go_roundg g
      case measure => omega
      case rel => exact ⟨1, by omega, rfl⟩
    · obtain ⟨g, rfl⟩ : ∃ g, gk = g + 1 := ⟨1, by omega⟩
      go_wp2_with fail
      go_roundg g
      case measure => omega
      case rel => exact ⟨2, by omega, rfl⟩
    · obtain ⟨g, rfl⟩ : ∃ g, gk = g + 1 := ⟨0, by omega⟩
      go_wp2_with fail
      go_roundg g
      case measure => omega
      case rel => exact ⟨3, by omega, rfl⟩
    · go_wp2_with fail
      go_ret
      exact ⟨_, rfl, hb.out 3⟩

theorem quiet2 {P : Program} {f : FuncId} {args : Array Value} {w : World} {k x : Nat} {v : Value} (h : Calls P f args (w.drewN (k + x)) fun e w' => e = .returned v ∧ w' = w.drewN (k + x)) : Calls P f args (w.drewN (k + x)) fun e w'' => e = .returned v ∧ ∃ m, w'' = w.drewN (k + m) := h.mono fun _ _ ⟨he, hm⟩ => ⟨he, x, hm⟩
theorem c3_one : (C3.extract 2 3).data.toList = [92] := by rfl
theorem c3_low : ∀ x ∈ (C3.extract 2 3).data.toList, x.toNat < 128 := by rw [c3_one]; simp
theorem ba_low : ∀ x ∈ ByteArray.empty.data.toList, x.toNat < 128 := by intro x hx; cases hx
theorem idx_none (b : UInt8) : ∀ l : List UInt8, (∀ x ∈ l, x ≠ b) → Lib.indexByte l b = -1
  | [], _ => rfl
  | x :: l, h => by
    have h1 := h x (by simp)
    have h2 := idx_none b l (fun y hy => h y (by simp [hy]))
    simp [Lib.indexByte, h1, h2]
set_option maxRecDepth 100000 in
set_option maxHeartbeats 2000000 in
theorem rune49_high (r : Int) (w : World) (h0 : 128 ≤ r) (h1 : r ≤ 2147483647) (hne : r ≠ 65533) : Calls Tryd.prog 49 #[.string C3, .int .i32 r] w fun e w' => ∃ z, e = .returned (.int .i64 z) ∧ Below w.heap.size w w' := by
  have hl : ¬ r < 128 := by omega
  have hg : (0 : Int) ≤ r := by omega
  have hq : (r == 65533) = false := by simpa using hne
  have KV := Lib.hid (fun W => Tryd.utf8_ValidRune r W)
  cases hv : Lib.validRune r with
  | false =>
    rw [hv] at KV
    go_enter Tryd.func49, Tryd.ntmps49
    go_wp2_with fail
    refine (KV.out _).mono ?_
    rintro e w1 ⟨rfl, rfl⟩
    go_wp2_with fail
    go_ret
    exact ⟨_, rfl, Below.refl _ _⟩
  | true =>
    rw [hv] at KV
    have hu : Utf8.valid r = true := by
      simp [Lib.validRune] at hv
      simp [Utf8.valid]; omega
    obtain ⟨e1, e2, e3⟩ := encode_facts r hu h0
    have e4 := e3 (by omega)
    clear e3 hu hv
    obtain ⟨bt, hbt⟩ : ∃ b : UInt8, b = (Utf8.encode r)[(Utf8.encode r).size - 1]'(by omega) := ⟨_, rfl⟩
    rw [← hbt] at e4
    rcases (by omega : (Utf8.encode r).size = 2 ∨ (Utf8.encode r).size = 3 ∨ (Utf8.encode r).size = 4) with hz | hz | hz
    · have hb1 : (Utf8.encode r)[1]'(by omega) = bt := by rw [hbt]; simp only [hz]
      have hne1 : ((34 : Int) == (bt.toNat : Int)) = false := by simp; omega
      have hne2 : ¬ (34 : Int) = (bt.toNat : Int) := by omega
      have hc3 : C3.size = 3 := rfl
      have hw2 : IntKind.i64.wrap 2 = 2 := by decide
      have hw3 : IntKind.i64.wrap 3 = 3 := by decide
      have hcb : C3[1]'(by decide) = 34 := rfl
      have KB : Hid (∀ W, Calls Tryd.prog 62 #[.string (C3.extract 2 3), .int .u8 (bt.toNat : Int)] W fun e w' => e = .returned (.int .i64 (-1)) ∧ w' = W) := fun W => by
        have := Tryd.strings_IndexByte (C3.extract 2 3) (bt.toNat : Int) W
        rw [idx_none _ _ (fun x hx e => by have h2 := c3_low x hx; rw [e] at h2; simp at h2; omega)] at this
        exact this
      clear hbt e1 e2
      go_enter Tryd.func49, Tryd.ntmps49
      go_wp2_with fail
      refine (KV.out _).mono ?_
      rintro e w1 ⟨rfl, rfl⟩
      go_wp2_with fail
      go_step3
      go_wp2_with fail
      go_loopw [9, 10] (fun u y wr => u = .int .i64 1 ∧ y = .int .i64 0 ∧ wr = w1) (fun _ _ _ => 0)
      case atStart => exact ⟨rfl, rfl, rfl⟩
      case round =>
        obtain ⟨rfl, rfl, rfl⟩ := hrel
        go_wp2_with fail
        go_step3
        go_wp2_with fail
        go_quiet (fail)
        go_wp2_with fail
        go_quiet (first | (go_at_call 62; exact quiet2 (KB.out _)) | fail)
        go_wp2_with fail
        change bodyPost Tryd.prog Tryd.f49 (fun e w' => ∃ z, e = Ending.returned (Value.int IntKind.i64 z) ∧ Below wr.heap.size wr w') Exit.ret _ _
        go_ret
        exact ⟨_, rfl, ⟨rfl, rfl, rfl, Nat.le_refl _, fun _ _ => rfl⟩⟩
    · have hb1 : (Utf8.encode r)[2]'(by omega) = bt := by rw [hbt]; simp only [hz]
      have hne1 : ((92 : Int) == (bt.toNat : Int)) = false := by simp; omega
      have hne2 : ¬ (92 : Int) = (bt.toNat : Int) := by omega
      have hc3 : C3.size = 3 := rfl
      have hw2 : IntKind.i64.wrap 2 = 2 := by decide
      have hw3 : IntKind.i64.wrap 3 = 3 := by decide
      have hcb : C3[2]'(by decide) = 92 := rfl
      have KB : Hid (∀ W, Calls Tryd.prog 62 #[.string ByteArray.empty, .int .u8 (bt.toNat : Int)] W fun e w' => e = .returned (.int .i64 (-1)) ∧ w' = W) := fun W => by
        have := Tryd.strings_IndexByte ByteArray.empty (bt.toNat : Int) W
        rw [idx_none _ _ (fun x hx e => by have h2 := ba_low x hx; rw [e] at h2; simp at h2; omega)] at this
        exact this
      clear hbt e1 e2
      go_enter Tryd.func49, Tryd.ntmps49
      go_wp2_with fail
      refine (KV.out _).mono ?_
      rintro e w1 ⟨rfl, rfl⟩
      go_wp2_with fail
      go_step3
      go_wp2_with fail
      go_loopw [9, 10] (fun u y wr => u = .int .i64 2 ∧ y = .int .i64 0 ∧ wr = w1) (fun _ _ _ => 0)
      case atStart => exact ⟨rfl, rfl, rfl⟩
      case round =>
        obtain ⟨rfl, rfl, rfl⟩ := hrel
        go_wp2_with fail
        go_step3
        go_wp2_with fail
        go_quiet (fail)
        go_wp2_with fail
        go_quiet (first | (go_at_call 62; exact quiet2 (KB.out _)) | fail)
        go_wp2_with fail
        change bodyPost Tryd.prog Tryd.f49 (fun e w' => ∃ z, e = Ending.returned (Value.int IntKind.i64 z) ∧ Below wr.heap.size wr w') Exit.ret _ _
        go_ret
        exact ⟨_, rfl, ⟨rfl, rfl, rfl, Nat.le_refl _, fun _ _ => rfl⟩⟩
    · clear hbt e1 e2
      go_enter Tryd.func49, Tryd.ntmps49
      go_wp2_with fail
      refine (KV.out _).mono ?_
      rintro e w1 ⟨rfl, rfl⟩
      go_wp2_with fail
      go_step3
      go_wp2_with fail
      go_loopw [9, 10] (fun u y wr => u = .int .i64 3 ∧ y = .int .i64 0 ∧ wr = w1) (fun _ _ _ => 0)
      case atStart => exact ⟨rfl, rfl, rfl⟩
      case round =>
        obtain ⟨rfl, rfl, rfl⟩ := hrel
        go_wp2_with fail
        rw [Exit.noGoto_ret]
        go_ret
        exact ⟨_, rfl, Below.refl _ _⟩
end Go.Proofs.YtgdkeafjglcgaaaDoor
