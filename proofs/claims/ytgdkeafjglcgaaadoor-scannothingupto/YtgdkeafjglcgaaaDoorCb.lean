/- strings.IndexAny of a text of at most eight bytes with the three bytes 10, 34, 92: it returns, and where it says none no byte is a line's end. -/
import Derived.Test.YtgdkeafjglcgaaaDoorCa
import Derived.WalkSmall
namespace Go.Proofs.YtgdkeafjglcgaaaDoor
open Go.ChangeShapes Go.WideShapes Go.ChangeAt Go.RowKit
set_option linter.unusedVariables false
set_option linter.unusedSimpArgs false

/-- IndexRune of any rune in the three bytes: it returns; a rune 10 is found. -/
theorem rune49_any (r : Int) (w : World) (h0 : 0 ≤ r) (h1 : r ≤ 2147483647) : Calls Tryd.prog 49 #[.string C3, .int .i32 r] w fun e w' => ∃ z, e = .returned (.int .i64 z) ∧ (r = 10 → 0 ≤ z) ∧ Below w.heap.size w w' := by
  by_cases ha : r < 128
  · refine (Tryd.strings_IndexRune_ascii C3 r w h0 ha).mono ?_
    rintro e w' ⟨rfl, rfl⟩
    refine ⟨_, rfl, fun h => ?_, Below.refl _ _⟩
    subst h; decide
  · by_cases he : r = 65533
    · subst he
      refine (rune49_err w).mono ?_
      rintro e w' ⟨z, rfl, hb⟩
      exact ⟨z, rfl, fun h => absurd h (by omega), hb⟩
    · refine (rune49_high r w (by omega) h1 he).mono ?_
      rintro e w' ⟨z, rfl, hb⟩
      exact ⟨z, rfl, fun h => absurd h (by omega), hb⟩

/-- Reading on from pos: all bytes below pos are no line's end. -/
def Clr (s : ByteArray) (pos : Nat) : Prop := ∀ k (h : k < s.size), k < pos → s[k]'h ≠ 10
theorem dec_no10 (s : ByteArray) (pos j : Nat) (hj : j < (Utf8.decode s pos).2) (hg : (s.get! (pos + j)).toNat = 10) : (Utf8.decode s pos).1 = 10 := by
  by_cases h0 : j = 0
  · subst h0
    simp [Utf8.decode] at hg ⊢
    simp [hg]
  · exfalso
    rcases (by omega : j = 1 ∨ j = 2 ∨ j = 3 ∨ 4 ≤ j) with rfl | rfl | rfl | h4
    all_goals revert hj
    all_goals simp only [Utf8.decode]
    all_goals repeat' split
    all_goals intro hj
    all_goals try simp only at hj
    all_goals try simp only [Bool.and_eq_true, beq_iff_eq, decide_eq_true_eq, Nat.add_zero] at *
    all_goals omega
theorem wid_pos (s : ByteArray) (pos : Nat) : 1 ≤ (Utf8.decode s pos).2 := by
  simp only [Utf8.decode]
  repeat' split
  all_goals simp
theorem Clr.on {s : ByteArray} {pos : Nat} (h : Clr s pos) (hp : pos < s.size) (hr : (Utf8.decode s pos).1 ≠ 10) : Clr s (pos + (Utf8.decode s pos).2) := by
  intro k hk hlt h10
  by_cases hk2 : k < pos
  · exact h k hk hk2 h10
  · refine hr (dec_no10 s pos (k - pos) (by omega) ?_)
    have : pos + (k - pos) = k := by omega
    have hga := get_at s k hk
    rw [Nat.add_zero] at hga
    rw [this, hga, h10]; rfl
theorem Clr.all {s : ByteArray} {pos : Nat} (h : Clr s pos) (hp : ¬ pos < s.size) : ∀ x ∈ s.data.toList, x ≠ 10 := by
  intro x hx
  obtain ⟨k, hk, rfl⟩ := List.getElem_of_mem hx
  have hk2 : k < s.size := by simpa using hk
  exact h k hk2 (by omega)

set_option maxRecDepth 100000 in
set_option maxHeartbeats 2000000 in
theorem any28_short (s : ByteArray) (w : World) (hs : s.size ≤ 8) : Calls Tryd.prog 28 #[.string s, .string C3] w fun e w' => ∃ z : Int, e = .returned (.int .i64 z) ∧ (z < 0 → ∀ x ∈ s.data.toList, x ≠ 10) ∧ Below w.heap.size w w' := by
  have hl8 : decide ((8 : Int) < (s.size : Int)) = false := by simp; omega
  have hc3 : C3.size = 3 := rfl
  have hce : C3.toList.isEmpty = false := by kernel_rfl
  have K50 := Lib.hid (fun W => Tryd.strings_shouldUseASCIISet (s.size : Int) W)
  rw [hl8] at K50
  clear hl8
  go_enter Tryd.func28, Tryd.ntmps28
  go_wp2_with (first | (go_at_call 50; refine (K50.out _).mono ?_; rintro e w ⟨rfl, rfl⟩) | fail)
  go_loopw [4] (fun _ wr => ∃ pos : Nat, wr.heap[w.heap.size]? = some (.stringIter s pos) ∧ Below w.heap.size w wr ∧ Hid (Clr s pos)) (fun _ wr => s.size - wr.iterPos w.heap.size)
  case atStart => exact ⟨0, World.iter_heap w s 0, (Below.refl _ _).alloc (Nat.le_refl _) _, fun k h hk => absurd hk (by omega)⟩
  case round =>
    obtain ⟨pos, hit, hbw, HC⟩ := hrel
    have hpos0 := iterPos_of hit
    by_cases hp : pos < s.size
    · have hnx : ∀ ty, (Instr.next (.pointer (some ⟨w.heap.size, 0, none⟩)) true ty).run Tryd.prog wr = _ := fun ty => Lib.run_next_any_at wr w.heap.size s pos ty hit hp
      have hwd := wid_pos s pos
      have hr1 := decode_le s pos
      have hit2 := Lib.iterAt_heap wr w.heap.size s pos (pos + (Utf8.decode s pos).2) hit
      have hbw2 := Lib.below_iterAt hbw (k := w.heap.size) (Nat.le_refl _) s (pos + (Utf8.decode s pos).2)
      have HO := Lib.hid (fun hr => HC.out.on hp hr)
      obtain ⟨W1, hW1⟩ : ∃ W1, W1 = wr.iterAt w.heap.size s (pos + (Utf8.decode s pos).2) := ⟨_, rfl⟩
      rw [← hW1] at hnx hit2 hbw2
      have K49 := Lib.hid (rune49_any (((Utf8.decode s pos).1 : Nat) : Int) W1 (by omega) (by omega))
      have hBlt := lt_of_block hit2
      have hp2 : pos < pos + (Utf8.decode s pos).2 := by omega
      generalize (Utf8.decode s pos).1 = r at *
      generalize pos + (Utf8.decode s pos).2 = pos2 at *
      clear hW1 hit hbw HC
      go_wp2_with fail
      refine K49.out.mono ?_
      rintro e w2 ⟨z, rfl, hz, hb2⟩
      have hb3 : Below w.heap.size w w2 := hbw2.trans (hb2.mono (by have := hbw2.size; omega))
      have hit3 : w2.heap[w.heap.size]? = some (.stringIter s pos2) := by rw [hb2.block _ hBlt]; exact hit2
      clear hb2 hit2
      by_cases hzn : 0 ≤ z
      · have hzd : decide (z ≥ 0) = true := by simpa using hzn
        go_wp2_with fail
        go_ret
        exact ⟨_, rfl, fun h => absurd h (by omega), hb3⟩
      · have hzd : decide (z ≥ 0) = false := by simpa using hzn
        have hr10 : r ≠ 10 := fun h => hzn (hz (by omega))
        clear hz
        go_wp2_with fail
        go_roundw
        case rel => exact ⟨pos2, hit3, hb3, HO.out hr10⟩
        case measure => rw [iterPos_of hit3, hpos0]; omega
    · have hnx : ∀ ty, (Instr.next (.pointer (some ⟨w.heap.size, 0, none⟩)) true ty).run Tryd.prog wr = _ := fun ty => Lib.run_next_end_at wr w.heap.size s pos ty hit hp
      go_wp2_with fail
      go_ret
      exact ⟨_, rfl, fun _ => HC.out.all hp, hbw⟩
end Go.Proofs.YtgdkeafjglcgaaaDoor
