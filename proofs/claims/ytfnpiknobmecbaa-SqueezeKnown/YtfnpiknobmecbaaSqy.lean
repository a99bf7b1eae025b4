/- A writer's Set and Cut, as far as the chapter's examples go. -/
import Derived.Test.YtfnpiknobmecbaaSqo
import Derived.Maps.RangeWalk
import Derived.Deep.QuietTactic
import Derived.BigQuiet
namespace Go.Proofs.Ytfnpiknobmecbaa
open Go.ChangeShapes Go.WideShapes Go.ChangeAt Go.RowKit Go.Maps
set_option linter.unusedVariables false
set_option linter.unusedSimpArgs false

theorem keyOf_str_inv {key : Value} {kl : Lit} (h : keyOf Try.prog 9 key = some kl) : ∃ x, key = .string x := by
  cases key <;> simp [keyOf, Try.underlying9, mapKey] at h ⊢
set_option maxRecDepth 100000 in
set_option maxHeartbeats 1000000 in
theorem delf_empty (mb : Nat) (fv : Value) (w : World) (h : PlM w mb []) : Calls Try.prog 46 #[.map (some mb), fv] w fun e w' => e = .returned (.tuple #[]) ∧ Hid (Below w.heap.size w w') := by
  obtain ⟨M, hown, _⟩ := h
  have hsz : Maps.size M = 0 := by have := hown.size_le; simpa using this
  go_enter Try.func46, Try.ntmps46
  go_wp2_with (at_range; refine wpList_range_own _ rfl _ 48 rfl 9 3 law9 Try.underlying48 _ mb 0 M rfl hown ?_; intro w0 hrg0 hg0 hs0)
  go_frame
  go_loopw [4] (fun _ wr => wr = w0) (fun _ _ => 0)
  case atStart => rfl
  case round =>
    subst hrel
    rw [hsz] at hrg0
    go_wp2_with (at_next; refine wpList_next_ranges _ rfl _ rfl 9 law9 (plainElem Try.prog 3) Value.string (Value.int .i64) (fun key kl hk => keyOf_str_inv hk) (fun v y hv => (by obtain ⟨c, rfl, _⟩ := plainElem_int_inv Try.underlying3 hv; exact ⟨c, rfl⟩)) mb _ 0 M _ 0 rfl hrg0 ?_ ?_)
    intro _
    go_wp2
    go_end0
    exact ⟨rfl, ⟨hg0.os, hg0.tape, hg0.output, hg0.size, fun k hk => hg0.block k hk (by simp)⟩⟩
set_option maxRecDepth 100000 in
set_option maxHeartbeats 1000000 in
theorem wset_at (B g : Nat) (tx : List Int) (pl : List (ByteArray × Nat)) (T at_ : Nat) (n : Int) (w : World) (h : Wr B w g tx pl) (hT : tx.length = T) (ht : T ≤ 65535) (hn : 0 ≤ n ∧ n ≤ 65535) (ha : (T : Int) - 2 < (at_ : Int)) :
    Calls Try.prog 24 #[.pointer (some ⟨g, 0, none⟩), .int .i64 at_, .int .i64 n] w fun e w' => e = .returned (.int .i64 2) ∧ Hid (Below w.heap.size w w') := by
  obtain ⟨v, ys, mb, h⟩ := h
  have hg := box_lt h.box
  have c0 : w.cell? ⟨g, 0, none⟩ = some (.pointer (some ⟨g, 0, none⟩)) := box_cell h.box 0 _ rfl
  have c1 : w.cell? ⟨g, 1, none⟩ = some v := box_cell h.box 1 _ rfl
  obtain ⟨ao, hv, _⟩ := h.own.addr
  rw [hT] at hv
  subst hv
  generalize ys.length = TC at *
  have KM := Lib.hid (made_yes g w c0 hg)
  have KP : Hid (Calls Try.prog 45 #[.int .i64 n] w fun e w' => e = .returned (.tuple #[.slice (some ⟨w.heap.size, 0, none⟩) 2 2, .int .i64 0]) ∧ Hid (Below w.heap.size w w')) := (put16_yes n w hn.1 hn.2).mono fun e w' h => ⟨h.1, by rw [h.2]; exact new_below _ _⟩
  clear h
  go_enter Try.func24, Try.ntmps24
  go_wp2_with fail
  refine KM.out.mono ?_
  rintro e w1 ⟨rfl, rfl⟩
  go_wp2_with fail
  refine KP.out.mono ?_
  rintro e w2 ⟨rfl, H2⟩
  have d1 : w2.cell? ⟨g, 1, none⟩ = some (.slice ao T TC) := cell_below H2.out hg c1
  have hg2 : g < w2.heap.size := Nat.lt_of_lt_of_le hg H2.out.size
  go_wp2
  go_ret
  exact ⟨rfl, H2⟩
set_option maxRecDepth 100000 in
set_option maxHeartbeats 1000000 in
theorem wset_big (B g : Nat) (tx : List Int) (pl : List (ByteArray × Nat)) (at_ : Int) (n : Int) (w : World) (h : Wr B w g tx pl) (hn : 65535 < n) :
    Calls Try.prog 24 #[.pointer (some ⟨g, 0, none⟩), .int .i64 at_, .int .i64 n] w fun e w' => e = .returned (.int .i64 2) ∧ Hid (Below w.heap.size w w') := by
  obtain ⟨v, ys, mb, h⟩ := h
  have hg := box_lt h.box
  have c0 : w.cell? ⟨g, 0, none⟩ = some (.pointer (some ⟨g, 0, none⟩)) := box_cell h.box 0 _ rfl
  have KM := Lib.hid (made_yes g w c0 hg)
  have KP := Lib.hid (put16_no n w (.inr ⟨by omega, hn⟩))
  clear h
  go_enter Try.func24, Try.ntmps24
  go_wp2_with fail
  refine KM.out.mono ?_
  rintro e w1 ⟨rfl, rfl⟩
  go_wp2_with fail
  refine KP.out.mono ?_
  rintro e w2 ⟨rfl, rfl⟩
  go_wp2
  go_ret
  exact ⟨rfl, Below.refl _ _⟩
theorem Own.cutTo {B : Nat} {w : World} {ao : Option Addr} {n m c : Nat} {ys : List Int} (h : Own B w (.slice ao n c) n ys) (hm : m ≤ n) (h0 : ao ≠ none) : Own B w (.slice ao m c) m ys := by
  rcases h with ⟨e, _⟩ | ⟨g, e, h1, h2, h3, h4⟩
  · cases e; exact absurd rfl h0
  · injection e with e1 e2 e3
    subst e1 e3
    exact .inr ⟨g, rfl, h1, h2, by omega, h4⟩
set_option maxRecDepth 100000 in
set_option maxHeartbeats 2000000 in
theorem wcut_yes (B g : Nat) (tx : List Int) (T at_ : Nat) (w : World) (h : Wr B w g tx []) (hT : tx.length = T) (ht : 1 ≤ T ∧ T ≤ 65535) (ha : at_ ≤ T) (hB : B ≤ w.heap.size) :
    Calls Try.prog 25 #[.pointer (some ⟨g, 0, none⟩), .int .i64 at_] w fun e w' => e = .returned (.int .i64 0) ∧ Hid (Wr B w' g (tx.take at_) [] ∧ Fr B w w') := by
  obtain ⟨v, ys, mb, h⟩ := h
  have hb0 := new_below w (.cells #[.int .i64 (at_ : Int)] 3)
  have h' := h.below hb0
  have hg := box_lt h'.box
  have hgw := box_lt h.box
  have c0 := box_cell h'.box 0 _ rfl
  have c1 : (w.alloc (.cells #[.int .i64 (at_ : Int)] 3)).cell? ⟨g, 1, none⟩ = some v := box_cell h'.box 1 _ rfl
  have c2 : (w.alloc (.cells #[.int .i64 (at_ : Int)] 3)).cell? ⟨g, 2, none⟩ = some (.map (some mb)) := box_cell h'.box 2 _ rfl
  have f1 := box_frozen h'.box 1
  have bx : Boxed (w.alloc (.cells #[.int .i64 (at_ : Int)] 3)) w.heap.size 3 (.int .i64 (at_ : Int)) := Boxed.new w 3 _
  obtain ⟨ao, hv, hA⟩ := h.own.addr
  rw [hT] at hv
  subst hv
  have hao : ao ≠ none := by
    intro e
    have := hA.nil e
    have := hA.le
    rw [hT] at this
    omega
  have HW : Hid (Wr1 B (w.alloc (.cells #[.int .i64 (at_ : Int)] 3)) g tx [] (.slice ao T ys.length) ys mb) := h'
  have HTT : Hid (tx.length = T) := hT
  obtain ⟨x, rfl⟩ : ∃ x, ao = some x := by cases ao with | none => exact absurd rfl hao | some x => exact ⟨x, rfl⟩
  have hTc : T ≤ ys.length := by have := hA.le; rw [hT] at this; exact this.1
  have hc63 : ys.length ≤ 9223372036854775807 := by have := hA.le; unfold maxLen at this; omega
  have HBW : Hid (B ≤ (w.alloc (.cells #[.int .i64 (at_ : Int)] 3)).heap.size ∧ Fr B w (w.alloc (.cells #[.int .i64 (at_ : Int)] 3))) := ⟨by simp; omega, Fr.of hb0 hB⟩
  have KM := Lib.hid (made_yes g _ c0 hg)
  have hgs : g < w.heap.size := hgw
  have hsb : w.heap.size < (w.alloc (.cells #[.int .i64 (at_ : Int)] 3)).heap.size := by simp
  have d0 := bx.cell
  have hne : g ≠ w.heap.size := by omega
  clear h h' hA hT hb0 bx hao
  go_enter Try.func25, Try.ntmps25
  go_wp2_with fail
  refine KM.out.mono ?_
  rintro e w1 ⟨rfl, hw1⟩
  rw [← hw1] at c1 c2 f1 d0 hg HW HBW hsb
  clear hw1 KM c0
  generalize ys.length = TC at *
  have k1 : decide ((at_ : Int) < 0) = false := by simp
  have k2 : (at_ : Int) ≤ (T : Int) := by omega
  have HST := Lib.hid (HW.out.stored (World.grownBy.refl _ _) (tx' := tx.take at_) (v' := .slice (some x) at_ TC) (ys' := ys) (by rw [List.length_take, HTT.out, Nat.min_eq_left ha]; exact (by have := HW.out.own; rw [HTT.out] at this; exact this.cutTo ha (by simp))) (by rw [List.length_take, HTT.out, Nat.min_eq_left ha]; have := HW.out.txt; rw [HTT.out] at this; rw [← this, List.take_take, Nat.min_eq_left ha]) HBW.out.1)
  have hk2 : ¬ (T : Int) < (at_ : Int) := by omega
  have hkT : (at_ : Int) ≤ (TC : Int) := by omega
  have k3 : decide ((T : Int) < (at_ : Int)) = false := by simp; omega
  go_wp2_with fail
  go_quiet (fail)
  go_wp2_with fail
  go_region
  have HS2 : Hid (Wr1 B ((w1.drewN (nq + 1)).setCell ⟨g, 1, none⟩ (.slice (some x) at_ TC)) g (tx.take at_) [] (.slice (some x) at_ TC) ys mb ∧ Fr B w1 ((w1.drewN (nq + 1)).setCell ⟨g, 1, none⟩ (.slice (some x) at_ TC))) :=
    ⟨⟨HST.out.1.box, HST.out.1.gB, HST.out.1.mB, HST.out.1.own, HST.out.1.txt, HST.out.1.map⟩, ⟨⟨HST.out.2.below.os, HST.out.2.below.tape, HST.out.2.below.output, HST.out.2.below.size, HST.out.2.below.block⟩, HST.out.2.oth⟩⟩
  generalize (w1.drewN (nq + 1)).setCell ⟨g, 1, none⟩ (.slice (some x) at_ TC) = w2 at *
  have e2 : w2.cell? ⟨g, 2, none⟩ = some (.map (some mb)) := box_cell HS2.out.1.box 2 _ rfl
  have hg2 : g < w2.heap.size := box_lt HS2.out.1.box
  have KD : Hid (∀ fv, Calls Try.prog 46 #[.map (some mb), fv] w2 fun e w' => e = .returned (.tuple #[]) ∧ Hid (Below w2.heap.size w2 w')) := fun fv => delf_empty mb fv w2 HS2.out.1.map
  clear HST HW c1 c2 f1 d0
  go_wp2_with fail
  refine (KD.out _).mono ?_
  rintro e w3 ⟨rfl, H3⟩
  go_wp2
  go_ret
  have hB2 : B ≤ w2.heap.size := Nat.le_trans HBW.out.1 HS2.out.2.below.size
  exact ⟨rfl, ⟨_, _, _, HS2.out.1.below H3.out⟩, (HBW.out.2.trans HS2.out.2).trans (Fr.of H3.out hB2)⟩
set_option maxRecDepth 100000 in
set_option maxHeartbeats 2000000 in
theorem wcut_no (B g : Nat) (tx : List Int) (pl : List (ByteArray × Nat)) (T at_ : Nat) (w : World) (h : Wr B w g tx pl) (hT : tx.length = T) (ha : T < at_) (ha2 : at_ ≤ 9223372036854775807) :
    Calls Try.prog 25 #[.pointer (some ⟨g, 0, none⟩), .int .i64 at_] w fun e w' => e = .returned (.int .i64 2) ∧ Hid (Below w.heap.size w w') := by
  obtain ⟨v, ys, mb, h⟩ := h
  have hb0 := new_below w (.cells #[.int .i64 (at_ : Int)] 3)
  have h' := h.below hb0
  have hg := box_lt h'.box
  have c0 := box_cell h'.box 0 _ rfl
  have c1 : (w.alloc (.cells #[.int .i64 (at_ : Int)] 3)).cell? ⟨g, 1, none⟩ = some v := box_cell h'.box 1 _ rfl
  have bx : Boxed (w.alloc (.cells #[.int .i64 (at_ : Int)] 3)) w.heap.size 3 (.int .i64 (at_ : Int)) := Boxed.new w 3 _
  obtain ⟨ao, hv, hA⟩ := h.own.addr
  rw [hT] at hv
  subst hv
  have KM := Lib.hid (made_yes g _ c0 hg)
  have d0 := bx.cell
  have hsb : w.heap.size < (w.alloc (.cells #[.int .i64 (at_ : Int)] 3)).heap.size := by simp
  have HBW := Lib.hid hb0
  clear h h' hA hT hb0 bx
  go_enter Try.func25, Try.ntmps25
  go_wp2_with fail
  refine KM.out.mono ?_
  rintro e w1 ⟨rfl, hw1⟩
  rw [← hw1] at c1 d0 hg hsb HBW
  clear hw1 KM c0
  generalize ys.length = TC at *
  have k1 : decide ((at_ : Int) < 0) = false := by simp
  have k3 : decide ((T : Int) < (at_ : Int)) = true := by simp; omega
  have k4 : (T : Int) < (at_ : Int) := by omega
  go_wp2_with fail
  go_quiet (fail)
  go_wp2_with fail
  go_ret
  exact ⟨rfl, ⟨HBW.out.os, HBW.out.tape, HBW.out.output, HBW.out.size, HBW.out.block⟩⟩
end Go.Proofs.Ytfnpiknobmecbaa
