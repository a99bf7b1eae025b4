/- A writer that is none; SqueezeNone's walk. -/
import Derived.Test.YtfnpiknobmecbaaSqo
namespace Go.Proofs.Ytfnpiknobmecbaa
open Go.ChangeShapes Go.WideShapes Go.ChangeAt Go.RowKit Go.Maps
set_option linter.unusedVariables false
set_option linter.unusedSimpArgs false

/-- A writer that is none: nil, or one that nobody made. -/
def NoW (w : World) (p : Option Addr) : Prop := p = none ∨ ∃ g, p = some ⟨g, 0, none⟩ ∧ g < w.heap.size ∧ w.cell? ⟨g, 0, none⟩ = some (.pointer none)
theorem NoW.below {w w' : World} {p : Option Addr} (h : NoW w p) (hb : Below w.heap.size w w') : NoW w' p := by
  rcases h with h | ⟨g, h1, h2, h3⟩
  · exact .inl h
  · exact .inr ⟨g, h1, Nat.lt_of_lt_of_le h2 hb.size, cell_below hb h2 h3⟩
theorem made_no (p : Option Addr) (w : World) (h : NoW w p) : Calls Try.prog 37 #[.pointer p] w fun e w' => e = .returned (.bool false) ∧ w' = w := by
  rcases h with rfl | ⟨g, rfl, h2, h3⟩
  · exact made_nil w
  · exact made_zero g w h3 h2
set_option maxRecDepth 100000 in
set_option maxHeartbeats 1000000 in
theorem name_none (p : Option Addr) (a : Option Addr) (n c : Nat) (back : Bool) (w : World) (h : NoW w p) : Calls Try.prog 22 #[.pointer p, .slice a n c, .bool back] w fun e w' => e = .returned (.int .i64 1) ∧ w' = w := by
  have KM := Lib.hid (made_no p w h)
  clear h
  go_enter Try.func22, Try.ntmps22
  go_wp2_with fail
  refine KM.out.mono ?_
  rintro e w1 ⟨rfl, rfl⟩
  go_wp2
  go_ret
  exact ⟨rfl, rfl⟩
set_option maxRecDepth 100000 in
set_option maxHeartbeats 1000000 in
theorem bytes_none (p : Option Addr) (a : Option Addr) (n c : Nat) (w : World) (h : NoW w p) : Calls Try.prog 23 #[.pointer p, .slice a n c] w fun e w' => e = .returned (.int .i64 1) ∧ w' = w := by
  have KM := Lib.hid (made_no p w h)
  clear h
  go_enter Try.func23, Try.ntmps23
  go_wp2_with fail
  refine KM.out.mono ?_
  rintro e w1 ⟨rfl, rfl⟩
  go_wp2
  go_ret
  exact ⟨rfl, rfl⟩
set_option maxRecDepth 100000 in
set_option maxHeartbeats 1000000 in
theorem set_none (p : Option Addr) (x y : Int) (w : World) (h : NoW w p) : Calls Try.prog 24 #[.pointer p, .int .i64 x, .int .i64 y] w fun e w' => e = .returned (.int .i64 1) ∧ w' = w := by
  have KM := Lib.hid (made_no p w h)
  clear h
  go_enter Try.func24, Try.ntmps24
  go_wp2_with fail
  refine KM.out.mono ?_
  rintro e w1 ⟨rfl, rfl⟩
  go_wp2
  go_ret
  exact ⟨rfl, rfl⟩
set_option maxRecDepth 100000 in
set_option maxHeartbeats 1000000 in
theorem cut_none (p : Option Addr) (x : Int) (w : World) (h : NoW w p) : Calls Try.prog 25 #[.pointer p, .int .i64 x] w fun e w' => e = .returned (.int .i64 1) ∧ Hid (Below w.heap.size w w') := by
  have KM := Lib.hid (made_no p _ (h.below (new_below w (.cells #[.int .i64 x] 3))))
  clear h
  go_enter Try.func25, Try.ntmps25
  go_wp2_with fail
  refine KM.out.mono ?_
  rintro e w1 ⟨rfl, rfl⟩
  go_wp2
  go_ret
  exact ⟨rfl, new_below _ _⟩
set_option maxRecDepth 100000 in
set_option maxHeartbeats 1000000 in
theorem len_none (p : Option Addr) (w : World) (h : NoW w p) : Calls Try.prog 26 #[.pointer p] w fun e w' => e = .returned (.int .i64 0) ∧ w' = w := by
  have KM := Lib.hid (made_no p w h)
  clear h
  go_enter Try.func26, Try.ntmps26
  go_wp2_with fail
  refine KM.out.mono ?_
  rintro e w1 ⟨rfl, rfl⟩
  go_wp2
  go_ret
  exact ⟨rfl, rfl⟩
set_option maxRecDepth 100000 in
set_option maxHeartbeats 1000000 in
theorem all_none (p : Option Addr) (w : World) (h : NoW w p) : Calls Try.prog 12 #[.pointer p] w fun e w' => e = .returned (.slice none 0 0) ∧ w' = w := by
  have KM := Lib.hid (made_no p w h)
  clear h
  go_enter Try.func12, Try.ntmps12
  go_wp2_with fail
  refine KM.out.mono ?_
  rintro e w1 ⟨rfl, rfl⟩
  go_wp2
  go_ret
  exact ⟨rfl, rfl⟩
set_option maxRecDepth 100000 in
set_option maxHeartbeats 4000000 in
theorem noneL (a : Option Addr) (n c : Nat) (b : Option Addr) (len cap : Nat) (d : Int) (w : World) :
    Calls Try.prog 5 #[.slice a n c, .slice b len cap, .int .i64 d] w fun e w' => e = .returned (.bool true) ∧ Below w.heap.size w w' := by
  have hB0 : Below w.heap.size w ((w.alloc (.cells #[.pointer none, .slice none 0 0, .map none] 50)).alloc (.cells #[.pointer none, .pointer (some ⟨w.heap.size, 0, none⟩)] 24)) := ((Below.refl _ w).alloc (Nat.le_refl _) _).alloc (by simp) _
  have hz0 : ((w.alloc (.cells #[.pointer none, .slice none 0 0, .map none] 50)).alloc (.cells #[.pointer none, .pointer (some ⟨w.heap.size, 0, none⟩)] 24)).heap.size = w.heap.size + 2 := by simp
  have hc0 : ((w.alloc (.cells #[.pointer none, .slice none 0 0, .map none] 50)).alloc (.cells #[.pointer none, .pointer (some ⟨w.heap.size, 0, none⟩)] 24)).cell? ⟨w.heap.size + 1, 0, none⟩ = some (.pointer none) := by simp [go_sem]
  have hc1 : ((w.alloc (.cells #[.pointer none, .slice none 0 0, .map none] 50)).alloc (.cells #[.pointer none, .pointer (some ⟨w.heap.size, 0, none⟩)] 24)).cell? ⟨w.heap.size + 1, 1, none⟩ = some (.pointer (some ⟨w.heap.size, 0, none⟩)) := by simp [go_sem]
  have hcb : ((w.alloc (.cells #[.pointer none, .slice none 0 0, .map none] 50)).alloc (.cells #[.pointer none, .pointer (some ⟨w.heap.size, 0, none⟩)] 24)).cell? ⟨w.heap.size, 0, none⟩ = some (.pointer none) := by simp [go_sem]
  have HB0 := Lib.hid hB0
  have HC : Hid (((w.alloc (.cells #[.pointer none, .slice none 0 0, .map none] 50)).alloc (.cells #[.pointer none, .pointer (some ⟨w.heap.size, 0, none⟩)] 24)).cell? ⟨w.heap.size + 1, 0, none⟩ = some (.pointer none) ∧ ((w.alloc (.cells #[.pointer none, .slice none 0 0, .map none] 50)).alloc (.cells #[.pointer none, .pointer (some ⟨w.heap.size, 0, none⟩)] 24)).cell? ⟨w.heap.size + 1, 1, none⟩ = some (.pointer (some ⟨w.heap.size, 0, none⟩)) ∧ ((w.alloc (.cells #[.pointer none, .slice none 0 0, .map none] 50)).alloc (.cells #[.pointer none, .pointer (some ⟨w.heap.size, 0, none⟩)] 24)).cell? ⟨w.heap.size, 0, none⟩ = some (.pointer none)) := ⟨hc0, hc1, hcb⟩
  have HZ := Lib.hid hz0
  clear hB0 hz0 hc0 hc1 hcb
  go_enter Try.func5, Try.ntmps5
  go_wp2_with fail
  generalize ((w.alloc (.cells #[.pointer none, .slice none 0 0, .map none] 50)).alloc (.cells #[.pointer none, .pointer (some ⟨w.heap.size, 0, none⟩)] 24)) = W0 at *
  go_loopw [8] (fun i wr => ∃ k : Nat, k ≤ 2 ∧ i = .int .i64 k ∧ Hid (Below W0.heap.size W0 wr)) (fun i _ => 2 - (intOf i).toNat)
  case atStart => exact ⟨0, by omega, rfl, Below.refl _ _⟩
  case round =>
    obtain ⟨k, hk, rfl, HB⟩ := hrel
    have hlt1 : w.heap.size + 1 < wr.heap.size := by have := HB.out.size; have := HZ.out; omega
    have d0 : wr.cell? ⟨w.heap.size + 1, 0, none⟩ = some (.pointer none) := cell_below HB.out (by have := HZ.out; omega) HC.out.1
    have d1 : wr.cell? ⟨w.heap.size + 1, 1, none⟩ = some (.pointer (some ⟨w.heap.size, 0, none⟩)) := cell_below HB.out (by have := HZ.out; omega) HC.out.2.1
    have hcase : k = 0 ∨ k = 1 ∨ k = 2 := by omega
    rcases hcase with rfl | rfl | rfl
    · have NWr : Hid (NoW wr none) := .inl rfl
      go_wp2_with fail
      refine (name_none (none) _ _ _ _ wr NWr.out).mono ?_
      rintro e w1 ⟨rfl, rfl⟩
      go_wp2_with fail
      refine (bytes_none (none) _ _ _ w1 NWr.out).mono ?_
      rintro e w2 ⟨rfl, rfl⟩
      go_wp2_with fail
      refine (set_none (none) _ _ w2 NWr.out).mono ?_
      rintro e w3 ⟨rfl, rfl⟩
      go_wp2_with fail
      refine (cut_none (none) _ w3 NWr.out).mono ?_
      rintro e w4 ⟨rfl, H4⟩
      have NW4 : Hid (NoW w4 (none)) := NWr.out.below H4.out
      go_wp2_with fail
      refine (len_none (none) w4 NW4.out).mono ?_
      rintro e w5 ⟨rfl, rfl⟩
      go_wp2_with fail
      refine (all_none (none) w5 NW4.out).mono ?_
      rintro e w6 ⟨rfl, rfl⟩
      go_wp2_with fail
      go_roundw
      case rel => exact ⟨1, by omega, by go_num, HB.out.trans (H4.out.mono HB.out.size)⟩
      case measure => simp [intOf]
    · have NWr : Hid (NoW wr (some ⟨w.heap.size, 0, none⟩)) := .inr ⟨w.heap.size, rfl, by omega, cell_below HB.out (by have := HZ.out; omega) HC.out.2.2⟩
      go_wp2_with fail
      refine (name_none (some ⟨w.heap.size, 0, none⟩) _ _ _ _ wr NWr.out).mono ?_
      rintro e w1 ⟨rfl, rfl⟩
      go_wp2_with fail
      refine (bytes_none (some ⟨w.heap.size, 0, none⟩) _ _ _ w1 NWr.out).mono ?_
      rintro e w2 ⟨rfl, rfl⟩
      go_wp2_with fail
      refine (set_none (some ⟨w.heap.size, 0, none⟩) _ _ w2 NWr.out).mono ?_
      rintro e w3 ⟨rfl, rfl⟩
      go_wp2_with fail
      refine (cut_none (some ⟨w.heap.size, 0, none⟩) _ w3 NWr.out).mono ?_
      rintro e w4 ⟨rfl, H4⟩
      have NW4 : Hid (NoW w4 (some ⟨w.heap.size, 0, none⟩)) := NWr.out.below H4.out
      go_wp2_with fail
      refine (len_none (some ⟨w.heap.size, 0, none⟩) w4 NW4.out).mono ?_
      rintro e w5 ⟨rfl, rfl⟩
      go_wp2_with fail
      refine (all_none (some ⟨w.heap.size, 0, none⟩) w5 NW4.out).mono ?_
      rintro e w6 ⟨rfl, rfl⟩
      go_wp2_with fail
      go_roundw
      case rel => exact ⟨2, by omega, by go_num, HB.out.trans (H4.out.mono HB.out.size)⟩
      case measure => simp [intOf]
    · go_wp2_with fail
      refine (awake_any wr).mono ?_
      rintro e w1 ⟨rfl, H1⟩
      go_wp2
      go_ret
      have q := HB0.out.trans (HB.out.mono HB0.out.size)
      exact ⟨rfl, q.trans (H1.out.mono q.size)⟩
end Go.Proofs.Ytfnpiknobmecbaa
