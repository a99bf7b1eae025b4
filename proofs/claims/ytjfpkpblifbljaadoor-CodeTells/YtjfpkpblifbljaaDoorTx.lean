/- The statement about words of numbers: its walk, from beginning to end. -/
import Derived.Test.YtjfpkpblifbljaaDoorTw
namespace Go.Proofs.YtjfpkpblifbljaaDoor
open Go.ChangeShapes Go.WideShapes Go.ChangeAt Go.RowKit
set_option linter.unusedVariables false
set_option linter.unusedSimpArgs false

/-- Where the walk stands. -/
def AtT (w W : World) : Prop := LayT W ∧ Below w.heap.size w W
theorem AtT.go {w W W' : World} (h : AtT w W) (hb : Below W.heap.size W W') : AtT w W' := ⟨h.1.below hb, h.2.trans (hb.mono h.2.size)⟩
theorem told_in (ps : Own4) (pre : List UInt8) (most n : Nat) (h : n ≤ most) : Told ps pre most (n : Int) (tellF ps pre n) 0 :=
  ⟨fun _ _ => ⟨by simp, rfl⟩, fun h' => by omega⟩

set_option maxRecDepth 100000 in
set_option maxHeartbeats 4000000 in
theorem tells_any (t c : Nat) (n : Int) (ht : t < 65536) (hc : c < 65536) (w : World) (hL : LayT w) : Calls Tryd.prog 4 #[.int .u16 t, .int .u16 c, .int .i64 n] w fun e w' => e = .returned (.bool true) ∧ Below w.heap.size w w' := by
  have H : Hid (AtT w w) := ⟨hL, Below.refl _ _⟩
  clear hL
  have hwt : IntKind.i64.wrap (t : Int) = (t : Int) := by rw [IntKind.wrap_i64]; omega
  have hwc : IntKind.i64.wrap (c : Int) = (c : Int) := by rw [IntKind.wrap_i64]; omega
  go_enter Tryd.func4, Tryd.ntmps4
  go_wp2_with fail
  refine (rcode_any n w H.out.1).mono ?_
  rintro e W1 ⟨l1, y1, rfl, HT1, HN⟩
  replace H : Hid (AtT w W1) := H.out.go HN.out
  clear HN
  go_wp2_with fail
  refine (opcode_any n W1 H.out.1).mono ?_
  rintro e W2 ⟨l2, y2, rfl, HT2, HN⟩
  replace H : Hid (AtT w W2) := H.out.go HN.out
  clear HN
  go_wp2_with fail
  refine (type_any t ht W2 H.out.1).mono ?_
  rintro e W3 ⟨rfl, HN⟩
  replace H : Hid (AtT w W3) := H.out.go HN.out
  clear HN
  go_wp2_with fail
  refine (rtypes_any W3).mono ?_
  rintro e W4 ⟨b1, b2, rfl, HR, HN⟩
  replace H : Hid (AtT w W4) := H.out.go HN.out
  clear HN
  go_wp2_with fail
  refine (told_any b1 b2 12 typesP _ 65535 (by decide) (by decide) typesW rfl (by decide) (by decide +kernel) _ _ _ (told_in typesW typesP.data.toList 65535 t (by omega)) W4 HR.out).mono ?_
  rintro e W5 ⟨rfl, HN⟩
  replace H : Hid (AtT w W5) := H.out.go HN.out
  clear HN
  clear HR
  go_wp2_with fail
  refine (class_any c hc W5 H.out.1).mono ?_
  rintro e W6 ⟨rfl, HN⟩
  replace H : Hid (AtT w W6) := H.out.go HN.out
  clear HN
  go_wp2_with fail
  refine (rclasses_any W6).mono ?_
  rintro e W7 ⟨b1, b2, rfl, HR, HN⟩
  replace H : Hid (AtT w W7) := H.out.go HN.out
  clear HN
  go_wp2_with fail
  refine (told_any b1 b2 5 classesP _ 65535 (by decide) (by decide) classesW rfl (by decide) (by decide +kernel) _ _ _ (told_in classesW classesP.data.toList 65535 c (by omega)) W7 HR.out).mono ?_
  rintro e W8 ⟨rfl, HN⟩
  replace H : Hid (AtT w W8) := H.out.go HN.out
  clear HN
  clear HR
  go_wp2_with fail
  refine (rrcodes_any W8).mono ?_
  rintro e W9 ⟨b1, b2, rfl, HR, HN⟩
  replace H : Hid (AtT w W9) := H.out.go HN.out
  clear HN
  go_wp2_with fail
  refine (told_any b1 b2 12 rcodesP _ 4095 (by decide) (by decide) rcodesW rfl (by decide) (by decide +kernel) _ _ _ (HT1.out) W9 HR.out).mono ?_
  rintro e W10 ⟨rfl, HN⟩
  replace H : Hid (AtT w W10) := H.out.go HN.out
  clear HN
  clear HR
  go_wp2_with fail
  refine (ropcodes_any W10).mono ?_
  rintro e W11 ⟨b1, b2, rfl, HR, HN⟩
  replace H : Hid (AtT w W11) := H.out.go HN.out
  clear HN
  go_wp2_with fail
  refine (told_any b1 b2 5 opcodesP _ 15 (by decide) (by decide) opcodesW rfl (by decide) (by decide +kernel) _ _ _ (HT2.out) W11 HR.out).mono ?_
  rintro e W12 ⟨rfl, HN⟩
  replace H : Hid (AtT w W12) := H.out.go HN.out
  clear HN
  clear HR
  clear HT1 HT2
  go_wp2_with fail
  refine (known_any t W12).mono ?_
  rintro e Wx ⟨rfl, rfl⟩
  go_wp2_with fail
  refine (rknown_any t ht _).mono ?_
  rintro e W13 ⟨rfl, HN⟩
  replace H : Hid (AtT w W13) := H.out.go HN.out
  clear HN
  generalize knownF (t : Int) = kn
  have hkn : (kn == kn) = true := by simp
  go_wp2_with fail
  refine (stored_any t _).mono ?_
  rintro e Wy ⟨rfl, rfl⟩
  go_wp2_with fail
  refine (rstored_any t _).mono ?_
  rintro e Wz ⟨rfl, rfl⟩
  generalize storedF (t : Int) = st
  have hst : (st == st) = true := by simp
  go_wp2_with fail
  go_ret
  exact ⟨rfl, H.out.2⟩
theorem tells_walk (t : Int) (ht : (Lit.int .u16 t).wf = true) (c : Int) (hc : (Lit.int .u16 c).wf = true) (n : Int) (hn : (Lit.int .i64 n).wf = true) (w : World) (hL : LayT w) : Calls Tryd.prog 4 #[.int .u16 t, .int .u16 c, .int .i64 n] w fun e w' => e = .returned (.bool true) ∧ Below w.heap.size w w' := by
  obtain ⟨t', rfl⟩ : ∃ k : Nat, t = (k : Int) := ⟨t.toNat, by have := u16_bd ht; omega⟩
  obtain ⟨c', rfl⟩ : ∃ k : Nat, c = (k : Int) := ⟨c.toNat, by have := u16_bd hc; omega⟩
  exact tells_any t' c' n (by have := u16_bd ht; omega) (by have := u16_bd hc; omega) w hL
end Go.Proofs.YtjfpkpblifbljaaDoor
