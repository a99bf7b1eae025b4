/- The statement about words that are read: its walk, from beginning to end. -/
import Derived.Test.YtjfpkpblifbljaaDoorRr
import Derived.Test.YtjfpkpblifbljaaDoorKnw
namespace Go.Proofs.YtjfpkpblifbljaaDoor
open Go.ChangeShapes Go.WideShapes Go.ChangeAt Go.RowKit
set_option linter.unusedVariables false
set_option linter.unusedSimpArgs false

set_option maxRecDepth 100000 in
set_option maxHeartbeats 1000000 in
theorem read_any (o : Option Nat) (x y : Int) (h : Res o x y) (w : World) : Calls Tryd.prog 11 #[.int .i64 x, .int .i64 y, .int .i64 (orNo o)] w fun e w' => e = .returned (.bool true) ∧ w' = w := by
  cases ho : o with
  | none =>
    obtain ⟨rfl, rfl⟩ := h.2 ho
    have e : orNo none = -1 := rfl
    rw [e]
    clear h
    go_enter Tryd.func11, Tryd.ntmps11
    go_wp2_with fail
    go_ret
    exact ⟨rfl, rfl⟩
  | some n =>
    obtain ⟨rfl, rfl⟩ := h.1 n ho
    have e : orNo (some n) = (n : Int) := rfl
    rw [e]
    have h0 : ¬ (n : Int) < 0 := by omega
    clear h
    go_enter Tryd.func11, Tryd.ntmps11
    go_wp2_with fail
    go_ret
    exact ⟨rfl, rfl⟩

set_option maxRecDepth 100000 in
set_option maxHeartbeats 4000000 in
theorem reads_any (s : ByteArray) (hs : s.size ≤ 9223372036854775807) (w : World) (hL : LayT w ∧ LayE w) : Calls Tryd.prog 3 #[.string s] w fun e w' => e = .returned (.bool true) ∧ Below w.heap.size w w' := by
  by_cases hlen : 2000 < s.size
  · have hlen' : (2000 : Int) < (s.size : Int) := by omega
    go_enter Tryd.func3, Tryd.ntmps3
    go_wp2_with fail
    go_ret
    exact ⟨rfl, Below.refl _ _⟩
  · have hlen' : ¬ (2000 : Int) < (s.size : Int) := by omega
    have H : Hid (At w w) := ⟨hL, Below.refl _ _⟩
    clear hL
    go_enter Tryd.func3, Tryd.ntmps3
    go_wp2_with fail
    refine (ptype_any s (by omega) w H.out.1.1 H.out.1.2).mono ?_
    rintro e W1 ⟨x1, y1, rfl, HR1, HN⟩
    replace H : Hid (At w W1) := H.out.go HN.out
    clear HN
    have hw1 : IntKind.i64.wrap x1 = x1 := by
      have hb := res_bd _ x1 y1 (fun n hn => readF_lt typesW _ 65536 _ n hn) HR1.out
      rw [IntKind.wrap_i64]; omega
    go_wp2_with fail
    refine (pclass_any s (by omega) W1 H.out.1.1 H.out.1.2).mono ?_
    rintro e W2 ⟨x2, y2, rfl, HR2, HN⟩
    replace H : Hid (At w W2) := H.out.go HN.out
    clear HN
    have hw2 : IntKind.i64.wrap x2 = x2 := by
      have hb := res_bd _ x2 y2 (fun n hn => readF_lt classesW _ 65536 _ n hn) HR2.out
      rw [IntKind.wrap_i64]; omega
    go_wp2_with fail
    refine (prcode_any s (by omega) W2 H.out.1.1 H.out.1.2).mono ?_
    rintro e W3 ⟨x3, y3, rfl, HR3, HN⟩
    replace H : Hid (At w W3) := H.out.go HN.out
    clear HN
    go_wp2_with fail
    refine (rtypes_any _).mono ?_
    rintro e W4 ⟨b1, b2, rfl, HK, HN⟩
    replace H : Hid (At w W4) := H.out.go HN.out
    clear HN
    go_wp2_with fail
    refine (rread_any b1 b2 12 typesP 65536 (by decide) typesW rfl (by decide) (by decide +kernel) (by decide) s (by omega) W4 HK.out).mono ?_
    rintro e W5 ⟨rfl, HN⟩
    replace H : Hid (At w W5) := H.out.go HN.out
    clear HN
    clear HK
    go_wp2_with fail
    refine (read_any _ x1 y1 HR1.out W5).mono ?_
    rintro e Wx1 ⟨rfl, rfl⟩
    clear HR1
    generalize orNo (readF typesW typesP.data.toList 65536 (up s).data.toList) = r1
    go_wp2_with fail
    refine (rclasses_any _).mono ?_
    rintro e W6 ⟨b1, b2, rfl, HK, HN⟩
    replace H : Hid (At w W6) := H.out.go HN.out
    clear HN
    go_wp2_with fail
    refine (rread_any b1 b2 5 classesP 65536 (by decide) classesW rfl (by decide) (by decide +kernel) (by decide) s (by omega) W6 HK.out).mono ?_
    rintro e W7 ⟨rfl, HN⟩
    replace H : Hid (At w W7) := H.out.go HN.out
    clear HN
    clear HK
    go_wp2_with fail
    refine (read_any _ x2 y2 HR2.out W7).mono ?_
    rintro e Wx2 ⟨rfl, rfl⟩
    clear HR2
    generalize orNo (readF classesW classesP.data.toList 65536 (up s).data.toList) = r2
    go_wp2_with fail
    refine (rrcodes_any _).mono ?_
    rintro e W8 ⟨b1, b2, rfl, HK, HN⟩
    replace H : Hid (At w W8) := H.out.go HN.out
    clear HN
    go_wp2_with fail
    refine (rread_any b1 b2 12 rcodesP 4096 (by decide) rcodesW rfl (by decide) (by decide +kernel) (by decide) s (by omega) W8 HK.out).mono ?_
    rintro e W9 ⟨rfl, HN⟩
    replace H : Hid (At w W9) := H.out.go HN.out
    clear HN
    clear HK
    go_wp2_with fail
    refine (read_any _ x3 y3 HR3.out W9).mono ?_
    rintro e Wx3 ⟨rfl, rfl⟩
    clear HR3
    generalize orNo (readF rcodesW rcodesP.data.toList 4096 (up s).data.toList) = r3
    go_wp2_with fail
    go_ret
    exact ⟨rfl, H.out.2⟩
theorem reads_walk (s : ByteArray) (hs : s.size ≤ maxLen) (w : World) (hL : LayT w ∧ LayE w) : Calls Tryd.prog 3 #[.string s] w fun e w' => e = .returned (.bool true) ∧ Below w.heap.size w w' :=
  reads_any s (by unfold maxLen at hs; omega) w hL
end Go.Proofs.YtjfpkpblifbljaaDoor
