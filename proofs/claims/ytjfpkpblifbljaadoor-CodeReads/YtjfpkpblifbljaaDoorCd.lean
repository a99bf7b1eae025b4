/- The exported functions of the program: words told and read. -/
import Derived.Test.YtjfpkpblifbljaaDoorKd
namespace Go.Proofs.YtjfpkpblifbljaaDoor
open Go.ChangeShapes Go.WideShapes Go.ChangeAt Go.RowKit
set_option linter.unusedVariables false
set_option linter.unusedSimpArgs false

/-- What is told of a number that may be none of the kind's. -/
def Told (ps : Own4) (pre : List UInt8) (most : Nat) (n : Int) (l : List UInt8) (y : Int) : Prop :=
  (0 ≤ n → n ≤ (most : Int) → l = tellF ps pre n.toNat ∧ y = 0) ∧ (n < 0 ∨ (most : Int) < n → l = [] ∧ y = 2)
set_option maxRecDepth 100000 in
set_option maxHeartbeats 1000000 in
theorem tell_any (s pre : ByteArray) (most : Nat) (hm : most < 65536) (hpre : pre.size ≤ 100) (ps : Own4) (n : Int) (w : World) (hK : KOk s ps) (hL : LayT w) :
    Calls Tryd.prog 34 #[.agg #[.string s, .string pre, .int .i64 most], .int .i64 n] w fun e w' => ∃ (l : List UInt8) (y : Int), e = .returned (.tuple #[.string ⟨l.toArray⟩, .int .i64 y]) ∧ Hid (Told ps pre.data.toList most n l y) ∧ Hid (Below w.heap.size w w') := by
  have HL : Hid (LayT w) := hL
  have HK : Hid (KOk s ps) := hK
  have HX : Hid (Box (w.alloc (.cells #[.string s, .string pre, .int .i64 most] 51)) w.heap.size s pre most) := Box.new w s pre most
  have HB : Hid (Below w.heap.size w (w.alloc (.cells #[.string s, .string pre, .int .i64 most] 51))) := (Below.refl _ _).alloc (Nat.le_refl _) _
  clear hL hK
  go_enter Tryd.func34, Tryd.ntmps34
  go_upto_region 1 with fail
  generalize (w.alloc (.cells #[.string s, .string pre, .int .i64 most] 51)) = W1 at *
  have c0 := HX.out.1
  have c1 := HX.out.2.1
  have c2 := HX.out.2.2.1
  by_cases h1 : n < 0
  · go_wp2_with fail
    go_ret2
    exact ⟨[], 2, rfl, ⟨fun h => by omega, fun _ => ⟨rfl, rfl⟩⟩, HB.out⟩
  · by_cases h2 : (most : Int) < n
    · go_wp2_with fail
      go_ret2
      exact ⟨[], 2, rfl, ⟨fun h => by omega, fun _ => ⟨rfl, rfl⟩⟩, HB.out⟩
    · obtain ⟨k, rfl⟩ : ∃ k : Nat, n = (k : Int) := ⟨n.toNat, by omega⟩
      go_wp2_with fail
      refine (word_any s pre most ps k (by omega) hpre W1 HK.out (HL.out.below HB.out)).mono ?_
      rintro e W2 ⟨rfl, H2⟩
      go_wp2_with fail
      go_ret2
      refine ⟨_, _, rfl, ⟨fun _ _ => ⟨?_, rfl⟩, fun h => by omega⟩, HB.out.trans (H2.out.mono HB.out.size)⟩
      simp
theorem readF_lt (ps : Own4) (pre : List UInt8) (below : Nat) (s : List UInt8) (n : Nat) (h : readF ps pre below s = some n) : n < below := by
  unfold readF at h
  cases hd : digF ps pre s with
  | none => rw [hd] at h; cases h
  | some l => rw [hd] at h; exact (numF_some h).2
theorem res_bd (o : Option Nat) (x y : Int) {b : Nat} (h : ∀ n, o = some n → n < b) (hr : Res o x y) : 0 ≤ x ∧ (x < b ∨ x = 0) := by
  cases ho : o with
  | none => have := (hr.2 ho).1; omega
  | some n => have := (hr.1 n ho).1; have := h n ho; omega
set_option maxRecDepth 100000 in
set_option maxHeartbeats 1000000 in
theorem type_any (n : Nat) (hn : n < 65536) (w : World) (hL : LayT w) : Calls Tryd.prog 19 #[.int .u16 n] w fun e w' => e = .returned (.string ⟨(tellF typesW typesP.data.toList n).toArray⟩) ∧ Hid (Below w.heap.size w w') := by
  have HL : Hid (LayT w) := hL
  clear hL
  go_enter Tryd.func19, Tryd.ntmps19
  go_wp2_with fail
  refine (types_any w).mono ?_
  rintro e W1 ⟨rfl, H1⟩
  have hw : IntKind.i64.wrap (n : Int) = (n : Int) := by rw [IntKind.wrap_i64]; omega
  go_wp2_with fail
  refine (word_any typesB typesP _ typesW n hn (by decide +kernel) W1 typesOk (HL.out.below H1.out)).mono ?_
  rintro e W2 ⟨rfl, H2⟩
  go_wp2_with fail
  go_ret
  exact ⟨rfl, H1.out.trans (H2.out.mono H1.out.size)⟩
set_option maxRecDepth 100000 in
set_option maxHeartbeats 1000000 in
theorem class_any (n : Nat) (hn : n < 65536) (w : World) (hL : LayT w) : Calls Tryd.prog 20 #[.int .u16 n] w fun e w' => e = .returned (.string ⟨(tellF classesW classesP.data.toList n).toArray⟩) ∧ Hid (Below w.heap.size w w') := by
  have HL : Hid (LayT w) := hL
  clear hL
  go_enter Tryd.func20, Tryd.ntmps20
  go_wp2_with fail
  refine (classes_any w).mono ?_
  rintro e W1 ⟨rfl, H1⟩
  have hw : IntKind.i64.wrap (n : Int) = (n : Int) := by rw [IntKind.wrap_i64]; omega
  go_wp2_with fail
  refine (word_any classesB classesP _ classesW n hn (by decide +kernel) W1 classesOk (HL.out.below H1.out)).mono ?_
  rintro e W2 ⟨rfl, H2⟩
  go_wp2_with fail
  go_ret
  exact ⟨rfl, H1.out.trans (H2.out.mono H1.out.size)⟩
set_option maxRecDepth 100000 in
set_option maxHeartbeats 1000000 in
theorem rcode_any (n : Int) (w : World) (hL : LayT w) : Calls Tryd.prog 16 #[.int .i64 n] w fun e w' => ∃ (l : List UInt8) (y : Int), e = .returned (.tuple #[.string ⟨l.toArray⟩, .int .i64 y]) ∧ Hid (Told rcodesW rcodesP.data.toList 4095 n l y) ∧ Hid (Below w.heap.size w w') := by
  have HL : Hid (LayT w) := hL
  clear hL
  go_enter Tryd.func16, Tryd.ntmps16
  go_wp2_with fail
  refine (rcodes_any w).mono ?_
  rintro e W1 ⟨rfl, H1⟩
  go_wp2_with fail
  refine (tell_any rcodesB rcodesP 4095 (by decide) (by decide +kernel) rcodesW n W1 rcodesOk (HL.out.below H1.out)).mono ?_
  rintro e W2 ⟨l, y, rfl, HT, H2⟩
  go_wp2_with fail
  go_ret2
  exact ⟨_, _, rfl, HT.out, H1.out.trans (H2.out.mono H1.out.size)⟩
set_option maxRecDepth 100000 in
set_option maxHeartbeats 1000000 in
theorem opcode_any (n : Int) (w : World) (hL : LayT w) : Calls Tryd.prog 17 #[.int .i64 n] w fun e w' => ∃ (l : List UInt8) (y : Int), e = .returned (.tuple #[.string ⟨l.toArray⟩, .int .i64 y]) ∧ Hid (Told opcodesW opcodesP.data.toList 15 n l y) ∧ Hid (Below w.heap.size w w') := by
  have HL : Hid (LayT w) := hL
  clear hL
  go_enter Tryd.func17, Tryd.ntmps17
  go_wp2_with fail
  refine (opcodes_any w).mono ?_
  rintro e W1 ⟨rfl, H1⟩
  go_wp2_with fail
  refine (tell_any opcodesB opcodesP 15 (by decide) (by decide +kernel) opcodesW n W1 opcodesOk (HL.out.below H1.out)).mono ?_
  rintro e W2 ⟨l, y, rfl, HT, H2⟩
  go_wp2_with fail
  go_ret2
  exact ⟨_, _, rfl, HT.out, H1.out.trans (H2.out.mono H1.out.size)⟩
set_option maxRecDepth 100000 in
set_option maxHeartbeats 1000000 in
theorem ptype_any (t : ByteArray) (ht : t.size ≤ 140737488355000) (w : World) (hL : LayT w) (hE : LayE w) : Calls Tryd.prog 8 #[.string t] w fun e w' => ∃ x y, e = .returned (.tuple #[.int .u16 x, .int .i64 y]) ∧ Hid (Res (readF typesW typesP.data.toList 65536 (up t).data.toList) x y) ∧ Hid (Below w.heap.size w w') := by
  have HL : Hid (LayT w ∧ LayE w) := ⟨hL, hE⟩
  clear hL hE
  go_enter Tryd.func8, Tryd.ntmps8
  go_wp2_with fail
  refine (types_any w).mono ?_
  rintro e W1 ⟨rfl, H1⟩
  go_wp2_with fail
  refine (parse_any typesB typesP 65535 (by decide) typesW t ht W1 typesOk (HL.out.1.below H1.out) (HL.out.2.below H1.out)).mono ?_
  rintro e W2 ⟨x, y, rfl, HR, H2⟩
  have hw : IntKind.u16.wrap x = x := by
    have hb := res_bd _ x y (fun n hn => readF_lt typesW _ 65536 _ n hn) HR.out
    rw [IntKind.wrap_u16]; omega
  go_wp2_with fail
  go_ret2
  exact ⟨_, _, rfl, HR.out, H1.out.trans (H2.out.mono H1.out.size)⟩
set_option maxRecDepth 100000 in
set_option maxHeartbeats 1000000 in
theorem pclass_any (t : ByteArray) (ht : t.size ≤ 140737488355000) (w : World) (hL : LayT w) (hE : LayE w) : Calls Tryd.prog 9 #[.string t] w fun e w' => ∃ x y, e = .returned (.tuple #[.int .u16 x, .int .i64 y]) ∧ Hid (Res (readF classesW classesP.data.toList 65536 (up t).data.toList) x y) ∧ Hid (Below w.heap.size w w') := by
  have HL : Hid (LayT w ∧ LayE w) := ⟨hL, hE⟩
  clear hL hE
  go_enter Tryd.func9, Tryd.ntmps9
  go_wp2_with fail
  refine (classes_any w).mono ?_
  rintro e W1 ⟨rfl, H1⟩
  go_wp2_with fail
  refine (parse_any classesB classesP 65535 (by decide) classesW t ht W1 classesOk (HL.out.1.below H1.out) (HL.out.2.below H1.out)).mono ?_
  rintro e W2 ⟨x, y, rfl, HR, H2⟩
  have hw : IntKind.u16.wrap x = x := by
    have hb := res_bd _ x y (fun n hn => readF_lt classesW _ 65536 _ n hn) HR.out
    rw [IntKind.wrap_u16]; omega
  go_wp2_with fail
  go_ret2
  exact ⟨_, _, rfl, HR.out, H1.out.trans (H2.out.mono H1.out.size)⟩
set_option maxRecDepth 100000 in
set_option maxHeartbeats 1000000 in
theorem prcode_any (t : ByteArray) (ht : t.size ≤ 140737488355000) (w : World) (hL : LayT w) (hE : LayE w) : Calls Tryd.prog 10 #[.string t] w fun e w' => ∃ x y, e = .returned (.tuple #[.int .i64 x, .int .i64 y]) ∧ Hid (Res (readF rcodesW rcodesP.data.toList 4096 (up t).data.toList) x y) ∧ Hid (Below w.heap.size w w') := by
  have HL : Hid (LayT w ∧ LayE w) := ⟨hL, hE⟩
  clear hL hE
  go_enter Tryd.func10, Tryd.ntmps10
  go_wp2_with fail
  refine (rcodes_any w).mono ?_
  rintro e W1 ⟨rfl, H1⟩
  go_wp2_with fail
  refine (parse_any rcodesB rcodesP 4095 (by decide) rcodesW t ht W1 rcodesOk (HL.out.1.below H1.out) (HL.out.2.below H1.out)).mono ?_
  rintro e W2 ⟨x, y, rfl, HR, H2⟩
  go_wp2_with fail
  go_ret2
  exact ⟨_, _, rfl, HR.out, H1.out.trans (H2.out.mono H1.out.size)⟩
end Go.Proofs.YtjfpkpblifbljaaDoor
