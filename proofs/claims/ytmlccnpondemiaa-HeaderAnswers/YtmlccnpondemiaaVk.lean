/- HeaderKnown's walk. -/
import Derived.Test.YtmlccnpondemiaaVi
import Derived.Test.YtmlccnpondemiaaVs
namespace Go.Proofs.Ytmlccnpondemiaa
open Go.ChangeShapes Go.WideShapes Go.ChangeAt Go.RowKit
set_option linter.unusedVariables false
set_option linter.unusedSimpArgs false

theorem new_bytes (w : World) (zs : List Int) (hb : ∀ z ∈ zs, 0 ≤ z ∧ z ≤ 255) : Blk (w.alloc (.cells (zs.map (Value.int .u8)).toArray 5)) w.heap.size zs := ⟨alloc_at _ _, hb⟩
theorem new_text (w : World) (s : ByteArray) (hs : s.size ≤ 9223372036854775807) : TRd (w.alloc (.cells #[.string s] 9)) ⟨some ⟨w.heap.size, 0, none⟩, 1, 1⟩ [s] := by
  refine ⟨.inr ⟨w.heap.size, 0, rfl, by simp, fun i hi => ?_⟩, rfl, ⟨Nat.le_refl _, by simp⟩, by simp, by intro x hx; simp at hx; subst hx; exact hs⟩
  simp [tv] at hi
  subst hi
  simp [tv]
theorem new_quest (w : World) (x : Sl) (nm : List ByteArray) (t c : Nat) (ht : t < 65536) (hc : c < 65536) (h : TRd w x nm) : QsRd (w.alloc (.cells #[.slice x.a x.n x.c, .int .u16 (t : Int), .int .u16 (c : Int)] 50)) ⟨some ⟨w.heap.size, 0, none⟩, 1, 1⟩ [⟨nm, t, c⟩] := by
  have hb : Below w.heap.size w (w.alloc (.cells #[.slice x.a x.n x.c, .int .u16 (t : Int), .int .u16 (c : Int)] 50)) := (Below.refl _ _).alloc (Nat.le_refl _) _
  have ha := alloc_at w (.cells #[.slice x.a x.n x.c, .int .u16 (t : Int), .int .u16 (c : Int)] 50)
  refine ⟨.inr ⟨w.heap.size, 0, rfl, by simp, fun i hi => ?_⟩, rfl, ⟨Nat.le_refl _, by simp⟩, by simp⟩
  simp at hi
  subst hi
  exact ⟨⟨x, t, c⟩, cell_of_block (i := 0) ha rfl, cell_of_block (i := 1) ha rfl, cell_of_block (i := 2) ha rfl, h.below hb, rfl, rfl, ht, hc⟩
theorem known_sqs : sqs [⟨[⟨#[65]⟩], 1, 1⟩] [⟨[⟨#[97]⟩], 1, 1⟩] = true := by decide +kernel
theorem known_nv : unfl (nv [0, 0, 0, 64, 0, 0, 0, 0, 0, 0, 0, 0] 1) 64 = true := by decide +kernel
theorem make11 (w : World) : (Instr.makeSlice 30 (.int .i64 11) (.int .i64 11)).run Try.prog w = .ok (.slice (some ⟨w.heap.size, 0, none⟩) 11 11) (w.alloc (.cells (([0, 0, 0, 0, 0, 0, 0, 0, 0, 0, 0] : List Int).map (Value.int .u8)).toArray 5)) := by kernel_rfl

theorem answers_id (id id' : Nat) (hi : id ≠ id') (op op' : Int) (aa tc rd ra ad cd aa' tc' rd' ra' ad' cd' : Bool) (rc rc' : Int) (a1 a2 a3 a4 d1 d2 d3 d4 : Option Addr) (n1 n2 n3 n4 k1 k2 k3 k4 m1 m2 m3 m4 l1 l2 l3 l4 : Nat) (w : World) :
    Calls Try.prog 14 #[.agg #[.int .u16 (id : Int), .bool true, .int .i64 op, .bool aa, .bool tc, .bool rd, .bool ra, .bool ad, .bool cd, .int .i64 rc, .slice a1 n1 k1, .slice a2 n2 k2, .slice a3 n3 k3, .slice a4 n4 k4], .agg #[.int .u16 (id' : Int), .bool false, .int .i64 op', .bool aa', .bool tc', .bool rd', .bool ra', .bool ad', .bool cd', .int .i64 rc', .slice d1 m1 l1, .slice d2 m2 l2, .slice d3 m3 l3, .slice d4 m4 l4]] w fun e w' => e = .returned (.bool false) ∧ Below w.heap.size w w' := by
  have hne : ((id : Int) == (id' : Int)) = false := by simp; omega
  go_enter Try.func14, Try.ntmps14
  go_wp2
  go_ret
  exact ⟨rfl, ((Below.refl _ _).alloc (Nat.le_refl _) _).alloc (by simp) _⟩
theorem known_world (w6 W : World) (hW : W = (((((w6.alloc (.cells #[.string ⟨#[97]⟩] 9)).alloc (.cells #[.slice (some ⟨w6.heap.size, 0, none⟩) 1 1, .int .u16 1, .int .u16 1] 50)).alloc (.cells #[.int .u16 7, .bool false, .int .i64 0, .bool false, .bool false, .bool false, .bool false, .bool false, .bool false, .int .i64 0, .slice (some ⟨w6.heap.size + 1, 0, none⟩) 1 1, .slice none 0 0, .slice none 0 0, .slice none 0 0] 26)).alloc (.cells #[.string ⟨#[65]⟩] 9)).alloc (.cells #[.slice (some ⟨w6.heap.size + 1 + 1 + 1, 0, none⟩) 1 1, .int .u16 1, .int .u16 1] 50)).alloc (.cells #[.int .u16 7, .bool true, .int .i64 0, .bool false, .bool false, .bool false, .bool false, .bool false, .bool false, .int .i64 0, .slice (some ⟨w6.heap.size + 1 + 1 + 1 + 1, 0, none⟩) 1 1, .slice none 0 0, .slice none 0 0, .slice none 0 0] 26)) : QsRd W ⟨some ⟨w6.heap.size + 1, 0, none⟩, 1, 1⟩ [⟨[⟨#[97]⟩], 1, 1⟩] ∧ QsRd W ⟨some ⟨w6.heap.size + 1 + 1 + 1 + 1, 0, none⟩, 1, 1⟩ [⟨[⟨#[65]⟩], 1, 1⟩] ∧ W.heap[w6.heap.size + 1 + 1]? = some (.cells #[.int .u16 7, .bool false, .int .i64 0, .bool false, .bool false, .bool false, .bool false, .bool false, .bool false, .int .i64 0, .slice (some ⟨w6.heap.size + 1, 0, none⟩) 1 1, .slice none 0 0, .slice none 0 0, .slice none 0 0] 26) ∧ W.heap[w6.heap.size + 1 + 1 + 1 + 1 + 1]? = some (.cells #[.int .u16 7, .bool true, .int .i64 0, .bool false, .bool false, .bool false, .bool false, .bool false, .bool false, .int .i64 0, .slice (some ⟨w6.heap.size + 1 + 1 + 1 + 1, 0, none⟩) 1 1, .slice none 0 0, .slice none 0 0, .slice none 0 0] 26) ∧ Below w6.heap.size w6 W := by
  have t1 := new_text w6 ⟨#[97]⟩ (by simp [ByteArray.size])
  have q1 := new_quest _ _ _ 1 1 (by omega) (by omega) t1
  obtain ⟨V, hV⟩ : ∃ V, V = ((w6.alloc (.cells #[.string ⟨#[97]⟩] 9)).alloc (.cells #[.slice (some ⟨w6.heap.size, 0, none⟩) 1 1, .int .u16 1, .int .u16 1] 50)).alloc (.cells #[.int .u16 7, .bool false, .int .i64 0, .bool false, .bool false, .bool false, .bool false, .bool false, .bool false, .int .i64 0, .slice (some ⟨w6.heap.size + 1, 0, none⟩) 1 1, .slice none 0 0, .slice none 0 0, .slice none 0 0] 26) := ⟨_, rfl⟩
  have hVs : V.heap.size = w6.heap.size + 1 + 1 + 1 := by rw [hV]; simp
  have q1' : QsRd V ⟨some ⟨w6.heap.size + 1, 0, none⟩, 1, 1⟩ [⟨[⟨#[97]⟩], 1, 1⟩] := by
    rw [hV]
    have := q1.below ((Below.refl _ _).alloc (Nat.le_refl _) (.cells #[.int .u16 7, .bool false, .int .i64 0, .bool false, .bool false, .bool false, .bool false, .bool false, .bool false, .int .i64 0, .slice (some ⟨w6.heap.size + 1, 0, none⟩) 1 1, .slice none 0 0, .slice none 0 0, .slice none 0 0] 26))
    simp only [World.size_alloc] at this
    exact this
  have bV : V.heap[w6.heap.size + 1 + 1]? = some (.cells #[.int .u16 7, .bool false, .int .i64 0, .bool false, .bool false, .bool false, .bool false, .bool false, .bool false, .int .i64 0, .slice (some ⟨w6.heap.size + 1, 0, none⟩) 1 1, .slice none 0 0, .slice none 0 0, .slice none 0 0] 26) := by
    rw [hV]
    have := alloc_at ((w6.alloc (.cells #[.string ⟨#[97]⟩] 9)).alloc (.cells #[.slice (some ⟨w6.heap.size, 0, none⟩) 1 1, .int .u16 1, .int .u16 1] 50)) (.cells #[.int .u16 7, .bool false, .int .i64 0, .bool false, .bool false, .bool false, .bool false, .bool false, .bool false, .int .i64 0, .slice (some ⟨w6.heap.size + 1, 0, none⟩) 1 1, .slice none 0 0, .slice none 0 0, .slice none 0 0] 26)
    simp only [World.size_alloc] at this
    exact this
  have BV : Below w6.heap.size w6 V := by
    rw [hV]
    exact (((Below.refl _ _).alloc (Nat.le_refl _) _).alloc (by simp) _).alloc (by simp <;> omega) _
  have t2 := new_text V ⟨#[65]⟩ (by simp [ByteArray.size])
  have q2 := new_quest _ _ _ 1 1 (by omega) (by omega) t2
  rw [← hV] at hW
  subst hW
  have hb : Below V.heap.size V (((V.alloc (.cells #[.string ⟨#[65]⟩] 9)).alloc (.cells #[.slice (some ⟨w6.heap.size + 1 + 1 + 1, 0, none⟩) 1 1, .int .u16 1, .int .u16 1] 50)).alloc (.cells #[.int .u16 7, .bool true, .int .i64 0, .bool false, .bool false, .bool false, .bool false, .bool false, .bool false, .int .i64 0, .slice (some ⟨w6.heap.size + 1 + 1 + 1 + 1, 0, none⟩) 1 1, .slice none 0 0, .slice none 0 0, .slice none 0 0] 26)) := (((Below.refl _ _).alloc (Nat.le_refl _) _).alloc (by simp) _).alloc (by simp <;> omega) _
  refine ⟨q1'.below hb, ?_, (hb.block _ (by omega)).trans bV, ?_, BV.trans (hb.mono BV.size)⟩
  · have := q2.below ((Below.refl _ _).alloc (Nat.le_refl _) (.cells #[.int .u16 7, .bool true, .int .i64 0, .bool false, .bool false, .bool false, .bool false, .bool false, .bool false, .int .i64 0, .slice (some ⟨w6.heap.size + 1 + 1 + 1 + 1, 0, none⟩) 1 1, .slice none 0 0, .slice none 0 0, .slice none 0 0] 26))
    simp only [World.size_alloc, hVs] at this
    exact this
  · have := alloc_at ((V.alloc (.cells #[.string ⟨#[65]⟩] 9)).alloc (.cells #[.slice (some ⟨w6.heap.size + 1 + 1 + 1, 0, none⟩) 1 1, .int .u16 1, .int .u16 1] 50)) (.cells #[.int .u16 7, .bool true, .int .i64 0, .bool false, .bool false, .bool false, .bool false, .bool false, .bool false, .int .i64 0, .slice (some ⟨w6.heap.size + 1 + 1 + 1 + 1, 0, none⟩) 1 1, .slice none 0 0, .slice none 0 0, .slice none 0 0] 26)
    simp only [World.size_alloc, hVs] at this
    exact this
theorem blk_at (W : World) (B : Nat) (zs : List Int) (hB : B = W.heap.size) (hz : ∀ z ∈ zs, 0 ≤ z ∧ z ≤ 255) (cs : Array Value) (hcs : cs = (zs.map (Value.int .u8)).toArray) : Blk (W.alloc (.cells cs 5)) B zs := by
  subst hB hcs; exact new_bytes W zs hz
theorem read_short (W : World) (B : Nat) (h : Blk W B [0, 0, 0, 0, 0, 0, 0, 0, 0, 0, 0]) : Calls Try.prog 18 #[.slice (some ⟨B, 0, none⟩) 11 11] W fun e w' => e = .returned (.tuple #[.agg #[.int .u16 0, .bool false, .int .i64 0, .bool false, .bool false, .bool false, .bool false, .bool false, .bool false, .int .i64 0, .slice none 0 0, .slice none 0 0, .slice none 0 0, .slice none 0 0], .agg #[.int .i64 0, .int .i64 0, .int .i64 0, .int .i64 0], .int .i64 8]) ∧ Below W.heap.size W w' :=
  (read18 (some ⟨B, 0, none⟩) 11 11 [0, 0, 0, 0, 0, 0, 0, 0, 0, 0, 0] W (h.rd 11) rfl (by omega) (by omega)).mono (by
    rintro e w' ⟨h, _, hb⟩
    exact ⟨h (.inl (by decide)), hb⟩)
theorem read_bad (W : World) (B : Nat) (h : Blk W B [0, 0, 0, 64, 0, 0, 0, 0, 0, 0, 0, 0]) : Calls Try.prog 18 #[.slice (some ⟨B, 0, none⟩) 12 12] W fun e w' => e = .returned (.tuple #[.agg #[.int .u16 0, .bool false, .int .i64 0, .bool false, .bool false, .bool false, .bool false, .bool false, .bool false, .int .i64 0, .slice none 0 0, .slice none 0 0, .slice none 0 0, .slice none 0 0], .agg #[.int .i64 0, .int .i64 0, .int .i64 0, .int .i64 0], .int .i64 8]) ∧ Below W.heap.size W w' :=
  (read18 (some ⟨B, 0, none⟩) 12 12 [0, 0, 0, 64, 0, 0, 0, 0, 0, 0, 0, 0] W (h.rd 12) rfl (by omega) (by omega)).mono (by
    rintro e w' ⟨h, _, hb⟩
    exact ⟨h (.inr known_nv), hb⟩)
set_option maxRecDepth 100000 in
set_option maxHeartbeats 8000000 in
theorem knownL (w : World) : Calls Try.prog 7 #[] w fun e w' => e = .returned (.bool true) ∧ Below w.heap.size w w' := by
  have heq := equalA
  have hmk := make11
  have KB : ∀ W, Hid (Calls Try.prog 10 #[.agg #[.int .u16 258, .bool true, .int .i64 0, .bool true, .bool false, .bool true, .bool false, .bool false, .bool false, .int .i64 3, .slice none 0 0, .slice none 0 0, .slice none 0 0, .slice none 0 0], .agg #[.int .i64 1, .int .i64 0, .int .i64 1, .int .i64 0]] W fun e w' => ∃ g, e = .returned (.tuple #[.slice (some ⟨g, 0, none⟩) 12 12, .int .i64 0]) ∧ Hid (Blk w' g (b16s (nsL (258 : Nat) (packN 0 3 true true false true false false false : Nat) (1 : Nat) (0 : Nat) (1 : Nat) (0 : Nat))) ∧ Below W.heap.size W w')) := fun W =>
    Calls.mono (bytes10 258 true 0 true false true false false false 3 none none none none 0 0 0 0 0 0 0 0 1 0 1 0 W (by omega) (by omega) (by omega)) (by
      rintro e w' ⟨h1, _, hb⟩
      obtain ⟨g, he, _, hblk⟩ := h1 (by rw [awake_ns]; exact awake_ok)
      exact ⟨g, he, hblk, hb⟩)
  have KA : ∀ W, Hid (Calls Try.prog 10 #[.agg #[.int .u16 0, .bool false, .int .i64 16, .bool false, .bool false, .bool false, .bool false, .bool false, .bool false, .int .i64 0, .slice none 0 0, .slice none 0 0, .slice none 0 0, .slice none 0 0], .agg #[.int .i64 0, .int .i64 0, .int .i64 0, .int .i64 0]] W fun e w' => e = .returned (.tuple #[.slice none 0 0, .int .i64 2]) ∧ Below W.heap.size W w') := fun W => bytes10_arg 0 false 16 false false false false false false 0 none none none none 0 0 0 0 0 0 0 0 0 0 0 0 W (by omega)
  have KC : ∀ W, Hid (Calls Try.prog 10 #[.agg #[.int .u16 0, .bool false, .int .i64 0, .bool false, .bool false, .bool false, .bool false, .bool false, .bool false, .int .i64 0, .slice none 0 0, .slice none 0 0, .slice none 0 0, .slice none 0 0], .agg #[.int .i64 65536, .int .i64 0, .int .i64 0, .int .i64 0]] W fun e w' => e = .returned (.tuple #[.slice none 0 0, .int .i64 2]) ∧ Below W.heap.size W w') := fun W =>
    Calls.mono (bytes10 0 false 0 false false false false false false 0 none none none none 0 0 0 0 0 0 0 0 65536 0 0 0 W (by omega) (by omega) (by omega)) (by
      rintro e w' ⟨_, h2, hb⟩
      exact ⟨h2 (fun h => by have := (h 65536 (by simp [nsL])).2; omega), hb⟩)
  go_enter Try.func7, Try.ntmps7
  go_wp2_with fail
  refine (KB _).out.mono ?_
  rintro e w1 ⟨g, rfl, H1⟩
  have KR : Hid (Calls Try.prog 18 #[.slice (some ⟨g, 0, none⟩) 12 12] w1 fun e w' => e = .returned (.tuple #[.agg #[.int .u16 258, .bool true, .int .i64 0, .bool true, .bool false, .bool true, .bool false, .bool false, .bool false, .int .i64 3, .slice none 0 0, .slice none 0 0, .slice none 0 0, .slice none 0 0], .agg #[.int .i64 1, .int .i64 0, .int .i64 1, .int .i64 0], .int .i64 0]) ∧ Below w1.heap.size w1 w') := read_back 258 0 3 true true false true false false false 1 0 1 0 (by omega) (by omega) (by omega) (by omega) (by omega) (by omega) (by omega) g w1 H1.out.1
  go_wp2_with fail
  refine KR.out.mono ?_
  rintro e w2 ⟨rfl, hb2⟩
  have HB2 : Hid (Below w.heap.size w w2) := H1.out.2.trans (hb2.mono H1.out.2.size)
  clear hb2 KR H1
  go_wp2_with fail
  refine (read_short _ _ (blk_at _ _ _ (by simp) (by intro z hz; simp at hz; omega) _ rfl)).mono ?_
  rintro e w3 ⟨rfl, hb3⟩
  have HM3 : Hid (Below w.heap.size w w3 ∧ w3.heap[w2.heap.size]? = some (.cells #[.int .u16 258, .bool true, .int .i64 0, .bool true, .bool false, .bool true, .bool false, .bool false, .bool false, .int .i64 3, .slice none 0 0, .slice none 0 0, .slice none 0 0, .slice none 0 0] 26) ∧ w3.heap[w2.heap.size + 1]? = some (.cells #[.int .i64 1, .int .i64 0, .int .i64 1, .int .i64 0] 27)) := by
    have hs := HB2.out.size
    refine ⟨(((HB2.out.alloc hs _).alloc (by simp <;> omega) _).alloc (by simp <;> omega) _).trans (hb3.mono (by simp <;> omega)), (hb3.block _ (by simp <;> omega)).trans (block_alloc (block_alloc (alloc_at _ _) _) _), (hb3.block _ (by simp)).trans (block_alloc ?_ _)⟩
    have := alloc_at (w2.alloc (.cells #[.int .u16 258, .bool true, .int .i64 0, .bool true, .bool false, .bool true, .bool false, .bool false, .bool false, .int .i64 3, .slice none 0 0, .slice none 0 0, .slice none 0 0, .slice none 0 0] 26)) (.cells #[.int .i64 1, .int .i64 0, .int .i64 1, .int .i64 0] 27)
    simp only [World.size_alloc] at this
    exact this
  clear hb3
  go_wp2_with fail
  refine (read_bad _ _ (blk_at _ _ _ (by simp) (by intro z hz; simp at hz; omega) _ rfl)).mono ?_
  rintro e w4 ⟨rfl, hb4⟩
  have HM4 : Hid (Below w.heap.size w w4 ∧ w4.heap[w2.heap.size]? = some (.cells #[.int .u16 258, .bool true, .int .i64 0, .bool true, .bool false, .bool true, .bool false, .bool false, .bool false, .int .i64 3, .slice none 0 0, .slice none 0 0, .slice none 0 0, .slice none 0 0] 26) ∧ w4.heap[w2.heap.size + 1]? = some (.cells #[.int .i64 1, .int .i64 0, .int .i64 1, .int .i64 0] 27)) := by
    have hs := HM3.out.1.size
    have h1 := block_lt HM3.out.2.1
    have h2 := block_lt HM3.out.2.2
    exact ⟨(((HM3.out.1.alloc hs _).alloc (by simp <;> omega) _).alloc (by simp <;> omega) _).trans (hb4.mono (by simp <;> omega)), (hb4.block _ (by simp <;> omega)).trans (block_alloc (block_alloc (block_alloc HM3.out.2.1 _) _) _), (hb4.block _ (by simp <;> omega)).trans (block_alloc (block_alloc (block_alloc HM3.out.2.2 _) _) _)⟩
  clear hb4 HM3 HB2
  go_wp2_with fail
  refine (KA _).out.mono ?_
  rintro e w5 ⟨rfl, hb5⟩
  have HM5 : Hid (Below w.heap.size w w5 ∧ w5.heap[w2.heap.size]? = some (.cells #[.int .u16 258, .bool true, .int .i64 0, .bool true, .bool false, .bool true, .bool false, .bool false, .bool false, .int .i64 3, .slice none 0 0, .slice none 0 0, .slice none 0 0, .slice none 0 0] 26) ∧ w5.heap[w2.heap.size + 1]? = some (.cells #[.int .i64 1, .int .i64 0, .int .i64 1, .int .i64 0] 27)) := by
    have hs := HM4.out.1.size
    have h1 := block_lt HM4.out.2.1
    have h2 := block_lt HM4.out.2.2
    exact ⟨((HM4.out.1.alloc hs _).alloc (by simp <;> omega) _).trans (hb5.mono (by simp <;> omega)), (hb5.block _ (by simp <;> omega)).trans (block_alloc (block_alloc HM4.out.2.1 _) _), (hb5.block _ (by simp <;> omega)).trans (block_alloc (block_alloc HM4.out.2.2 _) _)⟩
  clear hb5 HM4
  go_wp2_with fail
  refine (KC _).out.mono ?_
  rintro e w6 ⟨rfl, hb6⟩
  have HM6 : Hid (Below w.heap.size w w6 ∧ w6.heap[w2.heap.size]? = some (.cells #[.int .u16 258, .bool true, .int .i64 0, .bool true, .bool false, .bool true, .bool false, .bool false, .bool false, .int .i64 3, .slice none 0 0, .slice none 0 0, .slice none 0 0, .slice none 0 0] 26) ∧ w6.heap[w2.heap.size + 1]? = some (.cells #[.int .i64 1, .int .i64 0, .int .i64 1, .int .i64 0] 27)) := by
    have hs := HM5.out.1.size
    have h1 := block_lt HM5.out.2.1
    have h2 := block_lt HM5.out.2.2
    exact ⟨HM5.out.1.trans (hb6.mono hs), (hb6.block _ h1).trans HM5.out.2.1, (hb6.block _ h2).trans HM5.out.2.2⟩
  clear hb6 HM5
  have HW6 : Hid (w.heap.size ≤ w6.heap.size + 1 + 1 + 1 + 1 + 1) := by have := HM6.out.1.size; show _ ≤ _; omega
  go_wp2_with fail
  obtain ⟨W7, hW7⟩ : ∃ W7, W7 = (((((w6.alloc (.cells #[.string ⟨#[97]⟩] 9)).alloc (.cells #[.slice (some ⟨w6.heap.size, 0, none⟩) 1 1, .int .u16 1, .int .u16 1] 50)).alloc (.cells #[.int .u16 7, .bool false, .int .i64 0, .bool false, .bool false, .bool false, .bool false, .bool false, .bool false, .int .i64 0, .slice (some ⟨w6.heap.size + 1, 0, none⟩) 1 1, .slice none 0 0, .slice none 0 0, .slice none 0 0] 26)).alloc (.cells #[.string ⟨#[65]⟩] 9)).alloc (.cells #[.slice (some ⟨w6.heap.size + 1 + 1 + 1, 0, none⟩) 1 1, .int .u16 1, .int .u16 1] 50)).alloc (.cells #[.int .u16 7, .bool true, .int .i64 0, .bool false, .bool false, .bool false, .bool false, .bool false, .bool false, .int .i64 0, .slice (some ⟨w6.heap.size + 1 + 1 + 1 + 1, 0, none⟩) 1 1, .slice none 0 0, .slice none 0 0, .slice none 0 0] 26) := ⟨_, rfl⟩
  rw [← hW7]
  obtain ⟨qa, qb, ba, bb, bw⟩ := known_world w6 W7 hW7
  clear hW7
  have HM7 : Hid (Below w.heap.size w W7 ∧ W7.heap[w2.heap.size]? = some (.cells #[.int .u16 258, .bool true, .int .i64 0, .bool true, .bool false, .bool true, .bool false, .bool false, .bool false, .int .i64 3, .slice none 0 0, .slice none 0 0, .slice none 0 0, .slice none 0 0] 26) ∧ W7.heap[w2.heap.size + 1]? = some (.cells #[.int .i64 1, .int .i64 0, .int .i64 1, .int .i64 0] 27) ∧ W7.heap[w6.heap.size + 1 + 1]? = some (.cells #[.int .u16 7, .bool false, .int .i64 0, .bool false, .bool false, .bool false, .bool false, .bool false, .bool false, .int .i64 0, .slice (some ⟨w6.heap.size + 1, 0, none⟩) 1 1, .slice none 0 0, .slice none 0 0, .slice none 0 0] 26) ∧ W7.heap[w6.heap.size + 1 + 1 + 1 + 1 + 1]? = some (.cells #[.int .u16 7, .bool true, .int .i64 0, .bool false, .bool false, .bool false, .bool false, .bool false, .bool false, .int .i64 0, .slice (some ⟨w6.heap.size + 1 + 1 + 1 + 1, 0, none⟩) 1 1, .slice none 0 0, .slice none 0 0, .slice none 0 0] 26)) :=
    ⟨HM6.out.1.trans (bw.mono HM6.out.1.size), (bw.block _ (block_lt HM6.out.2.1)).trans HM6.out.2.1, (bw.block _ (block_lt HM6.out.2.2)).trans HM6.out.2.2, ba, bb⟩
  have HLT : Hid (w2.heap.size + 1 < w6.heap.size) := block_lt HM6.out.2.2
  have KN : Hid (Calls Try.prog 14 #[.agg #[.int .u16 7, .bool true, .int .i64 0, .bool false, .bool false, .bool false, .bool false, .bool false, .bool false, .int .i64 0, .slice (some ⟨w6.heap.size + 1 + 1 + 1 + 1, 0, none⟩) 1 1, .slice none 0 0, .slice none 0 0, .slice none 0 0], .agg #[.int .u16 7, .bool false, .int .i64 0, .bool false, .bool false, .bool false, .bool false, .bool false, .bool false, .int .i64 0, .slice (some ⟨w6.heap.size + 1, 0, none⟩) 1 1, .slice none 0 0, .slice none 0 0, .slice none 0 0]] W7 fun e w' => e = .returned (.bool true) ∧ Below W7.heap.size W7 w') := Calls.mono (answers14 7 7 true false 0 0 false false false false false false false false false false false false 0 0 ⟨some ⟨w6.heap.size + 1 + 1 + 1 + 1, 0, none⟩, 1, 1⟩ ⟨some ⟨w6.heap.size + 1, 0, none⟩, 1, 1⟩ none none none none none none 0 0 0 0 0 0 0 0 0 0 0 0 _ _ W7 qb qa) (by
    rintro e w' ⟨rfl, hb⟩
    refine ⟨?_, hb⟩
    simp [ansF, known_sqs])
  clear qa qb ba bb bw HM6
  refine KN.out.mono ?_
  rintro e w8 ⟨rfl, hb8⟩
  have HM8 : Hid (Below w.heap.size w w8 ∧ w8.heap[w2.heap.size]? = some (.cells #[.int .u16 258, .bool true, .int .i64 0, .bool true, .bool false, .bool true, .bool false, .bool false, .bool false, .int .i64 3, .slice none 0 0, .slice none 0 0, .slice none 0 0, .slice none 0 0] 26) ∧ w8.heap[w2.heap.size + 1]? = some (.cells #[.int .i64 1, .int .i64 0, .int .i64 1, .int .i64 0] 27) ∧ w8.heap[w6.heap.size + 1 + 1]? = some (.cells #[.int .u16 7, .bool false, .int .i64 0, .bool false, .bool false, .bool false, .bool false, .bool false, .bool false, .int .i64 0, .slice (some ⟨w6.heap.size + 1, 0, none⟩) 1 1, .slice none 0 0, .slice none 0 0, .slice none 0 0] 26) ∧ w8.heap[w6.heap.size + 1 + 1 + 1 + 1 + 1]? = some (.cells #[.int .u16 7, .bool true, .int .i64 0, .bool false, .bool false, .bool false, .bool false, .bool false, .bool false, .int .i64 0, .slice (some ⟨w6.heap.size + 1 + 1 + 1 + 1, 0, none⟩) 1 1, .slice none 0 0, .slice none 0 0, .slice none 0 0] 26)) :=
    ⟨HM7.out.1.trans (hb8.mono HM7.out.1.size), (hb8.block _ (block_lt HM7.out.2.1)).trans HM7.out.2.1, (hb8.block _ (block_lt HM7.out.2.2.1)).trans HM7.out.2.2.1, (hb8.block _ (block_lt HM7.out.2.2.2.1)).trans HM7.out.2.2.2.1, (hb8.block _ (block_lt HM7.out.2.2.2.2)).trans HM7.out.2.2.2.2⟩
  clear hb8 HM7 KN
  have p17 := block_lt HM8.out.2.2.2.2
  have z0 : w8.cell? ⟨w6.heap.size + 1 + 1 + 1 + 1 + 1, 0, none⟩ = some (.int .u16 7) := cell_of_block HM8.out.2.2.2.2 rfl
  have f0 : w8.frozen? ⟨w6.heap.size + 1 + 1 + 1 + 1 + 1, 0, none⟩ = false := frozen_of_block HM8.out.2.2.2.2
  go_wp2_with fail
  refine (awake21 _).mono ?_
  rintro e w9 ⟨rfl, hb9⟩
  have HM9 : Hid (Below w.heap.size w w9 ∧ w9.heap[w2.heap.size]? = some (.cells #[.int .u16 258, .bool true, .int .i64 0, .bool true, .bool false, .bool true, .bool false, .bool false, .bool false, .int .i64 3, .slice none 0 0, .slice none 0 0, .slice none 0 0, .slice none 0 0] 26) ∧ w9.heap[w2.heap.size + 1]? = some (.cells #[.int .i64 1, .int .i64 0, .int .i64 1, .int .i64 0] 27) ∧ w9.heap[w6.heap.size + 1 + 1]? = some (.cells #[.int .u16 7, .bool false, .int .i64 0, .bool false, .bool false, .bool false, .bool false, .bool false, .bool false, .int .i64 0, .slice (some ⟨w6.heap.size + 1, 0, none⟩) 1 1, .slice none 0 0, .slice none 0 0, .slice none 0 0] 26) ∧ w9.heap[w6.heap.size + 1 + 1 + 1 + 1 + 1]? = some (.cells #[.int .u16 8, .bool true, .int .i64 0, .bool false, .bool false, .bool false, .bool false, .bool false, .bool false, .int .i64 0, .slice (some ⟨w6.heap.size + 1 + 1 + 1 + 1, 0, none⟩) 1 1, .slice none 0 0, .slice none 0 0, .slice none 0 0] 26)) := by
    have l1 := block_lt HM8.out.2.1
    have l2 := block_lt HM8.out.2.2.1
    have l3 := block_lt HM8.out.2.2.2.1
    have hl := HLT.out
    refine ⟨(HM8.out.1.setCell (p := ⟨_, _, none⟩) HW6.out _).trans (hb9.mono (by have := HM8.out.1.size; simp; omega)), (hb9.block _ (by simp <;> omega)).trans ((Below.heap_setCell _ _ _ _ (by simp <;> omega)).trans HM8.out.2.1), (hb9.block _ (by simp <;> omega)).trans ((Below.heap_setCell _ _ _ _ (by simp <;> omega)).trans HM8.out.2.2.1), (hb9.block _ (by simp <;> omega)).trans ((Below.heap_setCell _ _ _ _ (by simp <;> omega)).trans HM8.out.2.2.2.1), (hb9.block _ (by simp <;> omega)).trans ((upd_block HM8.out.2.2.2.2 _).trans rfl)⟩
  clear hb9 HM8 z0 f0
  have p0 := block_lt HM9.out.2.1
  have p1 := block_lt HM9.out.2.2.1
  have p2 := block_lt HM9.out.2.2.2.1
  have p3 := block_lt HM9.out.2.2.2.2
  have x0 : w9.cell? ⟨w2.heap.size, 0, none⟩ = some (.int .u16 258) := cell_of_block HM9.out.2.1 rfl
  have x1 : w9.cell? ⟨w2.heap.size, 1, none⟩ = some (.bool true) := cell_of_block HM9.out.2.1 rfl
  have x3 : w9.cell? ⟨w2.heap.size, 3, none⟩ = some (.bool true) := cell_of_block HM9.out.2.1 rfl
  have x5 : w9.cell? ⟨w2.heap.size, 5, none⟩ = some (.bool true) := cell_of_block HM9.out.2.1 rfl
  have x9 : w9.cell? ⟨w2.heap.size, 9, none⟩ = some (.int .i64 3) := cell_of_block HM9.out.2.1 rfl
  have y0 : w9.cell? ⟨w2.heap.size + 1, 0, none⟩ = some (.int .i64 1) := cell_of_block HM9.out.2.2.1 rfl
  have y1 : w9.cell? ⟨w2.heap.size + 1, 1, none⟩ = some (.int .i64 0) := cell_of_block HM9.out.2.2.1 rfl
  have y2 : w9.cell? ⟨w2.heap.size + 1, 2, none⟩ = some (.int .i64 1) := cell_of_block HM9.out.2.2.1 rfl
  have y3 : w9.cell? ⟨w2.heap.size + 1, 3, none⟩ = some (.int .i64 0) := cell_of_block HM9.out.2.2.1 rfl
  have q0 : w9.cell? ⟨w6.heap.size + 1 + 1, 0, none⟩ = some (.int .u16 7) := cell_of_block HM9.out.2.2.2.1 rfl
  have q1 : w9.cell? ⟨w6.heap.size + 1 + 1, 1, none⟩ = some (.bool false) := cell_of_block HM9.out.2.2.2.1 rfl
  have q2 : w9.cell? ⟨w6.heap.size + 1 + 1, 2, none⟩ = some (.int .i64 0) := cell_of_block HM9.out.2.2.2.1 rfl
  have q3 : w9.cell? ⟨w6.heap.size + 1 + 1, 3, none⟩ = some (.bool false) := cell_of_block HM9.out.2.2.2.1 rfl
  have q4 : w9.cell? ⟨w6.heap.size + 1 + 1, 4, none⟩ = some (.bool false) := cell_of_block HM9.out.2.2.2.1 rfl
  have q5 : w9.cell? ⟨w6.heap.size + 1 + 1, 5, none⟩ = some (.bool false) := cell_of_block HM9.out.2.2.2.1 rfl
  have q6 : w9.cell? ⟨w6.heap.size + 1 + 1, 6, none⟩ = some (.bool false) := cell_of_block HM9.out.2.2.2.1 rfl
  have q7 : w9.cell? ⟨w6.heap.size + 1 + 1, 7, none⟩ = some (.bool false) := cell_of_block HM9.out.2.2.2.1 rfl
  have q8 : w9.cell? ⟨w6.heap.size + 1 + 1, 8, none⟩ = some (.bool false) := cell_of_block HM9.out.2.2.2.1 rfl
  have q9 : w9.cell? ⟨w6.heap.size + 1 + 1, 9, none⟩ = some (.int .i64 0) := cell_of_block HM9.out.2.2.2.1 rfl
  have q10 : w9.cell? ⟨w6.heap.size + 1 + 1, 10, none⟩ = some (.slice (some ⟨w6.heap.size + 1, 0, none⟩) 1 1) := cell_of_block HM9.out.2.2.2.1 rfl
  have q11 : w9.cell? ⟨w6.heap.size + 1 + 1, 11, none⟩ = some (.slice none 0 0) := cell_of_block HM9.out.2.2.2.1 rfl
  have q12 : w9.cell? ⟨w6.heap.size + 1 + 1, 12, none⟩ = some (.slice none 0 0) := cell_of_block HM9.out.2.2.2.1 rfl
  have q13 : w9.cell? ⟨w6.heap.size + 1 + 1, 13, none⟩ = some (.slice none 0 0) := cell_of_block HM9.out.2.2.2.1 rfl
  have v0 : w9.cell? ⟨w6.heap.size + 1 + 1 + 1 + 1 + 1, 0, none⟩ = some (.int .u16 8) := cell_of_block HM9.out.2.2.2.2 rfl
  have v1 : w9.cell? ⟨w6.heap.size + 1 + 1 + 1 + 1 + 1, 1, none⟩ = some (.bool true) := cell_of_block HM9.out.2.2.2.2 rfl
  have v2 : w9.cell? ⟨w6.heap.size + 1 + 1 + 1 + 1 + 1, 2, none⟩ = some (.int .i64 0) := cell_of_block HM9.out.2.2.2.2 rfl
  have v3 : w9.cell? ⟨w6.heap.size + 1 + 1 + 1 + 1 + 1, 3, none⟩ = some (.bool false) := cell_of_block HM9.out.2.2.2.2 rfl
  have v4 : w9.cell? ⟨w6.heap.size + 1 + 1 + 1 + 1 + 1, 4, none⟩ = some (.bool false) := cell_of_block HM9.out.2.2.2.2 rfl
  have v5 : w9.cell? ⟨w6.heap.size + 1 + 1 + 1 + 1 + 1, 5, none⟩ = some (.bool false) := cell_of_block HM9.out.2.2.2.2 rfl
  have v6 : w9.cell? ⟨w6.heap.size + 1 + 1 + 1 + 1 + 1, 6, none⟩ = some (.bool false) := cell_of_block HM9.out.2.2.2.2 rfl
  have v7 : w9.cell? ⟨w6.heap.size + 1 + 1 + 1 + 1 + 1, 7, none⟩ = some (.bool false) := cell_of_block HM9.out.2.2.2.2 rfl
  have v8 : w9.cell? ⟨w6.heap.size + 1 + 1 + 1 + 1 + 1, 8, none⟩ = some (.bool false) := cell_of_block HM9.out.2.2.2.2 rfl
  have v9 : w9.cell? ⟨w6.heap.size + 1 + 1 + 1 + 1 + 1, 9, none⟩ = some (.int .i64 0) := cell_of_block HM9.out.2.2.2.2 rfl
  have v10 : w9.cell? ⟨w6.heap.size + 1 + 1 + 1 + 1 + 1, 10, none⟩ = some (.slice (some ⟨w6.heap.size + 1 + 1 + 1 + 1, 0, none⟩) 1 1) := cell_of_block HM9.out.2.2.2.2 rfl
  have v11 : w9.cell? ⟨w6.heap.size + 1 + 1 + 1 + 1 + 1, 11, none⟩ = some (.slice none 0 0) := cell_of_block HM9.out.2.2.2.2 rfl
  have v12 : w9.cell? ⟨w6.heap.size + 1 + 1 + 1 + 1 + 1, 12, none⟩ = some (.slice none 0 0) := cell_of_block HM9.out.2.2.2.2 rfl
  have v13 : w9.cell? ⟨w6.heap.size + 1 + 1 + 1 + 1 + 1, 13, none⟩ = some (.slice none 0 0) := cell_of_block HM9.out.2.2.2.2 rfl
  have KX : Hid (Calls Try.prog 14 #[.agg #[.int .u16 8, .bool true, .int .i64 0, .bool false, .bool false, .bool false, .bool false, .bool false, .bool false, .int .i64 0, .slice (some ⟨w6.heap.size + 1 + 1 + 1 + 1, 0, none⟩) 1 1, .slice none 0 0, .slice none 0 0, .slice none 0 0], .agg #[.int .u16 7, .bool false, .int .i64 0, .bool false, .bool false, .bool false, .bool false, .bool false, .bool false, .int .i64 0, .slice (some ⟨w6.heap.size + 1, 0, none⟩) 1 1, .slice none 0 0, .slice none 0 0, .slice none 0 0]] w9 fun e w' => e = .returned (.bool false) ∧ Below w9.heap.size w9 w') := answers_id 8 7 (by omega) 0 0 false false false false false false false false false false false false 0 0 (some ⟨w6.heap.size + 1 + 1 + 1 + 1, 0, none⟩) none none none (some ⟨w6.heap.size + 1, 0, none⟩) none none none 1 0 0 0 1 0 0 0 1 0 0 0 1 0 0 0 w9
  go_wp2_with fail
  refine KX.out.mono ?_
  rintro e w10 ⟨rfl, hb10⟩
  go_wp2
  go_ret
  exact ⟨rfl, HM9.out.1.trans (hb10.mono HM9.out.1.size)⟩
end Go.Proofs.Ytmlccnpondemiaa
