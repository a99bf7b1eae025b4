/- nomenclatorkit.SameMessage of messages with the same fields, over what is told of their lists. -/
import Derived.Test.YtmlccnpondemiaaVf
namespace Go.Proofs.Ytmlccnpondemiaa
open Go.ChangeShapes Go.WideShapes Go.ChangeAt Go.RowKit
set_option linter.unusedVariables false
set_option linter.unusedSimpArgs false

/-- Two lists are told the same by f, whatever is made besides. -/
def Sames (f : Nat) (w : World) (x y : Value) : Prop := ∀ W, Below w.heap.size w W → Calls Try.prog f #[x, y] W fun e w' => e = .returned (.bool true) ∧ Below W.heap.size W w'
theorem sames33_nil (w : World) : Sames 33 w (.slice none 0 0) (.slice none 0 0) := by
  intro W _
  go_enter Try.func33, Try.ntmps33
  go_wp2
  go_loopw [5] (fun y wr => y = .int .i64 0 ∧ wr = W) (fun _ _ => 0)
  case atStart => exact ⟨rfl, rfl⟩
  case round =>
    obtain ⟨rfl, rfl⟩ := hrel
    go_wp2
    go_ret
    exact ⟨rfl, Below.refl _ _⟩
theorem sames34_nil (w : World) : Sames 34 w (.slice none 0 0) (.slice none 0 0) := by
  intro W _
  go_enter Try.func34, Try.ntmps34
  go_wp2
  go_loopw [5] (fun y wr => y = .int .i64 0 ∧ wr = W) (fun _ _ => 0)
  case atStart => exact ⟨rfl, rfl⟩
  case round =>
    obtain ⟨rfl, rfl⟩ := hrel
    go_wp2
    go_ret
    exact ⟨rfl, Below.refl _ _⟩

set_option maxRecDepth 100000 in
set_option maxHeartbeats 4000000 in
theorem sameM (id : Int) (rs : Bool) (op : Int) (aa tc rd ra ad cd : Bool) (rc : Int) (a1 a2 a3 a4 d1 d2 d3 d4 : Option Addr) (n1 n2 n3 n4 c1 c2 c3 c4 m1 m2 m3 m4 k1 k2 k3 k4 : Nat) (w : World)
    (h1 : Sames 33 w (.slice a1 n1 c1) (.slice d1 m1 k1)) (h2 : Sames 34 w (.slice a2 n2 c2) (.slice d2 m2 k2)) (h3 : Sames 34 w (.slice a3 n3 c3) (.slice d3 m3 k3)) (h4 : Sames 34 w (.slice a4 n4 c4) (.slice d4 m4 k4)) :
    Calls Try.prog 16 #[.agg #[.int .u16 id, .bool rs, .int .i64 op, .bool aa, .bool tc, .bool rd, .bool ra, .bool ad, .bool cd, .int .i64 rc, .slice a1 n1 c1, .slice a2 n2 c2, .slice a3 n3 c3, .slice a4 n4 c4], .agg #[.int .u16 id, .bool rs, .int .i64 op, .bool aa, .bool tc, .bool rd, .bool ra, .bool ad, .bool cd, .int .i64 rc, .slice d1 m1 k1, .slice d2 m2 k2, .slice d3 m3 k3, .slice d4 m4 k4]] w fun e w' => e = .returned (.bool true) ∧ Below w.heap.size w w' := by
  have H1 : Hid (Sames 33 w (.slice a1 n1 c1) (.slice d1 m1 k1)) := h1
  have H2 : Hid (Sames 34 w (.slice a2 n2 c2) (.slice d2 m2 k2)) := h2
  have H3 : Hid (Sames 34 w (.slice a3 n3 c3) (.slice d3 m3 k3)) := h3
  have H4 : Hid (Sames 34 w (.slice a4 n4 c4) (.slice d4 m4 k4)) := h4
  clear h1 h2 h3 h4
  go_enter Try.func16, Try.ntmps16
  go_wp2_with fail
  obtain ⟨W0, hW0⟩ : ∃ W0, W0 = (w.alloc (.cells #[.int .u16 id, .bool rs, .int .i64 op, .bool aa, .bool tc, .bool rd, .bool ra, .bool ad, .bool cd, .int .i64 rc, .slice a1 n1 c1, .slice a2 n2 c2, .slice a3 n3 c3, .slice a4 n4 c4] 26)).alloc (.cells #[.int .u16 id, .bool rs, .int .i64 op, .bool aa, .bool tc, .bool rd, .bool ra, .bool ad, .bool cd, .int .i64 rc, .slice d1 m1 k1, .slice d2 m2 k2, .slice d3 m3 k3, .slice d4 m4 k4] 26) := ⟨_, rfl⟩
  rw [← hW0]
  have HB0 : Hid (Below w.heap.size w W0 ∧ W0.heap[w.heap.size]? = some (.cells #[.int .u16 id, .bool rs, .int .i64 op, .bool aa, .bool tc, .bool rd, .bool ra, .bool ad, .bool cd, .int .i64 rc, .slice a1 n1 c1, .slice a2 n2 c2, .slice a3 n3 c3, .slice a4 n4 c4] 26) ∧ W0.heap[w.heap.size + 1]? = some (.cells #[.int .u16 id, .bool rs, .int .i64 op, .bool aa, .bool tc, .bool rd, .bool ra, .bool ad, .bool cd, .int .i64 rc, .slice d1 m1 k1, .slice d2 m2 k2, .slice d3 m3 k3, .slice d4 m4 k4] 26)) := by
    rw [hW0]
    refine ⟨((Below.refl _ _).alloc (Nat.le_refl _) _).alloc (by simp) _, block_alloc (alloc_at _ _) _, ?_⟩
    have := alloc_at (w.alloc (.cells #[.int .u16 id, .bool rs, .int .i64 op, .bool aa, .bool tc, .bool rd, .bool ra, .bool ad, .bool cd, .int .i64 rc, .slice a1 n1 c1, .slice a2 n2 c2, .slice a3 n3 c3, .slice a4 n4 c4] 26)) (.cells #[.int .u16 id, .bool rs, .int .i64 op, .bool aa, .bool tc, .bool rd, .bool ra, .bool ad, .bool cd, .int .i64 rc, .slice d1 m1 k1, .slice d2 m2 k2, .slice d3 m3 k3, .slice d4 m4 k4] 26)
    simp only [World.size_alloc] at this
    exact this
  clear hW0
  refine (H1.out W0 HB0.out.1).mono ?_
  rintro e w1 ⟨rfl, hb1⟩
  have HB1 : Hid (Below w.heap.size w w1 ∧ w1.heap[w.heap.size]? = some (.cells #[.int .u16 id, .bool rs, .int .i64 op, .bool aa, .bool tc, .bool rd, .bool ra, .bool ad, .bool cd, .int .i64 rc, .slice a1 n1 c1, .slice a2 n2 c2, .slice a3 n3 c3, .slice a4 n4 c4] 26) ∧ w1.heap[w.heap.size + 1]? = some (.cells #[.int .u16 id, .bool rs, .int .i64 op, .bool aa, .bool tc, .bool rd, .bool ra, .bool ad, .bool cd, .int .i64 rc, .slice d1 m1 k1, .slice d2 m2 k2, .slice d3 m3 k3, .slice d4 m4 k4] 26)) := ⟨HB0.out.1.trans (hb1.mono HB0.out.1.size), (hb1.block _ (block_lt HB0.out.2.1)).trans HB0.out.2.1, (hb1.block _ (block_lt HB0.out.2.2)).trans HB0.out.2.2⟩
  clear hb1
  have p1 := block_lt HB1.out.2.1
  have q1 := block_lt HB1.out.2.2
  have x1 : w1.cell? ⟨w.heap.size, 11, none⟩ = some (.slice a2 n2 c2) := cell_of_block HB1.out.2.1 rfl
  have y1 : w1.cell? ⟨w.heap.size + 1, 11, none⟩ = some (.slice d2 m2 k2) := cell_of_block HB1.out.2.2 rfl
  go_wp2_with fail
  refine (H2.out w1 HB1.out.1).mono ?_
  rintro e w2 ⟨rfl, hb2⟩
  have HB2 : Hid (Below w.heap.size w w2 ∧ w2.heap[w.heap.size]? = some (.cells #[.int .u16 id, .bool rs, .int .i64 op, .bool aa, .bool tc, .bool rd, .bool ra, .bool ad, .bool cd, .int .i64 rc, .slice a1 n1 c1, .slice a2 n2 c2, .slice a3 n3 c3, .slice a4 n4 c4] 26) ∧ w2.heap[w.heap.size + 1]? = some (.cells #[.int .u16 id, .bool rs, .int .i64 op, .bool aa, .bool tc, .bool rd, .bool ra, .bool ad, .bool cd, .int .i64 rc, .slice d1 m1 k1, .slice d2 m2 k2, .slice d3 m3 k3, .slice d4 m4 k4] 26)) := ⟨HB1.out.1.trans (hb2.mono HB1.out.1.size), (hb2.block _ (block_lt HB1.out.2.1)).trans HB1.out.2.1, (hb2.block _ (block_lt HB1.out.2.2)).trans HB1.out.2.2⟩
  clear hb2
  have p2 := block_lt HB2.out.2.1
  have q2 := block_lt HB2.out.2.2
  have x2 : w2.cell? ⟨w.heap.size, 12, none⟩ = some (.slice a3 n3 c3) := cell_of_block HB2.out.2.1 rfl
  have y2 : w2.cell? ⟨w.heap.size + 1, 12, none⟩ = some (.slice d3 m3 k3) := cell_of_block HB2.out.2.2 rfl
  go_wp2_with fail
  refine (H3.out w2 HB2.out.1).mono ?_
  rintro e w3 ⟨rfl, hb3⟩
  have HB3 : Hid (Below w.heap.size w w3 ∧ w3.heap[w.heap.size]? = some (.cells #[.int .u16 id, .bool rs, .int .i64 op, .bool aa, .bool tc, .bool rd, .bool ra, .bool ad, .bool cd, .int .i64 rc, .slice a1 n1 c1, .slice a2 n2 c2, .slice a3 n3 c3, .slice a4 n4 c4] 26) ∧ w3.heap[w.heap.size + 1]? = some (.cells #[.int .u16 id, .bool rs, .int .i64 op, .bool aa, .bool tc, .bool rd, .bool ra, .bool ad, .bool cd, .int .i64 rc, .slice d1 m1 k1, .slice d2 m2 k2, .slice d3 m3 k3, .slice d4 m4 k4] 26)) := ⟨HB2.out.1.trans (hb3.mono HB2.out.1.size), (hb3.block _ (block_lt HB2.out.2.1)).trans HB2.out.2.1, (hb3.block _ (block_lt HB2.out.2.2)).trans HB2.out.2.2⟩
  clear hb3
  have p3 := block_lt HB3.out.2.1
  have q3 := block_lt HB3.out.2.2
  have x3 : w3.cell? ⟨w.heap.size, 13, none⟩ = some (.slice a4 n4 c4) := cell_of_block HB3.out.2.1 rfl
  have y3 : w3.cell? ⟨w.heap.size + 1, 13, none⟩ = some (.slice d4 m4 k4) := cell_of_block HB3.out.2.2 rfl
  go_wp2_with fail
  refine (H4.out w3 HB3.out.1).mono ?_
  rintro e w4 ⟨rfl, hb4⟩
  have HB4 : Hid (Below w.heap.size w w4 ∧ w4.heap[w.heap.size]? = some (.cells #[.int .u16 id, .bool rs, .int .i64 op, .bool aa, .bool tc, .bool rd, .bool ra, .bool ad, .bool cd, .int .i64 rc, .slice a1 n1 c1, .slice a2 n2 c2, .slice a3 n3 c3, .slice a4 n4 c4] 26) ∧ w4.heap[w.heap.size + 1]? = some (.cells #[.int .u16 id, .bool rs, .int .i64 op, .bool aa, .bool tc, .bool rd, .bool ra, .bool ad, .bool cd, .int .i64 rc, .slice d1 m1 k1, .slice d2 m2 k2, .slice d3 m3 k3, .slice d4 m4 k4] 26)) := ⟨HB3.out.1.trans (hb4.mono HB3.out.1.size), (hb4.block _ (block_lt HB3.out.2.1)).trans HB3.out.2.1, (hb4.block _ (block_lt HB3.out.2.2)).trans HB3.out.2.2⟩
  clear hb4
  go_wp2
  go_ret
  exact ⟨rfl, HB4.out.1⟩
end Go.Proofs.Ytmlccnpondemiaa
