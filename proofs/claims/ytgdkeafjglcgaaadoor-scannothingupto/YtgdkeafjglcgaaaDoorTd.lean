/- awake: the document's examples. -/
import Derived.Test.YtgdkeafjglcgaaaDoorTc
namespace Go.Proofs.YtgdkeafjglcgaaaDoor
open Go.ChangeShapes Go.WideShapes Go.ChangeAt Go.RowKit
set_option linter.unusedVariables false
set_option linter.unusedSimpArgs false


theorem rds_new (w : World) (ss : List ByteArray) : RdS (w.alloc (.cells (ss.map Value.string).toArray 9)) (some ⟨w.heap.size, 0, none⟩) ss := by
  refine .inr ⟨w.heap.size, 0, rfl, by simp, fun i hi => ?_⟩
  unfold World.cell?
  rw [heap_alloc_new]
  simp [hi]
theorem le_new (w : World) (ps : List (Sl × En)) (h : ∀ p ∈ ps, WRd w p.1 p.2.ws) (hn : ps.length ≤ 1000) : LE (w.alloc (.cells (cellsE ps).toArray 34)) ⟨some ⟨w.heap.size, 0, none⟩, ps.length, ps.length⟩ (ps.map (·.2)) := by
  refine ⟨by simp, by simp, by simp only; omega, .inr ⟨w.heap.size, 0, rfl, by simp, fun i hi => ?_⟩⟩
  have hi' : i < ps.length := by simpa using hi
  have hgi : (ps.map (·.2))[i] = ps[i].2 := by simp
  have cc : ∀ j (hj : j < 3), (w.alloc (.cells (cellsE ps).toArray 34)).cell? ⟨w.heap.size, 0 + (i * 3 + j), none⟩ = (eCells ps[i].1 ps[i].2)[j]? := fun j hj => by
    rw [← cellsE_at ps i hi' j hj]
    unfold World.cell?
    rw [heap_alloc_new]
    simp
  rw [hgi]
  exact ⟨ps[i].1, cc 0 (by omega), by simpa [Nat.add_assoc, eCells] using cc 1 (by omega), by simpa [Nat.add_assoc, eCells] using cc 2 (by omega), (h ps[i] (List.getElem_mem _)).below (alp_below _ _)⟩
theorem row_wrd' {B n c : Nat} {w : World} {a : Option Addr} {ws : List Wd} (h : w.ownsRow B 44 2 (.slice a n c) n (cellsW ws)) (hn : ws.length = n) : WRd w ⟨a, n, c⟩ ws := by
  subst hn
  obtain ⟨x, hx, h2⟩ := row_wrd h
  have e : x = ⟨a, ws.length, c⟩ := by
    cases x; simp only [Value.slice.injEq] at hx; obtain ⟨rfl, rfl, rfl⟩ := hx; rfl
  rw [← e]; exact h2
def bA : ByteArray := ⟨#[97]⟩
theorem ex1 : entsF [97, 32, 98, 59, 32, 99] = .ok [⟨1, false, [(⟨#[97]⟩, false), (⟨#[98]⟩, false)]⟩] := by kernel_rfl
theorem ex2 : entsF [32, 120, 10, 121] = .ok [⟨1, true, [(⟨#[120]⟩, false)]⟩, ⟨2, false, [(⟨#[121]⟩, false)]⟩] := by kernel_rfl
theorem tw1 (c : UInt8) : tW ⟨#[c]⟩ = (⟨#[c]⟩, false) := by unfold tW; rw [dif_neg (by show ¬ 2 ≤ 1; omega)]
/-- T of texts that lie in a block of their own. -/
def TP (w0 : World) (n : Nat) (ws : List Wd) (e : Ending) (w' : World) : Prop := ∃ ao cc, e = .returned (.slice ao n cc) ∧ Hid (WRd w' ⟨ao, n, cc⟩ ws ∧ Below w0.heap.size w0 w')
theorem t15_new (w : World) (ss : List ByteArray) (n : Nat) (hn : ss.length = n) (h1 : n ≤ 1000) (hs : ∀ s ∈ ss, s.size ≤ 1000000) : Calls Tryd.prog 13 #[.slice (some ⟨w.heap.size, 0, none⟩) n n] (w.alloc (.cells (ss.map Value.string).toArray 9)) (TP w n (ss.map tW)) := by
  refine (t15 _ n n ss _ (rds_new w ss) hn (Nat.le_refl _) h1 h1 hs).mono ?_
  rintro e w' ⟨ao, cc, rfl, H⟩
  exact ⟨ao, cc, rfl, row_wrd' H.out.1 (by simpa using hn), (alp_below _ _).trans (H.out.2.mono (alp_below _ _).size)⟩
set_option maxRecDepth 100000 in
set_option maxHeartbeats 2000000 in
theorem awake10 (w : World) : Calls Tryd.prog 4 #[] w fun e w' => e = .returned (.bool true) ∧ Hid (Below w.heap.size w w') := by
  have KT2 : Hid (∀ W, Calls Tryd.prog 13 #[.slice (some ⟨W.heap.size, 0, none⟩) 2 2] (W.alloc (.cells #[.string ⟨#[97]⟩, .string ⟨#[98]⟩] 9)) (TP W 2 [(⟨#[97]⟩, false), (⟨#[98]⟩, false)])) := fun W => by
    have := t15_new W [⟨#[97]⟩, ⟨#[98]⟩] 2 rfl (by omega) (by simp; exact ⟨by show 1 ≤ 1000000; omega, by show 1 ≤ 1000000; omega⟩)
    simp only [List.map_cons, List.map_nil, tw1] at this
    exact this
  have KT1 : Hid (∀ W c, Calls Tryd.prog 13 #[.slice (some ⟨W.heap.size, 0, none⟩) 1 1] (W.alloc (.cells #[.string ⟨#[c]⟩] 9)) (TP W 1 [(⟨#[c]⟩, false)])) := fun W c => by
    have := t15_new W [⟨#[c]⟩] 1 rfl (by omega) (by simp; show 1 ≤ 1000000; omega)
    simp only [List.map_cons, List.map_nil, tw1] at this
    exact this
  go_enter Tryd.func4, Tryd.ntmps4
  go_wp2_with fail
  refine (KT2.out _).mono ?_
  rintro e w1 ⟨ao, cc, rfl, H1⟩
  have K14 : Hid (Calls Tryd.prog 12 #[.string ⟨#[97, 32, 98, 59, 32, 99]⟩, .slice (some ⟨w1.heap.size, 0, none⟩) 1 1] (w1.alloc (.cells #[.int .i64 1, .bool false, .slice ao 2 cc] 34)) fun e w' => e = .returned (.bool true) ∧ Hid (Below (w1.alloc (.cells #[.int .i64 1, .bool false, .slice ao 2 cc] 34)).heap.size (w1.alloc (.cells #[.int .i64 1, .bool false, .slice ao 2 cc] 34)) w')) := reads14 _ ⟨some ⟨w1.heap.size, 0, none⟩, 1, 1⟩ _ _ (le_new w1 [(⟨ao, 2, cc⟩, ⟨1, false, [(⟨#[97]⟩, false), (⟨#[98]⟩, false)]⟩)] (by simp; exact H1.out.1) (by simp)) ex1
  have HB1 : Hid (Below w.heap.size w (w1.alloc (.cells #[.int .i64 1, .bool false, .slice ao 2 cc] 34))) := H1.out.2.trans ((alp_below _ _).mono H1.out.2.size)
  go_wp2_with fail
  refine K14.out.mono ?_
  rintro e w2 ⟨rfl, H2⟩
  have HB2 : Hid (Below w.heap.size w w2) := HB1.out.trans (H2.out.mono HB1.out.size)
  clear H1 K14 H2 HB1 KT2
  go_wp2_with fail
  refine (KT1.out _ _).mono ?_
  rintro e w3 ⟨ao3, cc3, rfl, H3⟩
  have HB3 : Hid (Below w.heap.size w w3) := HB2.out.trans (H3.out.2.mono HB2.out.size)
  go_wp2_with fail
  refine (KT1.out _ _).mono ?_
  rintro e w4 ⟨ao4, cc4, rfl, H4⟩
  have HB4 : Hid (Below w.heap.size w w4) := HB3.out.trans (H4.out.2.mono HB3.out.size)
  have K14 : Hid (Calls Tryd.prog 12 #[.string ⟨#[32, 120, 10, 121]⟩, .slice (some ⟨w4.heap.size, 0, none⟩) 2 2] (w4.alloc (.cells #[.int .i64 1, .bool true, .slice ao3 1 cc3, .int .i64 2, .bool false, .slice ao4 1 cc4] 34)) fun e w' => e = .returned (.bool true) ∧ Hid (Below (w4.alloc (.cells #[.int .i64 1, .bool true, .slice ao3 1 cc3, .int .i64 2, .bool false, .slice ao4 1 cc4] 34)).heap.size (w4.alloc (.cells #[.int .i64 1, .bool true, .slice ao3 1 cc3, .int .i64 2, .bool false, .slice ao4 1 cc4] 34)) w')) := reads14 _ ⟨some ⟨w4.heap.size, 0, none⟩, 2, 2⟩ _ _ (le_new w4 [(⟨ao3, 1, cc3⟩, ⟨1, true, [(⟨#[120]⟩, false)]⟩), (⟨ao4, 1, cc4⟩, ⟨2, false, [(⟨#[121]⟩, false)]⟩)] (by simp; exact ⟨H3.out.1.below H4.out.2, H4.out.1⟩) (by simp)) ex2
  have HB5 : Hid (Below w.heap.size w (w4.alloc (.cells #[.int .i64 1, .bool true, .slice ao3 1 cc3, .int .i64 2, .bool false, .slice ao4 1 cc4] 34))) := HB4.out.trans ((alp_below _ _).mono HB4.out.size)
  go_wp2_with fail
  refine K14.out.mono ?_
  rintro e w6 ⟨rfl, H6⟩
  go_wp2_with fail
  go_ret
  exact ⟨rfl, HB5.out.trans (H6.out.mono HB5.out.size)⟩
end Go.Proofs.YtgdkeafjglcgaaaDoor
