/- HeaderReads' walk. -/
import Derived.Test.YtmlccnpondemiaaVj
import Derived.Test.YtmlccnpondemiaaVg
import Derived.Test.YtmlccnpondemiaaLnt
namespace Go.Proofs.Ytmlccnpondemiaa
open Go.ChangeShapes Go.WideShapes Go.ChangeAt Go.RowKit
set_option linter.unusedVariables false
set_option linter.unusedSimpArgs false

set_option maxRecDepth 100000 in
set_option maxHeartbeats 8000000 in
theorem readsL (a : Option Addr) (len cap : Nat) (zs : List Int) (w : World) (hr : Rd w a zs) (hl : zs.length = len) (hc : len ≤ cap) (hm : len ≤ 140737488355328) (hm2 : cap ≤ 9223372036854775807) (hd : a = none → cap = 0) :
    Calls Try.prog 4 #[.slice a len cap] w fun e w' => e = .returned (.bool true) ∧ Below w.heap.size w w' := by
  subst hl
  have KL := Lib.hid (lent_any a cap zs w hr hd hm)
  have HR : Hid (Rd w a zs) := hr
  have HD : Hid (a = none → cap = 0) := hd
  have heq := equalA
  obtain ⟨n, hn⟩ : ∃ n, n = zs.length := ⟨_, rfl⟩
  rw [← hn] at KL hc hm ⊢
  have HL : Hid (zs.length = n) := hn.symm
  clear hn hr hd
  go_enter Try.func4, Try.ntmps4
  go_wp2_with fail
  refine KL.out.mono ?_
  rintro e w1 ⟨rfl, hblk, hsz, hb1⟩
  have HB1 : Hid (Blk w1 w.heap.size (lent zs 3) ∧ Below w.heap.size w w1) := ⟨hblk, hb1⟩
  have HR1 : Hid (Rd w1 (some ⟨w.heap.size, 0, none⟩) zs) := by
    have := hblk.rd zs.length
    rw [lent_take] at this
    exact this
  clear KL hblk hsz hb1
  have KR := Lib.hid (read18 (some ⟨w.heap.size, 0, none⟩) n (n + 3) zs w1 HR1.out HL.out (by omega) (by omega))
  have KF : ∀ W, Below w.heap.size w W → Hid (Calls Try.prog 19 #[.slice a n cap] W fun e w' => RdPost W zs e w') := fun W hb => ref19 a n cap zs W (HR.out.below hb) HL.out hc hm2
  have KK : ∀ W, Below w1.heap.size w1 W → Hid (Calls Try.prog 20 #[.slice (some ⟨w.heap.size, 0, none⟩) n (n + 3), .slice a n cap] W fun e w' => e = .returned (.bool true) ∧ Below W.heap.size W w') := fun W hb => kept_yes w.heap.size a cap n zs W HL.out (HB1.out.1.below hb) (HR.out.below (HB1.out.2.trans (hb.mono HB1.out.2.size))) HD.out hm hc
  by_cases hq : zs.length < 12 ∨ unfl (nv zs 1) 64 = true
  · have KR' : Hid (Calls Try.prog 18 #[.slice (some ⟨w.heap.size, 0, none⟩) n (n + 3)] w1 fun e w' => e = .returned (.tuple #[.agg #[.int .u16 0, .bool false, .int .i64 0, .bool false, .bool false, .bool false, .bool false, .bool false, .bool false, .int .i64 0, .slice none 0 0, .slice none 0 0, .slice none 0 0, .slice none 0 0], .agg #[.int .i64 0, .int .i64 0, .int .i64 0, .int .i64 0], .int .i64 8]) ∧ Below w1.heap.size w1 w') := KR.out.mono (by rintro e w' ⟨h, _, hb⟩; exact ⟨h hq, hb⟩)
    have KF' : ∀ W, Below w.heap.size w W → Hid (Calls Try.prog 19 #[.slice a n cap] W fun e w' => e = .returned (.tuple #[.agg #[.int .u16 0, .bool false, .int .i64 0, .bool false, .bool false, .bool false, .bool false, .bool false, .bool false, .int .i64 0, .slice none 0 0, .slice none 0 0, .slice none 0 0, .slice none 0 0], .agg #[.int .i64 0, .int .i64 0, .int .i64 0, .int .i64 0], .int .i64 8]) ∧ Below W.heap.size W w') := fun W hb => (KF W hb).out.mono (by rintro e w' ⟨h, _, hb⟩; exact ⟨h hq, hb⟩)
    clear KR KF hq
    go_wp2_with fail
    refine KR'.out.mono ?_
    rintro e w2 ⟨rfl, hb2⟩
    have HB2 : Hid (Below w1.heap.size w1 w2 ∧ Below w.heap.size w w2) := ⟨hb2, HB1.out.2.trans (hb2.mono HB1.out.2.size)⟩
    have HX : Hid (Below w.heap.size w ((w2.alloc (.cells #[.int .u16 0, .bool false, .int .i64 0, .bool false, .bool false, .bool false, .bool false, .bool false, .bool false, .int .i64 0, .slice none 0 0, .slice none 0 0, .slice none 0 0, .slice none 0 0] 26)).alloc (.cells #[.int .i64 0, .int .i64 0, .int .i64 0, .int .i64 0] 27))) := (HB2.out.2.alloc HB2.out.2.size _).alloc (by have := HB2.out.2.size; simp; omega) _
    clear hb2
    go_wp2_with fail
    refine (KF' _ HX.out).out.mono ?_
    rintro e w3 ⟨rfl, hb3⟩
    have HM3 : Hid (Below w1.heap.size w1 w3 ∧ Below w.heap.size w w3 ∧ w3.heap[w2.heap.size]? = some (.cells #[.int .u16 0, .bool false, .int .i64 0, .bool false, .bool false, .bool false, .bool false, .bool false, .bool false, .int .i64 0, .slice none 0 0, .slice none 0 0, .slice none 0 0, .slice none 0 0] 26) ∧ w3.heap[w2.heap.size + 1]? = some (.cells #[.int .i64 0, .int .i64 0, .int .i64 0, .int .i64 0] 27)) := by
      have hs1 := HB2.out.1.size
      have hs2 := HB2.out.2.size
      refine ⟨((HB2.out.1.alloc hs1 _).alloc (by simp; omega) _).trans (hb3.mono (by simp; omega)), HX.out.trans (hb3.mono (by simp; omega)), (hb3.block _ (by simp; omega)).trans (block_alloc (alloc_at _ _) _), (hb3.block _ (by simp)).trans ?_⟩
      have := alloc_at (w2.alloc (.cells #[.int .u16 0, .bool false, .int .i64 0, .bool false, .bool false, .bool false, .bool false, .bool false, .bool false, .int .i64 0, .slice none 0 0, .slice none 0 0, .slice none 0 0, .slice none 0 0] 26)) (.cells #[.int .i64 0, .int .i64 0, .int .i64 0, .int .i64 0] 27)
      simp only [World.size_alloc] at this
      exact this
    clear hb3 HX
    have p0 := block_lt HM3.out.2.2.1
    have p1 := block_lt HM3.out.2.2.2
    have x0 : w3.cell? ⟨w2.heap.size, 0, none⟩ = some (.int .u16 0) := cell_of_block HM3.out.2.2.1 rfl
    have x1 : w3.cell? ⟨w2.heap.size, 1, none⟩ = some (.bool false) := cell_of_block HM3.out.2.2.1 rfl
    have x2 : w3.cell? ⟨w2.heap.size, 2, none⟩ = some (.int .i64 0) := cell_of_block HM3.out.2.2.1 rfl
    have x3 : w3.cell? ⟨w2.heap.size, 3, none⟩ = some (.bool false) := cell_of_block HM3.out.2.2.1 rfl
    have x4 : w3.cell? ⟨w2.heap.size, 4, none⟩ = some (.bool false) := cell_of_block HM3.out.2.2.1 rfl
    have x5 : w3.cell? ⟨w2.heap.size, 5, none⟩ = some (.bool false) := cell_of_block HM3.out.2.2.1 rfl
    have x6 : w3.cell? ⟨w2.heap.size, 6, none⟩ = some (.bool false) := cell_of_block HM3.out.2.2.1 rfl
    have x7 : w3.cell? ⟨w2.heap.size, 7, none⟩ = some (.bool false) := cell_of_block HM3.out.2.2.1 rfl
    have x8 : w3.cell? ⟨w2.heap.size, 8, none⟩ = some (.bool false) := cell_of_block HM3.out.2.2.1 rfl
    have x9 : w3.cell? ⟨w2.heap.size, 9, none⟩ = some (.int .i64 0) := cell_of_block HM3.out.2.2.1 rfl
    have x10 : w3.cell? ⟨w2.heap.size, 10, none⟩ = some (.slice none 0 0) := cell_of_block HM3.out.2.2.1 rfl
    have x11 : w3.cell? ⟨w2.heap.size, 11, none⟩ = some (.slice none 0 0) := cell_of_block HM3.out.2.2.1 rfl
    have x12 : w3.cell? ⟨w2.heap.size, 12, none⟩ = some (.slice none 0 0) := cell_of_block HM3.out.2.2.1 rfl
    have x13 : w3.cell? ⟨w2.heap.size, 13, none⟩ = some (.slice none 0 0) := cell_of_block HM3.out.2.2.1 rfl
    go_wp2_with fail
    refine (sameM 0 false 0 false false false false false false 0 none none none none none none none none 0 0 0 0 0 0 0 0 0 0 0 0 0 0 0 0 _ (sames33_nil _) (sames34_nil _) (sames34_nil _) (sames34_nil _)).mono ?_
    rintro e w4 ⟨rfl, hb4⟩
    have HM4 : Hid (Below w1.heap.size w1 w4 ∧ Below w.heap.size w w4 ∧ w4.heap[w2.heap.size + 1]? = some (.cells #[.int .i64 0, .int .i64 0, .int .i64 0, .int .i64 0] 27) ∧ w4.heap[w3.heap.size + 1]? = some (.cells #[.int .i64 0, .int .i64 0, .int .i64 0, .int .i64 0] 27)) := by
      have hs1 := HM3.out.1.size
      have hs2 := HM3.out.2.1.size
      refine ⟨((HM3.out.1.alloc hs1 _).alloc (by simp; omega) _).trans (hb4.mono (by simp; omega)), ((HM3.out.2.1.alloc hs2 _).alloc (by simp; omega) _).trans (hb4.mono (by simp; omega)), (hb4.block _ (by simp; omega)).trans (block_alloc (block_alloc HM3.out.2.2.2 _) _), (hb4.block _ (by simp)).trans ?_⟩
      have := alloc_at (w3.alloc (.cells #[.int .u16 0, .bool false, .int .i64 0, .bool false, .bool false, .bool false, .bool false, .bool false, .bool false, .int .i64 0, .slice none 0 0, .slice none 0 0, .slice none 0 0, .slice none 0 0] 26)) (.cells #[.int .i64 0, .int .i64 0, .int .i64 0, .int .i64 0] 27)
      simp only [World.size_alloc] at this
      exact this
    clear hb4 HM3
    have r0 := block_lt HM4.out.2.2.1
    have r1 := block_lt HM4.out.2.2.2
    have y0 : w4.cell? ⟨w2.heap.size + 1, 0, none⟩ = some (.int .i64 0) := cell_of_block HM4.out.2.2.1 rfl
    have y1 : w4.cell? ⟨w2.heap.size + 1, 1, none⟩ = some (.int .i64 0) := cell_of_block HM4.out.2.2.1 rfl
    have y2 : w4.cell? ⟨w2.heap.size + 1, 2, none⟩ = some (.int .i64 0) := cell_of_block HM4.out.2.2.1 rfl
    have y3 : w4.cell? ⟨w2.heap.size + 1, 3, none⟩ = some (.int .i64 0) := cell_of_block HM4.out.2.2.1 rfl
    have v0 : w4.cell? ⟨w3.heap.size + 1, 0, none⟩ = some (.int .i64 0) := cell_of_block HM4.out.2.2.2 rfl
    have v1 : w4.cell? ⟨w3.heap.size + 1, 1, none⟩ = some (.int .i64 0) := cell_of_block HM4.out.2.2.2 rfl
    have v2 : w4.cell? ⟨w3.heap.size + 1, 2, none⟩ = some (.int .i64 0) := cell_of_block HM4.out.2.2.2 rfl
    have v3 : w4.cell? ⟨w3.heap.size + 1, 3, none⟩ = some (.int .i64 0) := cell_of_block HM4.out.2.2.2 rfl
    have KK' := KK w4 HM4.out.1
    go_wp2_with fail
    refine KK'.out.mono ?_
    rintro e w5 ⟨rfl, hb5⟩
    go_wp2
    go_ret
    exact ⟨rfl, HM4.out.2.1.trans (hb5.mono HM4.out.2.1.size)⟩
  · have KR' : Hid (Calls Try.prog 18 #[.slice (some ⟨w.heap.size, 0, none⟩) n (n + 3)] w1 fun e w' => e = .returned (.tuple #[.agg (msgU (nv zs 0) (nv zs 1)), .agg #[.int .i64 (nv zs 2 : Int), .int .i64 (nv zs 3 : Int), .int .i64 (nv zs 4 : Int), .int .i64 (nv zs 5 : Int)], .int .i64 0]) ∧ Below w1.heap.size w1 w') := KR.out.mono (by rintro e w' ⟨_, h, hb⟩; exact ⟨h hq, hb⟩)
    have KF' : ∀ W, Below w.heap.size w W → Hid (Calls Try.prog 19 #[.slice a n cap] W fun e w' => e = .returned (.tuple #[.agg (msgU (nv zs 0) (nv zs 1)), .agg #[.int .i64 (nv zs 2 : Int), .int .i64 (nv zs 3 : Int), .int .i64 (nv zs 4 : Int), .int .i64 (nv zs 5 : Int)], .int .i64 0]) ∧ Below W.heap.size W w') := fun W hb => (KF W hb).out.mono (by rintro e w' ⟨_, h, hb⟩; exact ⟨h hq, hb⟩)
    clear KR KF hq
    generalize nv zs 0 = I at *
    generalize nv zs 1 = F at *
    generalize nv zs 2 = C0 at *
    generalize nv zs 3 = C1 at *
    generalize nv zs 4 = C2 at *
    generalize nv zs 5 = C3 at *
    simp only [msgU] at KR' KF'
    go_wp2_with fail
    refine KR'.out.mono ?_
    rintro e w2 ⟨rfl, hb2⟩
    have HB2 : Hid (Below w1.heap.size w1 w2 ∧ Below w.heap.size w w2) := ⟨hb2, HB1.out.2.trans (hb2.mono HB1.out.2.size)⟩
    have HX : Hid (Below w.heap.size w ((w2.alloc (.cells #[.int .u16 (I : Int), .bool (unfl F 32768), .int .i64 (unop F : Nat), .bool (unfl F 1024), .bool (unfl F 512), .bool (unfl F 256), .bool (unfl F 128), .bool (unfl F 32), .bool (unfl F 16), .int .i64 (unrc F : Nat), .slice none 0 0, .slice none 0 0, .slice none 0 0, .slice none 0 0] 26)).alloc (.cells #[.int .i64 (C0 : Int), .int .i64 (C1 : Int), .int .i64 (C2 : Int), .int .i64 (C3 : Int)] 27))) := (HB2.out.2.alloc HB2.out.2.size _).alloc (by have := HB2.out.2.size; simp; omega) _
    clear hb2
    go_wp2_with fail
    refine (KF' _ HX.out).out.mono ?_
    rintro e w3 ⟨rfl, hb3⟩
    have HM3 : Hid (Below w1.heap.size w1 w3 ∧ Below w.heap.size w w3 ∧ w3.heap[w2.heap.size]? = some (.cells #[.int .u16 (I : Int), .bool (unfl F 32768), .int .i64 (unop F : Nat), .bool (unfl F 1024), .bool (unfl F 512), .bool (unfl F 256), .bool (unfl F 128), .bool (unfl F 32), .bool (unfl F 16), .int .i64 (unrc F : Nat), .slice none 0 0, .slice none 0 0, .slice none 0 0, .slice none 0 0] 26) ∧ w3.heap[w2.heap.size + 1]? = some (.cells #[.int .i64 (C0 : Int), .int .i64 (C1 : Int), .int .i64 (C2 : Int), .int .i64 (C3 : Int)] 27)) := by
      have hs1 := HB2.out.1.size
      have hs2 := HB2.out.2.size
      refine ⟨((HB2.out.1.alloc hs1 _).alloc (by simp; omega) _).trans (hb3.mono (by simp; omega)), HX.out.trans (hb3.mono (by simp; omega)), (hb3.block _ (by simp; omega)).trans (block_alloc (alloc_at _ _) _), (hb3.block _ (by simp)).trans ?_⟩
      have := alloc_at (w2.alloc (.cells #[.int .u16 (I : Int), .bool (unfl F 32768), .int .i64 (unop F : Nat), .bool (unfl F 1024), .bool (unfl F 512), .bool (unfl F 256), .bool (unfl F 128), .bool (unfl F 32), .bool (unfl F 16), .int .i64 (unrc F : Nat), .slice none 0 0, .slice none 0 0, .slice none 0 0, .slice none 0 0] 26)) (.cells #[.int .i64 (C0 : Int), .int .i64 (C1 : Int), .int .i64 (C2 : Int), .int .i64 (C3 : Int)] 27)
      simp only [World.size_alloc] at this
      exact this
    clear hb3 HX
    have p0 := block_lt HM3.out.2.2.1
    have p1 := block_lt HM3.out.2.2.2
    have x0 : w3.cell? ⟨w2.heap.size, 0, none⟩ = some (.int .u16 (I : Int)) := cell_of_block HM3.out.2.2.1 rfl
    have x1 : w3.cell? ⟨w2.heap.size, 1, none⟩ = some (.bool (unfl F 32768)) := cell_of_block HM3.out.2.2.1 rfl
    have x2 : w3.cell? ⟨w2.heap.size, 2, none⟩ = some (.int .i64 (unop F : Nat)) := cell_of_block HM3.out.2.2.1 rfl
    have x3 : w3.cell? ⟨w2.heap.size, 3, none⟩ = some (.bool (unfl F 1024)) := cell_of_block HM3.out.2.2.1 rfl
    have x4 : w3.cell? ⟨w2.heap.size, 4, none⟩ = some (.bool (unfl F 512)) := cell_of_block HM3.out.2.2.1 rfl
    have x5 : w3.cell? ⟨w2.heap.size, 5, none⟩ = some (.bool (unfl F 256)) := cell_of_block HM3.out.2.2.1 rfl
    have x6 : w3.cell? ⟨w2.heap.size, 6, none⟩ = some (.bool (unfl F 128)) := cell_of_block HM3.out.2.2.1 rfl
    have x7 : w3.cell? ⟨w2.heap.size, 7, none⟩ = some (.bool (unfl F 32)) := cell_of_block HM3.out.2.2.1 rfl
    have x8 : w3.cell? ⟨w2.heap.size, 8, none⟩ = some (.bool (unfl F 16)) := cell_of_block HM3.out.2.2.1 rfl
    have x9 : w3.cell? ⟨w2.heap.size, 9, none⟩ = some (.int .i64 (unrc F : Nat)) := cell_of_block HM3.out.2.2.1 rfl
    have x10 : w3.cell? ⟨w2.heap.size, 10, none⟩ = some (.slice none 0 0) := cell_of_block HM3.out.2.2.1 rfl
    have x11 : w3.cell? ⟨w2.heap.size, 11, none⟩ = some (.slice none 0 0) := cell_of_block HM3.out.2.2.1 rfl
    have x12 : w3.cell? ⟨w2.heap.size, 12, none⟩ = some (.slice none 0 0) := cell_of_block HM3.out.2.2.1 rfl
    have x13 : w3.cell? ⟨w2.heap.size, 13, none⟩ = some (.slice none 0 0) := cell_of_block HM3.out.2.2.1 rfl
    go_wp2_with fail
    refine (sameM (I : Int) (unfl F 32768) (unop F : Nat) (unfl F 1024) (unfl F 512) (unfl F 256) (unfl F 128) (unfl F 32) (unfl F 16) (unrc F : Nat) none none none none none none none none 0 0 0 0 0 0 0 0 0 0 0 0 0 0 0 0 _ (sames33_nil _) (sames34_nil _) (sames34_nil _) (sames34_nil _)).mono ?_
    rintro e w4 ⟨rfl, hb4⟩
    have HM4 : Hid (Below w1.heap.size w1 w4 ∧ Below w.heap.size w w4 ∧ w4.heap[w2.heap.size + 1]? = some (.cells #[.int .i64 (C0 : Int), .int .i64 (C1 : Int), .int .i64 (C2 : Int), .int .i64 (C3 : Int)] 27) ∧ w4.heap[w3.heap.size + 1]? = some (.cells #[.int .i64 (C0 : Int), .int .i64 (C1 : Int), .int .i64 (C2 : Int), .int .i64 (C3 : Int)] 27)) := by
      have hs1 := HM3.out.1.size
      have hs2 := HM3.out.2.1.size
      refine ⟨((HM3.out.1.alloc hs1 _).alloc (by simp; omega) _).trans (hb4.mono (by simp; omega)), ((HM3.out.2.1.alloc hs2 _).alloc (by simp; omega) _).trans (hb4.mono (by simp; omega)), (hb4.block _ (by simp; omega)).trans (block_alloc (block_alloc HM3.out.2.2.2 _) _), (hb4.block _ (by simp)).trans ?_⟩
      have := alloc_at (w3.alloc (.cells #[.int .u16 (I : Int), .bool (unfl F 32768), .int .i64 (unop F : Nat), .bool (unfl F 1024), .bool (unfl F 512), .bool (unfl F 256), .bool (unfl F 128), .bool (unfl F 32), .bool (unfl F 16), .int .i64 (unrc F : Nat), .slice none 0 0, .slice none 0 0, .slice none 0 0, .slice none 0 0] 26)) (.cells #[.int .i64 (C0 : Int), .int .i64 (C1 : Int), .int .i64 (C2 : Int), .int .i64 (C3 : Int)] 27)
      simp only [World.size_alloc] at this
      exact this
    clear hb4 HM3
    have r0 := block_lt HM4.out.2.2.1
    have r1 := block_lt HM4.out.2.2.2
    have y0 : w4.cell? ⟨w2.heap.size + 1, 0, none⟩ = some (.int .i64 (C0 : Int)) := cell_of_block HM4.out.2.2.1 rfl
    have y1 : w4.cell? ⟨w2.heap.size + 1, 1, none⟩ = some (.int .i64 (C1 : Int)) := cell_of_block HM4.out.2.2.1 rfl
    have y2 : w4.cell? ⟨w2.heap.size + 1, 2, none⟩ = some (.int .i64 (C2 : Int)) := cell_of_block HM4.out.2.2.1 rfl
    have y3 : w4.cell? ⟨w2.heap.size + 1, 3, none⟩ = some (.int .i64 (C3 : Int)) := cell_of_block HM4.out.2.2.1 rfl
    have v0 : w4.cell? ⟨w3.heap.size + 1, 0, none⟩ = some (.int .i64 (C0 : Int)) := cell_of_block HM4.out.2.2.2 rfl
    have v1 : w4.cell? ⟨w3.heap.size + 1, 1, none⟩ = some (.int .i64 (C1 : Int)) := cell_of_block HM4.out.2.2.2 rfl
    have v2 : w4.cell? ⟨w3.heap.size + 1, 2, none⟩ = some (.int .i64 (C2 : Int)) := cell_of_block HM4.out.2.2.2 rfl
    have v3 : w4.cell? ⟨w3.heap.size + 1, 3, none⟩ = some (.int .i64 (C3 : Int)) := cell_of_block HM4.out.2.2.2 rfl
    have KK' := KK w4 HM4.out.1
    go_wp2_with fail
    refine KK'.out.mono ?_
    rintro e w5 ⟨rfl, hb5⟩
    go_wp2
    go_ret
    exact ⟨rfl, HM4.out.2.1.trans (hb5.mono HM4.out.2.1.size)⟩
end Go.Proofs.Ytmlccnpondemiaa
