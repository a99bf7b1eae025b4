/- Texts laid together, in parts: Mwl Mwm Mla Mlb Fpa Fta Fpb Ftv Ftw Mlo Mlp Ftb. -/
import Derived.Test.YtkjnbgekaifdfaaGreatWge
import Derived.Deep.RegionHeld3
import Derived.Lib.OwnKind
import Derived.Deep.AppendLies
import Derived.Deep.Upon
namespace Go.Proofs.YtkjnbgekaifdfaaGreat
open Go.ChangeShapes Go.WideShapes Go.ChangeAt Go.RowKit Go.Maps
set_option linter.unusedVariables false
set_option linter.unusedSimpArgs false
/-- How many records are left toq be taken. -/
def remN (x : MA) (k : Nat) : Nat → Nat
  | 0 => k
  | j + 1 => remN x k j - min (remN x k j) (nth3 x j).n
/-- The lists, the first j of them cut. -/
def cutJ (x : MA) (k j : Nat) : MA := ⟨x.q, if 0 < j then ⟨x.l1.a, min k x.l1.n, x.l1.c⟩ else x.l1, if 1 < j then ⟨x.l2.a, min (remN x k 1) x.l2.n, x.l2.c⟩ else x.l2, if 2 < j then ⟨x.l3.a, min (remN x k 2) x.l3.n, x.l3.c⟩ else x.l3⟩
theorem remN_le (x : MA) (k : Nat) : ∀ j, remN x k j ≤ k
  | 0 => Nat.le_refl _
  | j + 1 => by have := remN_le x k j; simp only [remN]; omega
theorem cutJ_nth (x : MA) (k j : Nat) (hj : j < 3) : nth3 (cutJ x k j) j = nth3 x j := by
  have : j = 0 ∨ j = 1 ∨ j = 2 := by omega
  rcases this with rfl | rfl | rfl <;> rfl
theorem cutJ_step (H : Hd) (x : MA) (k j : Nat) (hj : j < 3) : (#[.int .u16 H.id, .bool H.rs, .int .i64 H.op, .bool H.aa, .bool H.tc, .bool H.rd, .bool H.ra, .bool H.ad, .bool H.cd, .int .i64 H.rc, .slice (cutJ x k j).q.a (cutJ x k j).q.n (cutJ x k j).q.c, .slice (cutJ x k j).l1.a (cutJ x k j).l1.n (cutJ x k j).l1.c, .slice (cutJ x k j).l2.a (cutJ x k j).l2.n (cutJ x k j).l2.c, .slice (cutJ x k j).l3.a (cutJ x k j).l3.n (cutJ x k j).l3.c] : Array Value).setIfInBounds (11 + j) (.slice (nth3 x j).a (min (remN x k j) (nth3 x j).n) (nth3 x j).c) = #[.int .u16 H.id, .bool H.rs, .int .i64 H.op, .bool H.aa, .bool H.tc, .bool H.rd, .bool H.ra, .bool H.ad, .bool H.cd, .int .i64 H.rc, .slice (cutJ x k (j + 1)).q.a (cutJ x k (j + 1)).q.n (cutJ x k (j + 1)).q.c, .slice (cutJ x k (j + 1)).l1.a (cutJ x k (j + 1)).l1.n (cutJ x k (j + 1)).l1.c, .slice (cutJ x k (j + 1)).l2.a (cutJ x k (j + 1)).l2.n (cutJ x k (j + 1)).l2.c, .slice (cutJ x k (j + 1)).l3.a (cutJ x k (j + 1)).l3.n (cutJ x k (j + 1)).l3.c] := by
  have : j = 0 ∨ j = 1 ∨ j = 2 := by omega
  rcases this with rfl | rfl | rfl <;> rfl
set_option maxRecDepth 100000 in
set_option maxHeartbeats 2000000 in
theorem first_any (H : Hd) (x : MA) (k : Nat) (w : World) (hk : k ≤ 1000000) (hc : ∀ j, (nth3 x j).n ≤ (nth3 x j).c ∧ (nth3 x j).n ≤ 1000000 ∧ (nth3 x j).c ≤ 9223372036854775807) :
    Calls Tryz.prog 32 #[.agg #[.int .u16 H.id, .bool H.rs, .int .i64 H.op, .bool H.aa, .bool H.tc, .bool H.rd, .bool H.ra, .bool H.ad, .bool H.cd, .int .i64 H.rc, .slice x.q.a x.q.n x.q.c, .slice x.l1.a x.l1.n x.l1.c, .slice x.l2.a x.l2.n x.l2.c, .slice x.l3.a x.l3.n x.l3.c], .int .i64 k] w fun e w' => e = .returned (.agg #[.int .u16 H.id, .bool H.rs, .int .i64 H.op, .bool H.aa, .bool H.tc, .bool H.rd, .bool H.ra, .bool H.ad, .bool H.cd, .int .i64 H.rc, .slice (cutJ x k 3).q.a (cutJ x k 3).q.n (cutJ x k 3).q.c, .slice (cutJ x k 3).l1.a (cutJ x k 3).l1.n (cutJ x k 3).l1.c, .slice (cutJ x k 3).l2.a (cutJ x k 3).l2.n (cutJ x k 3).l2.c, .slice (cutJ x k 3).l3.a (cutJ x k 3).l3.n (cutJ x k 3).l3.c]) ∧ Hid (Below w.heap.size w w') := by
  obtain ⟨f1, f2⟩ : Below w.heap.size w ((w.alloc (.cells #[.int .u16 H.id, .bool H.rs, .int .i64 H.op, .bool H.aa, .bool H.tc, .bool H.rd, .bool H.ra, .bool H.ad, .bool H.cd, .int .i64 H.rc, .slice x.q.a x.q.n x.q.c, .slice x.l1.a x.l1.n x.l1.c, .slice x.l2.a x.l2.n x.l2.c, .slice x.l3.a x.l3.n x.l3.c] 26)).alloc (.cells zeroM 26)) ∧ ((w.alloc (.cells #[.int .u16 H.id, .bool H.rs, .int .i64 H.op, .bool H.aa, .bool H.tc, .bool H.rd, .bool H.ra, .bool H.ad, .bool H.cd, .int .i64 H.rc, .slice x.q.a x.q.n x.q.c, .slice x.l1.a x.l1.n x.l1.c, .slice x.l2.a x.l2.n x.l2.c, .slice x.l3.a x.l3.n x.l3.c] 26)).alloc (.cells zeroM 26)).heap[w.heap.size]? = some (.cells #[.int .u16 H.id, .bool H.rs, .int .i64 H.op, .bool H.aa, .bool H.tc, .bool H.rd, .bool H.ra, .bool H.ad, .bool H.cd, .int .i64 H.rc, .slice x.q.a x.q.n x.q.c, .slice x.l1.a x.l1.n x.l1.c, .slice x.l2.a x.l2.n x.l2.c, .slice x.l3.a x.l3.n x.l3.c] 26) ∧ ((w.alloc (.cells #[.int .u16 H.id, .bool H.rs, .int .i64 H.op, .bool H.aa, .bool H.tc, .bool H.rd, .bool H.ra, .bool H.ad, .bool H.cd, .int .i64 H.rc, .slice x.q.a x.q.n x.q.c, .slice x.l1.a x.l1.n x.l1.c, .slice x.l2.a x.l2.n x.l2.c, .slice x.l3.a x.l3.n x.l3.c] 26)).alloc (.cells zeroM 26)).heap[w.heap.size + 1]? = some (.cells zeroM 26) := by
    have n1 := heap_alloc_new w (.cells #[.int .u16 H.id, .bool H.rs, .int .i64 H.op, .bool H.aa, .bool H.tc, .bool H.rd, .bool H.ra, .bool H.ad, .bool H.cd, .int .i64 H.rc, .slice x.q.a x.q.n x.q.c, .slice x.l1.a x.l1.n x.l1.c, .slice x.l2.a x.l2.n x.l2.c, .slice x.l3.a x.l3.n x.l3.c] 26)
    have n2 := heap_alloc_new (w.alloc (.cells #[.int .u16 H.id, .bool H.rs, .int .i64 H.op, .bool H.aa, .bool H.tc, .bool H.rd, .bool H.ra, .bool H.ad, .bool H.cd, .int .i64 H.rc, .slice x.q.a x.q.n x.q.c, .slice x.l1.a x.l1.n x.l1.c, .slice x.l2.a x.l2.n x.l2.c, .slice x.l3.a x.l3.n x.l3.c] 26)) (.cells zeroM 26)
    have s1 : (w.alloc (.cells #[.int .u16 H.id, .bool H.rs, .int .i64 H.op, .bool H.aa, .bool H.tc, .bool H.rd, .bool H.ra, .bool H.ad, .bool H.cd, .int .i64 H.rc, .slice x.q.a x.q.n x.q.c, .slice x.l1.a x.l1.n x.l1.c, .slice x.l2.a x.l2.n x.l2.c, .slice x.l3.a x.l3.n x.l3.c] 26)).heap.size = w.heap.size + 1 := by simp
    rw [s1] at n2
    exact ⟨((Below.refl _ w).alloc (Nat.le_refl _) _).alloc (by omega) _, (Below.heap_alloc _ _ _ (by omega)).trans n1, n2⟩
  have HF : Hid (Below w.heap.size w ((w.alloc (.cells #[.int .u16 H.id, .bool H.rs, .int .i64 H.op, .bool H.aa, .bool H.tc, .bool H.rd, .bool H.ra, .bool H.ad, .bool H.cd, .int .i64 H.rc, .slice x.q.a x.q.n x.q.c, .slice x.l1.a x.l1.n x.l1.c, .slice x.l2.a x.l2.n x.l2.c, .slice x.l3.a x.l3.n x.l3.c] 26)).alloc (.cells zeroM 26)) ∧ ((w.alloc (.cells #[.int .u16 H.id, .bool H.rs, .int .i64 H.op, .bool H.aa, .bool H.tc, .bool H.rd, .bool H.ra, .bool H.ad, .bool H.cd, .int .i64 H.rc, .slice x.q.a x.q.n x.q.c, .slice x.l1.a x.l1.n x.l1.c, .slice x.l2.a x.l2.n x.l2.c, .slice x.l3.a x.l3.n x.l3.c] 26)).alloc (.cells zeroM 26)).heap[w.heap.size]? = some (.cells #[.int .u16 H.id, .bool H.rs, .int .i64 H.op, .bool H.aa, .bool H.tc, .bool H.rd, .bool H.ra, .bool H.ad, .bool H.cd, .int .i64 H.rc, .slice x.q.a x.q.n x.q.c, .slice x.l1.a x.l1.n x.l1.c, .slice x.l2.a x.l2.n x.l2.c, .slice x.l3.a x.l3.n x.l3.c] 26) ∧ ((w.alloc (.cells #[.int .u16 H.id, .bool H.rs, .int .i64 H.op, .bool H.aa, .bool H.tc, .bool H.rd, .bool H.ra, .bool H.ad, .bool H.cd, .int .i64 H.rc, .slice x.q.a x.q.n x.q.c, .slice x.l1.a x.l1.n x.l1.c, .slice x.l2.a x.l2.n x.l2.c, .slice x.l3.a x.l3.n x.l3.c] 26)).alloc (.cells zeroM 26)).heap[w.heap.size + 1]? = some (.cells zeroM 26)) := ⟨f1, f2⟩
  clear f1 f2
  unfold zeroM at HF
  have KSec : Hid (∀ W, Calls Tryz.prog 43 #[.pointer (some ⟨w.heap.size, 0, none⟩)] W fun e w' => e = .returned (.agg #[.pointer (some ⟨w.heap.size, 11, none⟩), .pointer (some ⟨w.heap.size, 12, none⟩), .pointer (some ⟨w.heap.size, 13, none⟩)]) ∧ Hid (Below W.heap.size W w')) := fun W => sections_any w.heap.size W
  go_enter Tryz.func32, Tryz.ntmps32
  go_wp2_with fail
  refine (KSec.out _).mono ?_
  rintro e w1 ⟨rfl, H1⟩
  generalize (w.alloc (.cells #[.int .u16 H.id, .bool H.rs, .int .i64 H.op, .bool H.aa, .bool H.tc, .bool H.rd, .bool H.ra, .bool H.ad, .bool H.cd, .int .i64 H.rc, .slice x.q.a x.q.n x.q.c, .slice x.l1.a x.l1.n x.l1.c, .slice x.l2.a x.l2.n x.l2.c, .slice x.l3.a x.l3.n x.l3.c] 26)).alloc (.cells #[.int .u16 0, .bool false, .int .i64 0, .bool false, .bool false, .bool false, .bool false, .bool false, .bool false, .int .i64 0, .slice none 0 0, .slice none 0 0, .slice none 0 0, .slice none 0 0] 26) = Z at *
  obtain ⟨b, hbb⟩ : ∃ b, b = w.heap.size := ⟨_, rfl⟩
  have HB : Hid (w1.heap[b]? = some (.cells #[.int .u16 H.id, .bool H.rs, .int .i64 H.op, .bool H.aa, .bool H.tc, .bool H.rd, .bool H.ra, .bool H.ad, .bool H.cd, .int .i64 H.rc, .slice (cutJ x k 0).q.a (cutJ x k 0).q.n (cutJ x k 0).q.c, .slice (cutJ x k 0).l1.a (cutJ x k 0).l1.n (cutJ x k 0).l1.c, .slice (cutJ x k 0).l2.a (cutJ x k 0).l2.n (cutJ x k 0).l2.c, .slice (cutJ x k 0).l3.a (cutJ x k 0).l3.n (cutJ x k 0).l3.c] 26) ∧ w1.heap[b + 1]? = some (.cells zeroM 26) ∧ Below w.heap.size w w1) := by
    rw [hbb]
    exact ⟨(H1.out.block _ (box_lt HF.out.2.1)).trans HF.out.2.1, (H1.out.block _ (box_lt HF.out.2.2)).trans HF.out.2.2, HF.out.1.trans (H1.out.mono HF.out.1.size)⟩
  have HBW : Hid (b = w.heap.size) := hbb
  rw [← hbb]
  clear HF H1 KSec hbb
  go_wp2_with fail
  go_loopw [1, 9] (fun y z wr => ∃ j : Nat, j ≤ 3 ∧ y = .int .i64 (remN x k j : Nat) ∧ z = .int .i64 j ∧ Hid (wr.heap[b]? = some (.cells #[.int .u16 H.id, .bool H.rs, .int .i64 H.op, .bool H.aa, .bool H.tc, .bool H.rd, .bool H.ra, .bool H.ad, .bool H.cd, .int .i64 H.rc, .slice (cutJ x k j).q.a (cutJ x k j).q.n (cutJ x k j).q.c, .slice (cutJ x k j).l1.a (cutJ x k j).l1.n (cutJ x k j).l1.c, .slice (cutJ x k j).l2.a (cutJ x k j).l2.n (cutJ x k j).l2.c, .slice (cutJ x k j).l3.a (cutJ x k j).l3.n (cutJ x k j).l3.c] 26) ∧ wr.heap[b + 1]? = some (.cells zeroM 26) ∧ Below w.heap.size w wr)) (fun _ z _ => 3 - (intOf z).toNat)
  case atStart => exact ⟨0, by omega, rfl, rfl, HB.out⟩
  case round =>
    obtain ⟨j, hj, rfl, rfl, HK⟩ := hrel
    by_cases hlt3 : j < 3
    · have h3 : (j : Int) < 3 := by omega
      have hix := ixS b j hlt3
      have hcl := mbox_list (x := cutJ x k j) HK.out.1 j hlt3
      rw [cutJ_nth x k j hlt3] at hcl
      have hlb := box_lt HK.out.1
      have hfz : wr.frozen? ⟨b, 11 + j, none⟩ = false := box_frozen HK.out.1 _
      have HST := Lib.hid (cutJ_step H x k j hlt3)
      have HRM : Hid (remN x k (j + 1) = remN x k j - min (remN x k j) (nth3 x j).n) := rfl
      have hrm := remN_le x k j
      obtain ⟨hc1, hc2, hc3⟩ := hc j
      generalize nth3 x j = s at *
      generalize hR : remN x k j = R at *
      have HEND : Hid (∀ M : Nat, M = min R s.n → (wr.setCell ⟨b, 11 + j, none⟩ (.slice s.a M s.c)).heap[b]? = some (.cells #[.int .u16 H.id, .bool H.rs, .int .i64 H.op, .bool H.aa, .bool H.tc, .bool H.rd, .bool H.ra, .bool H.ad, .bool H.cd, .int .i64 H.rc, .slice (cutJ x k (j + 1)).q.a (cutJ x k (j + 1)).q.n (cutJ x k (j + 1)).q.c, .slice (cutJ x k (j + 1)).l1.a (cutJ x k (j + 1)).l1.n (cutJ x k (j + 1)).l1.c, .slice (cutJ x k (j + 1)).l2.a (cutJ x k (j + 1)).l2.n (cutJ x k (j + 1)).l2.c, .slice (cutJ x k (j + 1)).l3.a (cutJ x k (j + 1)).l3.n (cutJ x k (j + 1)).l3.c] 26) ∧ (wr.setCell ⟨b, 11 + j, none⟩ (.slice s.a M s.c)).heap[b + 1]? = some (.cells zeroM 26) ∧ Below w.heap.size w (wr.setCell ⟨b, 11 + j, none⟩ (.slice s.a M s.c))) := by
        intro M hM
        have hgr := grown_set wr b (11 + j) (.slice s.a M s.c)
        refine ⟨?_, (hgr.block (b + 1) (box_lt HK.out.2.1) (by simp)).trans HK.out.2.1, HK.out.2.2.setCell (by have := HBW.out; simp only; omega) _⟩
        rw [← HST.out, hM]
        exact box_set HK.out.1 _ _
      clear HST
      have hmx : (min R s.n : Nat) ≤ s.n := by omega
      go_wp2
      refine ⟨⟨j + 1, by omega, ?_, by go_num, HEND.out _ ?_⟩, by simp [intOf]; omega⟩
      · rw [HRM.out]
        congr 1
        split <;> omega
      · split <;> omega
    · have hjj : j = 3 := by omega
      subst j
      obtain ⟨z0, z1, z2, z3, z4, z5, z6, z7, z8, z9, z10, z11, z12, z13⟩ := mbox_cells HK.out.1
      have hl0 := box_lt HK.out.1
      have hl1 := box_lt HK.out.2.1
      have HK2 := Lib.hid HK.out.2.1
      unfold zeroM at HK2
      have HBE := Lib.hid HK.out.2.2
      generalize hX : cutJ x k 3 = X at *
      have HXX := Lib.hid hX
      clear HK hX
      have f0 : wr.frozen? ⟨b + 1, 0, none⟩ = false := box_frozen HK2.out _
      have e0 := box_cell HK2.out 0 _ rfl
      have f1 : wr.frozen? ⟨b + 1, 1, none⟩ = false := box_frozen HK2.out _
      have e1 := box_cell HK2.out 1 _ rfl
      have f2 : wr.frozen? ⟨b + 1, 2, none⟩ = false := box_frozen HK2.out _
      have e2 := box_cell HK2.out 2 _ rfl
      have f3 : wr.frozen? ⟨b + 1, 3, none⟩ = false := box_frozen HK2.out _
      have e3 := box_cell HK2.out 3 _ rfl
      have f4 : wr.frozen? ⟨b + 1, 4, none⟩ = false := box_frozen HK2.out _
      have e4 := box_cell HK2.out 4 _ rfl
      have f5 : wr.frozen? ⟨b + 1, 5, none⟩ = false := box_frozen HK2.out _
      have e5 := box_cell HK2.out 5 _ rfl
      have f6 : wr.frozen? ⟨b + 1, 6, none⟩ = false := box_frozen HK2.out _
      have e6 := box_cell HK2.out 6 _ rfl
      have f7 : wr.frozen? ⟨b + 1, 7, none⟩ = false := box_frozen HK2.out _
      have e7 := box_cell HK2.out 7 _ rfl
      have f8 : wr.frozen? ⟨b + 1, 8, none⟩ = false := box_frozen HK2.out _
      have e8 := box_cell HK2.out 8 _ rfl
      have f9 : wr.frozen? ⟨b + 1, 9, none⟩ = false := box_frozen HK2.out _
      have e9 := box_cell HK2.out 9 _ rfl
      have f10 : wr.frozen? ⟨b + 1, 10, none⟩ = false := box_frozen HK2.out _
      have e10 := box_cell HK2.out 10 _ rfl
      have f11 : wr.frozen? ⟨b + 1, 11, none⟩ = false := box_frozen HK2.out _
      have e11 := box_cell HK2.out 11 _ rfl
      have f12 : wr.frozen? ⟨b + 1, 12, none⟩ = false := box_frozen HK2.out _
      have e12 := box_cell HK2.out 12 _ rfl
      have f13 : wr.frozen? ⟨b + 1, 13, none⟩ = false := box_frozen HK2.out _
      have e13 := box_cell HK2.out 13 _ rfl
      go_wp2_with fail
      have HG9 := Lib.hid (put14 HK2.out (.int .u16 H.id) (.bool H.rs) (.int .i64 H.op) (.bool H.aa) (.bool H.tc) (.bool H.rd) (.bool H.ra) (.bool H.ad) (.bool H.cd) (.int .i64 H.rc) (.slice X.q.a X.q.n X.q.c) (.slice X.l1.a X.l1.n X.l1.c) (.slice X.l2.a X.l2.n X.l2.c) (.slice X.l3.a X.l3.n X.l3.c))
      have HB9 := Lib.hid (put14_below wr (b + 1) (.int .u16 H.id) (.bool H.rs) (.int .i64 H.op) (.bool H.aa) (.bool H.tc) (.bool H.rd) (.bool H.ra) (.bool H.ad) (.bool H.cd) (.int .i64 H.rc) (.slice X.q.a X.q.n X.q.c) (.slice X.l1.a X.l1.n X.l1.c) (.slice X.l2.a X.l2.n X.l2.c) (.slice X.l3.a X.l3.n X.l3.c))
      generalize ((((((((((((((wr.setCell ⟨b + 1, 0, none⟩ (.int .u16 H.id)).setCell ⟨b + 1, 1, none⟩ (.bool H.rs)).setCell ⟨b + 1, 2, none⟩ (.int .i64 H.op)).setCell ⟨b + 1, 3, none⟩ (.bool H.aa)).setCell ⟨b + 1, 4, none⟩ (.bool H.tc)).setCell ⟨b + 1, 5, none⟩ (.bool H.rd)).setCell ⟨b + 1, 6, none⟩ (.bool H.ra)).setCell ⟨b + 1, 7, none⟩ (.bool H.ad)).setCell ⟨b + 1, 8, none⟩ (.bool H.cd)).setCell ⟨b + 1, 9, none⟩ (.int .i64 H.rc)).setCell ⟨b + 1, 10, none⟩ (.slice X.q.a X.q.n X.q.c)).setCell ⟨b + 1, 11, none⟩ (.slice X.l1.a X.l1.n X.l1.c)).setCell ⟨b + 1, 12, none⟩ (.slice X.l2.a X.l2.n X.l2.c)).setCell ⟨b + 1, 13, none⟩ (.slice X.l3.a X.l3.n X.l3.c)) = w9 at *
      have y0 : w9.cell? ⟨b + 1, 0, none⟩ = some (.int .u16 H.id) := box_cell HG9.out 0 _ rfl
      have y1 : w9.cell? ⟨b + 1, 1, none⟩ = some (.bool H.rs) := box_cell HG9.out 1 _ rfl
      have y2 : w9.cell? ⟨b + 1, 2, none⟩ = some (.int .i64 H.op) := box_cell HG9.out 2 _ rfl
      have y3 : w9.cell? ⟨b + 1, 3, none⟩ = some (.bool H.aa) := box_cell HG9.out 3 _ rfl
      have y4 : w9.cell? ⟨b + 1, 4, none⟩ = some (.bool H.tc) := box_cell HG9.out 4 _ rfl
      have y5 : w9.cell? ⟨b + 1, 5, none⟩ = some (.bool H.rd) := box_cell HG9.out 5 _ rfl
      have y6 : w9.cell? ⟨b + 1, 6, none⟩ = some (.bool H.ra) := box_cell HG9.out 6 _ rfl
      have y7 : w9.cell? ⟨b + 1, 7, none⟩ = some (.bool H.ad) := box_cell HG9.out 7 _ rfl
      have y8 : w9.cell? ⟨b + 1, 8, none⟩ = some (.bool H.cd) := box_cell HG9.out 8 _ rfl
      have y9 : w9.cell? ⟨b + 1, 9, none⟩ = some (.int .i64 H.rc) := box_cell HG9.out 9 _ rfl
      have y10 : w9.cell? ⟨b + 1, 10, none⟩ = some (.slice X.q.a X.q.n X.q.c) := box_cell HG9.out 10 _ rfl
      have y11 : w9.cell? ⟨b + 1, 11, none⟩ = some (.slice X.l1.a X.l1.n X.l1.c) := box_cell HG9.out 11 _ rfl
      have y12 : w9.cell? ⟨b + 1, 12, none⟩ = some (.slice X.l2.a X.l2.n X.l2.c) := box_cell HG9.out 12 _ rfl
      have y13 : w9.cell? ⟨b + 1, 13, none⟩ = some (.slice X.l3.a X.l3.n X.l3.c) := box_cell HG9.out 13 _ rfl
      have lt9 := box_lt HG9.out
      refine bodyPost_ret (v := .agg #[.int .u16 H.id, .bool H.rs, .int .i64 H.op, .bool H.aa, .bool H.tc, .bool H.rd, .bool H.ra, .bool H.ad, .bool H.cd, .int .i64 H.rc, .slice X.q.a X.q.n X.q.c, .slice X.l1.a X.l1.n X.l1.c, .slice X.l2.a X.l2.n X.l2.c, .slice X.l3.a X.l3.n X.l3.c]) ?_ rfl ⟨by rw [HXX.out], HBE.out.trans (HB9.out.mono (by have := HBW.out; omega))⟩
      simp [results, Tryz.results32, go_sem, y0, y1, y2, y3, y4, y5, y6, y7, y8, y9, y10, y11, y12, y13, lt9]
end Go.Proofs.YtkjnbgekaifdfaaGreat
namespace Go.Proofs.YtkjnbgekaifdfaaGreat
open Go.ChangeShapes Go.WideShapes Go.ChangeAt Go.RowKit Go.Maps
set_option linter.unusedVariables false
set_option linter.unusedSimpArgs false
/-- A message with its first k records alone. -/
def cutM (m : Mg) (k : Nat) : Mg := ⟨m.h, m.qs, m.l1.take k, m.l2.take (k - m.l1.length), m.l3.take (k - m.l1.length - m.l2.length)⟩
theorem LRd.take {w : World} {s : Sl} {rs : List Rec} (h : LRd w s rs) (k n : Nat) (hn : n = min k s.n) : LRd w ⟨s.a, n, s.c⟩ (rs.take k) := by
  refine ⟨?_, by rw [List.length_take, h.len, hn], ⟨by have := h.cap; simp only; omega, h.cap.2⟩, h.nil⟩
  rcases h.rd with h0 | ⟨b, o, e, hb, hc⟩
  · subst h0; exact .inl (by simp)
  · refine .inr ⟨b, o, e, hb, fun i hi => ?_⟩
    have hi' : i < rs.length := by rw [List.length_take] at hi; omega
    obtain ⟨x, h1, h2⟩ := hc i hi'
    rw [List.getElem_take]
    exact ⟨x, h1, h2⟩
theorem MRd.cut {w : World} {H : Hd} {x : MA} {m : Mg} (h : MRd w H x m) (k : Nat) : MRd w H (cutJ x k 3) (cutM m k) := by
  have e1 := h.l1.len
  have e2 := h.l2.len
  have r1 : remN x k 1 = k - m.l1.length := by
    show k - min k (nth3 x 0).n = _
    have : (nth3 x 0).n = x.l1.n := rfl
    omega
  have r2 : remN x k 2 = k - m.l1.length - m.l2.length := by
    show remN x k 1 - min (remN x k 1) (nth3 x 1).n = _
    have : (nth3 x 1).n = x.l2.n := rfl
    omega
  refine ⟨h.h, h.q, h.l1.take k _ rfl, h.l2.take _ _ (by rw [r1]), h.l3.take _ _ (by rw [r2]), h.b.1, h.b.2.1, fun r hr => h.b.2.2.1 r (List.mem_of_mem_take hr), fun r hr => h.b.2.2.2.1 r (List.mem_of_mem_take hr), fun r hr => h.b.2.2.2.2 r (List.mem_of_mem_take hr)⟩
theorem cutM_sub (m : Mg) (k j : Nat) : ∀ r ∈ nthL (cutM m k) j, r ∈ nthL m j := by
  intro r hr
  unfold nthL at hr ⊢
  split at hr
  · next h => rw [if_pos h]; exact List.mem_of_mem_take hr
  · next h =>
    rw [if_neg h]
    split at hr
    · next h2 => rw [if_pos h2]; exact List.mem_of_mem_take hr
    · next h2 => rw [if_neg h2]; exact List.mem_of_mem_take hr
theorem ChkOk.cut {m : Mg} (h : ChkOk m) (k : Nat) : ChkOk (cutM m k) :=
  ⟨h.hd, h.nq, by have := h.nr; unfold tot at *; simp only [cutM, List.length_take]; omega, h.qs, fun r hr => h.l1 r (List.mem_of_mem_take hr), fun r hr => h.l2 r (List.mem_of_mem_take hr), fun r hr => h.l3 r (List.mem_of_mem_take hr)⟩
theorem cutM_all (m : Mg) (k : Nat) (h : tot m ≤ k) : cutM m k = m := by
  unfold tot at h
  unfold cutM
  rw [List.take_of_length_le (by omega), List.take_of_length_le (by omega), List.take_of_length_le (by omega)]
/-- What Part answers. -/
def PtR (m : Mg) (z : Int) (w' : World) (s : Sl) (er : Int) : Prop :=
  if chkM m = 0 then (if 0 ≤ z ∧ z ≤ (tot m : Int) then WrR (prun (pmsg (cutM m z.toNat)) (some ([], []))) w' s er else er = 2 ∧ s = ⟨none, 0, 0⟩) else er = chkM m ∧ s = ⟨none, 0, 0⟩
def PtP (m : Mg) (z : Int) (w : World) (e : Ending) (w' : World) : Prop := ∃ (s : Sl) (er : Int), e = .returned (.tuple #[.slice s.a s.n s.c, .int .i64 er]) ∧ Hid (PtR m z w' s er ∧ Below w.heap.size w w')
set_option maxRecDepth 100000 in
set_option maxHeartbeats 2000000 in
theorem part_any (H : Hd) (x : MA) (m : Mg) (z : Int) (w : World) (hm : MRd w H x m) (hF : Fin m) :
    Calls Tryz.prog 11 #[.agg #[.int .u16 H.id, .bool H.rs, .int .i64 H.op, .bool H.aa, .bool H.tc, .bool H.rd, .bool H.ra, .bool H.ad, .bool H.cd, .int .i64 H.rc, .slice x.q.a x.q.n x.q.c, .slice x.l1.a x.l1.n x.l1.c, .slice x.l2.a x.l2.n x.l2.c, .slice x.l3.a x.l3.n x.l3.c], .int .i64 z] w (PtP m z w) := by
  have hb0 : Below w.heap.size w (w.alloc (.cells #[.int .u16 H.id, .bool H.rs, .int .i64 H.op, .bool H.aa, .bool H.tc, .bool H.rd, .bool H.ra, .bool H.ad, .bool H.cd, .int .i64 H.rc, .slice x.q.a x.q.n x.q.c, .slice x.l1.a x.l1.n x.l1.c, .slice x.l2.a x.l2.n x.l2.c, .slice x.l3.a x.l3.n x.l3.c] 26)) := newq_below _ _
  have HBX : Hid ((w.alloc (.cells #[.int .u16 H.id, .bool H.rs, .int .i64 H.op, .bool H.aa, .bool H.tc, .bool H.rd, .bool H.ra, .bool H.ad, .bool H.cd, .int .i64 H.rc, .slice x.q.a x.q.n x.q.c, .slice x.l1.a x.l1.n x.l1.c, .slice x.l2.a x.l2.n x.l2.c, .slice x.l3.a x.l3.n x.l3.c] 26)).heap[w.heap.size]? = some (.cells #[.int .u16 H.id, .bool H.rs, .int .i64 H.op, .bool H.aa, .bool H.tc, .bool H.rd, .bool H.ra, .bool H.ad, .bool H.cd, .int .i64 H.rc, .slice x.q.a x.q.n x.q.c, .slice x.l1.a x.l1.n x.l1.c, .slice x.l2.a x.l2.n x.l2.c, .slice x.l3.a x.l3.n x.l3.c] 26)) := mbox_new H x w
  have HBel : Hid (Below w.heap.size w (w.alloc (.cells #[.int .u16 H.id, .bool H.rs, .int .i64 H.op, .bool H.aa, .bool H.tc, .bool H.rd, .bool H.ra, .bool H.ad, .bool H.cd, .int .i64 H.rc, .slice x.q.a x.q.n x.q.c, .slice x.l1.a x.l1.n x.l1.c, .slice x.l2.a x.l2.n x.l2.c, .slice x.l3.a x.l3.n x.l3.c] 26))) := hb0
  have e1 := hm.l1.len
  have e2 := hm.l2.len
  have e3 := hm.l3.len
  have HTOT : Hid (tot m = x.l1.n + x.l2.n + x.l3.n) := (by unfold tot; omega : tot m = x.l1.n + x.l2.n + x.l3.n)
  have hT : x.l1.n + x.l2.n + x.l3.n ≤ 1000000 := by have := hF.t; have := HTOT.out; omega
  have KC := Lib.hid (check_msg H x m _ (hm.below hb0) hF)
  have KT := fun W => Lib.hid (total_any H x W (by omega))
  have HM : Hid (MRd w H x m ∧ Fin m) := ⟨hm, hF⟩
  have hcap : ∀ j, (nth3 x j).n ≤ (nth3 x j).c ∧ (nth3 x j).n ≤ 1000000 ∧ (nth3 x j).c ≤ 9223372036854775807 := by
    intro j
    have h1 := (hm.nth j).1.cap
    refine ⟨h1.1, ?_, h1.2⟩
    unfold nth3
    split
    · omega
    · split <;> omega
  have HCAP := Lib.hid hcap
  obtain ⟨C, hC⟩ : ∃ C, chkM m = C := ⟨_, rfl⟩
  have HCM : Hid (chkM m = C) := hC
  rw [hC] at KC
  clear hm hF e1 e2 e3 hb0 hC hcap
  go_enter Tryz.func11, Tryz.ntmps11
  go_wp2_with fail
  generalize w.alloc (.cells #[.int .u16 H.id, .bool H.rs, .int .i64 H.op, .bool H.aa, .bool H.tc, .bool H.rd, .bool H.ra, .bool H.ad, .bool H.cd, .int .i64 H.rc, .slice x.q.a x.q.n x.q.c, .slice x.l1.a x.l1.n x.l1.c, .slice x.l2.a x.l2.n x.l2.c, .slice x.l3.a x.l3.n x.l3.c] 26) = Z at *
  obtain ⟨b, hbb⟩ : ∃ b, b = w.heap.size := ⟨_, rfl⟩
  rw [← hbb] at HBX ⊢
  clear hbb
  refine KC.out.mono ?_
  rintro e w1 ⟨rfl, H1⟩
  have HB1 : Hid (Below w.heap.size w w1 ∧ w1.heap[b]? = some (.cells #[.int .u16 H.id, .bool H.rs, .int .i64 H.op, .bool H.aa, .bool H.tc, .bool H.rd, .bool H.ra, .bool H.ad, .bool H.cd, .int .i64 H.rc, .slice x.q.a x.q.n x.q.c, .slice x.l1.a x.l1.n x.l1.c, .slice x.l2.a x.l2.n x.l2.c, .slice x.l3.a x.l3.n x.l3.c] 26)) := ⟨HBel.out.trans (H1.out.mono HBel.out.size), (H1.out.block b (box_lt HBX.out)).trans HBX.out⟩
  clear KC H1
  by_cases hC0 : C = 0
  case neg =>
    have h0' : (C != 0) = true := bne_iff_ne.2 hC0
    go_wp2
    go_ret2
    refine ⟨⟨none, 0, 0⟩, C, rfl, ?_, HB1.out.1⟩
    unfold PtR
    rw [HCM.out, if_neg hC0]
    exact ⟨rfl, rfl⟩
  subst hC0
  by_cases hz : z < 0
  · go_wp2
    go_ret2
    refine ⟨⟨none, 0, 0⟩, 2, rfl, ?_, HB1.out.1⟩
    unfold PtR
    rw [HCM.out, if_pos rfl, if_neg (by omega)]
    exact ⟨rfl, rfl⟩
  obtain ⟨k, rfl⟩ : ∃ k : Nat, z = k := ⟨z.toNat, by omega⟩
  clear hz
  have hz : ¬ (k : Int) < 0 := by omega
  obtain ⟨z0, z1, z2, z3, z4, z5, z6, z7, z8, z9, z10, z11, z12, z13⟩ := mbox_cells HB1.out.2
  have hl1 := box_lt HB1.out.2
  go_wp2_with fail
  refine (KT w1).out.mono ?_
  rintro e w2 ⟨rfl, H2⟩
  have HB2 : Hid (Below w.heap.size w w2 ∧ w2.heap[b]? = some (.cells #[.int .u16 H.id, .bool H.rs, .int .i64 H.op, .bool H.aa, .bool H.tc, .bool H.rd, .bool H.ra, .bool H.ad, .bool H.cd, .int .i64 H.rc, .slice x.q.a x.q.n x.q.c, .slice x.l1.a x.l1.n x.l1.c, .slice x.l2.a x.l2.n x.l2.c, .slice x.l3.a x.l3.n x.l3.c] 26)) := ⟨HB1.out.1.trans (H2.out.mono HB1.out.1.size), (H2.out.block b hl1).trans HB1.out.2⟩
  clear KT H2 z0 z1 z2 z3 z4 z5 z6 z7 z8 z9 z10 z11 z12 z13 hl1
  obtain ⟨TT, hTT⟩ : ∃ TT, x.l1.n + x.l2.n + x.l3.n = TT := ⟨_, rfl⟩
  rw [hTT] at HTOT hT ⊢
  clear hTT
  by_cases hk : TT < k
  · have hk' : (TT : Int) < (k : Int) := by omega
    go_wp2
    go_ret2
    refine ⟨⟨none, 0, 0⟩, 2, rfl, ?_, HB2.out.1⟩
    unfold PtR
    rw [HCM.out, if_pos rfl, if_neg (by rw [HTOT.out]; omega)]
    exact ⟨rfl, rfl⟩
  have hk' : (k : Int) ≤ (TT : Int) := by omega
  obtain ⟨z0, z1, z2, z3, z4, z5, z6, z7, z8, z9, z10, z11, z12, z13⟩ := mbox_cells HB2.out.2
  have hl2 := box_lt HB2.out.2
  have KF := Lib.hid (first_any H x k w2 (by omega) HCAP.out)
  go_wp2_with fail
  refine KF.out.mono ?_
  rintro e w3 ⟨rfl, H3⟩
  have HB3 : Hid (Below w.heap.size w w3) := HB2.out.1.trans (H3.out.mono HB2.out.1.size)
  have hok : ChkOk m := chkM_zero.1 HCM.out
  have KW := Lib.hid (mwrite_any H (cutJ x k 3) (cutM m k) w3 ((HM.out.1.below HB3.out).cut k) (hok.cut k) (fun j r hr => HM.out.2.d j r (cutM_sub m k j r hr)))
  clear hok KF z0 z1 z2 z3 z4 z5 z6 z7 z8 z9 z10 z11 z12 z13
  generalize cutJ x k 3 = X at *
  go_wp2_with fail
  refine KW.out.mono ?_
  rintro e w4 ⟨s4, er, rfl, H4⟩
  go_wp2_with fail
  go_ret2
  refine ⟨s4, er, rfl, ?_, HB3.out.trans (H4.out.2.mono HB3.out.size)⟩
  unfold PtR
  rw [HCM.out, if_pos rfl, if_pos (by rw [HTOT.out]; omega), Int.toNat_natCast]
  exact H4.out.1
/-- What Bytes answers. -/
def ByR (m : Mg) (w' : World) (s : Sl) (er : Int) : Prop := if chkM m = 0 then WrR (prun (pmsg m) (some ([], []))) w' s er else er = chkM m ∧ s = ⟨none, 0, 0⟩
def ByP (m : Mg) (w : World) (e : Ending) (w' : World) : Prop := ∃ (s : Sl) (er : Int), e = .returned (.tuple #[.slice s.a s.n s.c, .int .i64 er]) ∧ Hid (ByR m w' s er ∧ Below w.heap.size w w')
set_option maxRecDepth 100000 in
set_option maxHeartbeats 2000000 in
theorem bytes_msg (H : Hd) (x : MA) (m : Mg) (w : World) (hm : MRd w H x m) (hF : Fin m) :
    Calls Tryz.prog 9 #[.agg #[.int .u16 H.id, .bool H.rs, .int .i64 H.op, .bool H.aa, .bool H.tc, .bool H.rd, .bool H.ra, .bool H.ad, .bool H.cd, .int .i64 H.rc, .slice x.q.a x.q.n x.q.c, .slice x.l1.a x.l1.n x.l1.c, .slice x.l2.a x.l2.n x.l2.c, .slice x.l3.a x.l3.n x.l3.c]] w (ByP m w) := by
  have hb0 : Below w.heap.size w (w.alloc (.cells #[.int .u16 H.id, .bool H.rs, .int .i64 H.op, .bool H.aa, .bool H.tc, .bool H.rd, .bool H.ra, .bool H.ad, .bool H.cd, .int .i64 H.rc, .slice x.q.a x.q.n x.q.c, .slice x.l1.a x.l1.n x.l1.c, .slice x.l2.a x.l2.n x.l2.c, .slice x.l3.a x.l3.n x.l3.c] 26)) := newq_below _ _
  have HBX : Hid ((w.alloc (.cells #[.int .u16 H.id, .bool H.rs, .int .i64 H.op, .bool H.aa, .bool H.tc, .bool H.rd, .bool H.ra, .bool H.ad, .bool H.cd, .int .i64 H.rc, .slice x.q.a x.q.n x.q.c, .slice x.l1.a x.l1.n x.l1.c, .slice x.l2.a x.l2.n x.l2.c, .slice x.l3.a x.l3.n x.l3.c] 26)).heap[w.heap.size]? = some (.cells #[.int .u16 H.id, .bool H.rs, .int .i64 H.op, .bool H.aa, .bool H.tc, .bool H.rd, .bool H.ra, .bool H.ad, .bool H.cd, .int .i64 H.rc, .slice x.q.a x.q.n x.q.c, .slice x.l1.a x.l1.n x.l1.c, .slice x.l2.a x.l2.n x.l2.c, .slice x.l3.a x.l3.n x.l3.c] 26)) := mbox_new H x w
  have HBel : Hid (Below w.heap.size w (w.alloc (.cells #[.int .u16 H.id, .bool H.rs, .int .i64 H.op, .bool H.aa, .bool H.tc, .bool H.rd, .bool H.ra, .bool H.ad, .bool H.cd, .int .i64 H.rc, .slice x.q.a x.q.n x.q.c, .slice x.l1.a x.l1.n x.l1.c, .slice x.l2.a x.l2.n x.l2.c, .slice x.l3.a x.l3.n x.l3.c] 26))) := hb0
  have e1 := hm.l1.len
  have e2 := hm.l2.len
  have e3 := hm.l3.len
  have HTOT : Hid (tot m = x.l1.n + x.l2.n + x.l3.n) := (by unfold tot; omega : tot m = x.l1.n + x.l2.n + x.l3.n)
  have hT : x.l1.n + x.l2.n + x.l3.n ≤ 1000000 := by have := hF.t; have := HTOT.out; omega
  have KT := fun W => Lib.hid (total_any H x W (by omega))
  have KP : Hid (∀ W, Below w.heap.size w W → Calls Tryz.prog 11 #[.agg #[.int .u16 H.id, .bool H.rs, .int .i64 H.op, .bool H.aa, .bool H.tc, .bool H.rd, .bool H.ra, .bool H.ad, .bool H.cd, .int .i64 H.rc, .slice x.q.a x.q.n x.q.c, .slice x.l1.a x.l1.n x.l1.c, .slice x.l2.a x.l2.n x.l2.c, .slice x.l3.a x.l3.n x.l3.c], .int .i64 ((x.l1.n + x.l2.n + x.l3.n : Nat) : Int)] W (PtP m ((x.l1.n + x.l2.n + x.l3.n : Nat) : Int) W)) := fun W hW => part_any H x m _ W (hm.below hW) hF
  have HRES : Hid (∀ w' s er, PtR m ((x.l1.n + x.l2.n + x.l3.n : Nat) : Int) w' s er → ByR m w' s er) := by
    intro w' s er h
    unfold PtR at h
    unfold ByR
    split at h
    · next h0 =>
      rw [if_pos h0]
      rw [if_pos ⟨by omega, by rw [HTOT.out]; exact Int.le_refl _⟩, Int.toNat_natCast, cutM_all m _ (by rw [HTOT.out]; exact Nat.le_refl _)] at h
      exact h
    · next h0 => rw [if_neg h0]; exact h
  clear hm hF e1 e2 e3 hb0
  go_enter Tryz.func9, Tryz.ntmps9
  go_wp2_with fail
  generalize w.alloc (.cells #[.int .u16 H.id, .bool H.rs, .int .i64 H.op, .bool H.aa, .bool H.tc, .bool H.rd, .bool H.ra, .bool H.ad, .bool H.cd, .int .i64 H.rc, .slice x.q.a x.q.n x.q.c, .slice x.l1.a x.l1.n x.l1.c, .slice x.l2.a x.l2.n x.l2.c, .slice x.l3.a x.l3.n x.l3.c] 26) = Z at *
  obtain ⟨b, hbb⟩ : ∃ b, b = w.heap.size := ⟨_, rfl⟩
  rw [← hbb] at HBX ⊢
  clear hbb
  have KS : ∀ W, Below Z.heap.size Z W → (W.cell? ⟨b, 0, none⟩ = some (.int .u16 H.id) ∧ W.cell? ⟨b, 1, none⟩ = some (.bool H.rs) ∧ W.cell? ⟨b, 2, none⟩ = some (.int .i64 H.op) ∧ W.cell? ⟨b, 3, none⟩ = some (.bool H.aa) ∧ W.cell? ⟨b, 4, none⟩ = some (.bool H.tc) ∧ W.cell? ⟨b, 5, none⟩ = some (.bool H.rd) ∧ W.cell? ⟨b, 6, none⟩ = some (.bool H.ra) ∧ W.cell? ⟨b, 7, none⟩ = some (.bool H.ad) ∧ W.cell? ⟨b, 8, none⟩ = some (.bool H.cd) ∧ W.cell? ⟨b, 9, none⟩ = some (.int .i64 H.rc) ∧ W.cell? ⟨b, 10, none⟩ = some (.slice x.q.a x.q.n x.q.c) ∧ W.cell? ⟨b, 11, none⟩ = some (.slice x.l1.a x.l1.n x.l1.c) ∧ W.cell? ⟨b, 12, none⟩ = some (.slice x.l2.a x.l2.n x.l2.c) ∧ W.cell? ⟨b, 13, none⟩ = some (.slice x.l3.a x.l3.n x.l3.c)) := fun W hW => mbox_cells ((hW.block b (box_lt HBX.out)).trans HBX.out)
  obtain ⟨z0, z1, z2, z3, z4, z5, z6, z7, z8, z9, z10, z11, z12, z13⟩ := KS Z (Below.refl _ _)
  have hbZ := box_lt HBX.out
  generalize x.l1.n + x.l2.n + x.l3.n = TT at *
  go_region_held3 (fun W => (W.cell? ⟨b, 0, none⟩ = some (.int .u16 H.id) ∧ W.cell? ⟨b, 1, none⟩ = some (.bool H.rs) ∧ W.cell? ⟨b, 2, none⟩ = some (.int .i64 H.op) ∧ W.cell? ⟨b, 3, none⟩ = some (.bool H.aa) ∧ W.cell? ⟨b, 4, none⟩ = some (.bool H.tc) ∧ W.cell? ⟨b, 5, none⟩ = some (.bool H.rd) ∧ W.cell? ⟨b, 6, none⟩ = some (.bool H.ra) ∧ W.cell? ⟨b, 7, none⟩ = some (.bool H.ad) ∧ W.cell? ⟨b, 8, none⟩ = some (.bool H.cd) ∧ W.cell? ⟨b, 9, none⟩ = some (.int .i64 H.rc) ∧ W.cell? ⟨b, 10, none⟩ = some (.slice x.q.a x.q.n x.q.c) ∧ W.cell? ⟨b, 11, none⟩ = some (.slice x.l1.a x.l1.n x.l1.c) ∧ W.cell? ⟨b, 12, none⟩ = some (.slice x.l2.a x.l2.n x.l2.c) ∧ W.cell? ⟨b, 13, none⟩ = some (.slice x.l3.a x.l3.n x.l3.c))) (first | exact KS _ HB2.out | exact KS _ HB1.out | exact KS _ (Below.refl Z.heap.size Z).drew | exact KS _ (Below.refl Z.heap.size Z) | exact KS _ HB2.out.drew | exact KS _ HB1.out.drew) (first
    | (go_at_call 30; refine Calls.mono (KT _).out ?_; rintro e w1 ⟨rfl, H1⟩; have HB1 : Hid (Below Z.heap.size Z w1) := (by first | exact Below.trans ((Below.refl Z.heap.size Z).drew) (Below.mono H1.out (Below.size ((Below.refl Z.heap.size Z).drew))) | exact Below.trans (Below.refl Z.heap.size Z) (Below.mono H1.out (Below.size (Below.refl Z.heap.size Z)))))
    | (go_at_call 11; refine Calls.mono (KP.out _ (by first | exact HBel.out.trans (HB1.out.mono HBel.out.size) | exact HBel.out.trans (HB1.out.drew.mono HBel.out.size))) ?_; rintro e w2 ⟨s2, er2, rfl, H2⟩; have HB2 : Hid (Below Z.heap.size Z w2) := (by first | exact Below.trans HB1.out (Below.mono H2.out.2 (Below.size HB1.out)) | exact Below.trans HB1.out.drew (Below.mono H2.out.2 (Below.size HB1.out.drew)))))
  go_wp2_with fail
  go_ret2
  exact ⟨s2, er2, rfl, HRES.out _ _ _ H2.out.1, HBel.out.trans (HB2.out.mono HBel.out.size)⟩
end Go.Proofs.YtkjnbgekaifdfaaGreat
namespace Go.Proofs.YtkjnbgekaifdfaaGreat
open Go.ChangeShapes Go.WideShapes Go.ChangeAt Go.RowKit Go.Maps
set_option linter.unusedVariables false
set_option linter.unusedSimpArgs false
theorem chk_bd {t : Nat} {d : Dat} (h : checkF t d = 0) : Bd d := by
  have := pread_bd t (writeF t d) (wlen h)
  rw [pread_at t d _ h rfl] at this
  exact this
theorem ChkOk.fin {m : Mg} (h : ChkOk m) : Fin m := by
  have h1 := h.nr
  have h2 := h.nq
  refine ⟨fun k r hr => chk_bd (h.nth k r hr).2, fun q hq => ?_, fun k r hr => ?_, by omega, by omega⟩
  · have := nck_len (h.qs q hq); omega
  · have := nck_len (h.nth k r hr).1; omega
end Go.Proofs.YtkjnbgekaifdfaaGreat
namespace Go.Proofs.YtkjnbgekaifdfaaGreat
open Go.ChangeShapes Go.WideShapes Go.ChangeAt Go.RowKit Go.Maps
set_option linter.unusedVariables false
set_option linter.unusedSimpArgs false
theorem txt_at {w : World} {g : Nat} {s : ByteArray} (h : w.heap[g]? = some (.cells #[.string s] 9)) (hs : s.size ≤ 9223372036854775807) : TRd w ⟨some ⟨g, 0, none⟩, 1, 1⟩ [s] := by
  refine ⟨.inr ⟨g, 0, rfl, box_lt h, fun i hi => ?_⟩, rfl, ⟨Nat.le_refl _, by simp⟩, by simp, by simpa using hs⟩
  have : i = 0 := Nat.lt_one_iff.1 hi
  subst this
  exact box_cell h 0 _ rfl
theorem qn_at {w : World} {g : Nat} {s : Sl} {nm : List ByteArray} {t cl : Nat} (h : w.heap[g]? = some (.cells #[.slice s.a s.n s.c, .int .u16 (t : Int), .int .u16 (cl : Int)] 55)) (hn : TRd w s nm) (ht : t < 65536) (hc : cl < 65536) : QsRd w ⟨some ⟨g, 0, none⟩, 1, 1⟩ [⟨nm, t, cl⟩] := by
  refine ⟨.inr ⟨g, 0, rfl, box_lt h, fun i hi => ?_⟩, rfl, ⟨Nat.le_refl _, by simp⟩, by simp⟩
  have : i = 0 := by simp at hi; omega
  subst this
  exact ⟨⟨s, t, cl⟩, box_cell h 0 _ rfl, box_cell h 1 _ rfl, box_cell h 2 _ rfl, ⟨hn, rfl, rfl, ht, hc⟩⟩
theorem raw_at {w : World} {g : Nat} {zs : List Int} {n : Nat} (h : w.heap[g]? = some (.cells (zs.map (Value.int .u8)).toArray 5)) (hn : zs.length = n) (hb : ∀ z ∈ zs, 0 ≤ z ∧ z ≤ 255) (hm : n ≤ 1000) : BRd w ⟨some ⟨g, 0, none⟩, n, n⟩ zs := by
  have hblk : Blk w g zs := ⟨h, hb⟩
  exact ⟨⟨.inr ⟨g, 0, rfl, hblk.lt, fun i hi => by rw [Nat.zero_add]; exact hblk.cell i hi⟩, hb⟩, hn, ⟨Nat.le_refl _, by simp only; omega⟩, by simp⟩
theorem rec_at {w : World} {g : Nat} {x : RA} {r : Rec} (h : w.heap[g]? = some (.cells #[.slice x.o.a x.o.n x.o.c, .int .u16 r.t, .int .u16 r.cl, .int .u32 r.tt, .slice x.d.p1.a x.d.p1.n x.d.p1.c, .slice x.d.p2.a x.d.p2.n x.d.p2.c, .slice x.d.p3.a x.d.p3.n x.d.p3.c, .slice x.d.p4.a x.d.p4.n x.d.p4.c] 62)) (hx : RRd w x r) : LRd w ⟨some ⟨g, 0, none⟩, 1, 1⟩ [r] := by
  refine ⟨.inr ⟨g, 0, rfl, box_lt h, fun i hi => ?_⟩, rfl, ⟨Nat.le_refl _, by simp⟩, by simp⟩
  have : i = 0 := by simp at hi; omega
  subst this
  refine ⟨x, fun j hj => ?_, hx⟩
  have hc : j = 0 ∨ j = 1 ∨ j = 2 ∨ j = 3 ∨ j = 4 ∨ j = 5 ∨ j = 6 ∨ j = 7 := by omega
  rcases hc with rfl | rfl | rfl | rfl | rfl | rfl | rfl | rfl
  · exact box_cell h 0 _ rfl
  · exact box_cell h 1 _ rfl
  · exact box_cell h 2 _ rfl
  · exact box_cell h 3 _ rfl
  · exact box_cell h 4 _ rfl
  · exact box_cell h 5 _ rfl
  · exact box_cell h 6 _ rfl
  · exact box_cell h 7 _ rfl
theorem lrd_nil (w : World) : LRd w ⟨none, 0, 0⟩ [] := ⟨.inl rfl, rfl, ⟨Nat.le_refl _, by simp⟩, fun _ => rfl⟩
theorem four_at (w : World) (a b c d : Obj) : Below w.heap.size w ((((w.alloc a).alloc b).alloc c).alloc d) ∧ ((((w.alloc a).alloc b).alloc c).alloc d).heap[w.heap.size]? = some a ∧ ((((w.alloc a).alloc b).alloc c).alloc d).heap[w.heap.size + 1]? = some b ∧ ((((w.alloc a).alloc b).alloc c).alloc d).heap[w.heap.size + 1 + 1]? = some c ∧ ((((w.alloc a).alloc b).alloc c).alloc d).heap[w.heap.size + 1 + 1 + 1]? = some d ∧ ((((w.alloc a).alloc b).alloc c).alloc d).heap.size = w.heap.size + 1 + 1 + 1 + 1 := by
  obtain ⟨h1, h2, h3, h4, h5⟩ := three_at w a b c
  generalize ((w.alloc a).alloc b).alloc c = w3 at *
  have n := heap_alloc_new w3 d
  have nb := newq_below w3 d
  rw [h5] at n
  refine ⟨h1.trans (nb.mono h1.size), (nb.block _ (by omega)).trans h2, (nb.block _ (by omega)).trans h3, (nb.block _ (by omega)).trans h4, n, ?_⟩
  rw [World.size_alloc, h5]
def aNm : ByteArray := { data := #[97] }
end Go.Proofs.YtkjnbgekaifdfaaGreat
namespace Go.Proofs.YtkjnbgekaifdfaaGreat
open Go.ChangeShapes Go.WideShapes Go.ChangeAt Go.RowKit
set_option linter.unusedVariables false
set_option linter.unusedSimpArgs false
def isO (r : Rec) : Bool := decide (r.t = 41)
/-- Whether records beside one another are of one set. -/
def togF (a b : Rec) : Bool := decide (a.t = b.t) && decide (a.cl = b.cl) && nsame a.ow b.ow
def bumpF (cs : List Nat) : List Nat := cs.dropLast ++ [cs.getLastD 0 + 1]
def goesF (l : List Rec) (k : Nat) : Bool := match l[k - 1]?, l[k]? with
  | some a, some b => decide (0 < k) && togF a b
  | _, _ => false
def runF (cs : List Nat) (l : List Rec) : Nat → List Nat
  | 0 => cs
  | k + 1 => if goesF l k then bumpF (runF cs l k) else runF cs l k ++ [1]
theorem bump_sum (cs : List Nat) : (bumpF cs).sum = cs.sum + 1 := by
  unfold bumpF
  rcases List.eq_nil_or_concat cs with rfl | ⟨l, x, rfl⟩
  · simp
  · simp; omega
theorem run_sum (cs : List Nat) (l : List Rec) : ∀ k, (runF cs l k).sum = cs.sum + k
  | 0 => rfl
  | k + 1 => by
    have ih := run_sum cs l k
    unfold runF
    split
    · rw [bump_sum, ih]; omega
    · simp [ih]; omega
theorem bump_len {cs : List Nat} (h : cs ≠ []) : (bumpF cs).length = cs.length := by
  unfold bumpF
  rcases List.eq_nil_or_concat cs with rfl | ⟨l, x, rfl⟩
  · exact absurd rfl h
  · simp
theorem run_len (cs : List Nat) (l : List Rec) : ∀ k, (runF cs l k).length ≤ cs.length + k ∧ (1 ≤ k → 1 ≤ (runF cs l k).length)
  | 0 => ⟨Nat.le_refl _, fun h => by omega⟩
  | k + 1 => by
    have ih := run_len cs l k
    unfold runF
    split
    · have : (bumpF (runF cs l k)).length ≤ (runF cs l k).length ∨ (bumpF (runF cs l k)).length = 1 := by
        by_cases h : runF cs l k = []
        · right; rw [h]; rfl
        · left; rw [bump_len h]; exact Nat.le_refl _
      have h1 : 1 ≤ (bumpF (runF cs l k)).length := by unfold bumpF; simp
      omega
    · simp; omega
/-- Additional records but the saying one. -/
def othersF : List Rec → List Rec
  | [] => []
  | r :: l => if isO r then l else r :: othersF l
/-- The first so many of them, and the saying one. -/
def besideF : List Rec → Nat → List Rec
  | [], _ => []
  | r :: l, n => if isO r then r :: l.take n else match n with
    | 0 => (l.find? isO).toList
    | n + 1 => r :: besideF l n
def flt (l : List Rec) : List Rec := l.filter fun r => !isO r
def cntO (l : List Rec) : Nat := (l.filter isO).length
theorem cnt_flt (l : List Rec) : cntO l + (flt l).length = l.length := by
  induction l with
  | nil => rfl
  | cons r l ih =>
    unfold cntO flt at *
    by_cases h : isO r <;> simp [h] <;> omega
theorem flt_none {l : List Rec} (h : cntO l = 0) : flt l = l := by
  have h1 : ∀ r ∈ l, isO r = false := by
    intro r hr
    unfold cntO at h
    have := List.filter_eq_nil_iff.1 (List.length_eq_zero_iff.1 h) r hr
    simpa using this
  unfold flt
  exact List.filter_eq_self.2 fun r hr => by simp [h1 r hr]
theorem others_none : ∀ {l : List Rec}, (∀ r ∈ l, isO r = false) → othersF l = l
  | [], _ => rfl
  | r :: l, h => by
    rw [othersF, if_neg (by simp [h r (by simp)]), others_none fun x hx => h x (by simp [hx])]
theorem others_at : ∀ {l : List Rec} {at' : Nat} (ha : at' < l.length), isO l[at'] = true → (∀ r ∈ l.take at', isO r = false) → othersF l = l.take at' ++ l.drop (at' + 1)
  | [], _, ha, _, _ => by simp at ha
  | r :: l, 0, _, h, _ => by
    simp at h
    simp [othersF, h]
  | r :: l, k + 1, ha, h, hp => by
    have h1 : isO r = false := hp r (by simp)
    rw [othersF, if_neg (by simp [h1]), others_at (at' := k) (by simpa using ha) (by simpa using h) (fun x hx => hp x (by simp [hx]))]
    simp
theorem find_none : ∀ {l : List Rec}, (∀ r ∈ l, isO r = false) → l.find? isO = none := by
  intro l h
  rw [List.find?_eq_none]
  intro x hx
  simp [h x hx]
theorem find_at : ∀ {l : List Rec} {k : Nat} (ha : k < l.length), isO l[k] = true → (∀ r ∈ l.take k, isO r = false) → l.find? isO = some l[k]
  | [], _, ha, _, _ => by simp at ha
  | r :: l, 0, _, h, _ => by simp at h; simp [h]
  | r :: l, k + 1, ha, h, hp => by
    have h1 : isO r = false := hp r (by simp)
    rw [List.find?_cons, h1]
    simpa using find_at (k := k) (by simpa using ha) (by simpa using h) (fun x hx => hp x (by simp [hx]))
theorem beside_none : ∀ {l : List Rec} (n : Nat), (∀ r ∈ l, isO r = false) → besideF l n = l.take n
  | [], _, _ => by simp [besideF]
  | r :: l, 0, h => by
    rw [besideF, if_neg (by simp [h r (by simp)])]
    simp [find_none fun x hx => h x (List.mem_cons_of_mem _ hx)]
  | r :: l, n + 1, h => by
    rw [besideF, if_neg (by simp [h r (by simp)])]
    simp [beside_none n fun x hx => h x (List.mem_cons_of_mem _ hx)]
theorem beside_at : ∀ {l : List Rec} {k : Nat} (n : Nat) (ha : k < l.length), isO l[k] = true → (∀ r ∈ l.take k, isO r = false) → besideF l n = if k ≤ n then l.take (n + 1) else l.take n ++ [l[k]]
  | [], _, _, ha, _, _ => by simp at ha
  | r :: l, 0, n, _, h, _ => by
    simp at h
    simp [besideF, h]
  | r :: l, k + 1, 0, ha, h, hp => by
    have h1 : isO r = false := hp r (by simp)
    rw [besideF, if_neg (by simp [h1]), if_neg (by omega)]
    simp [find_at (l := l) (k := k) (by simpa using ha) (by simpa using h) (fun x hx => hp x (by simp [hx]))]
  | r :: l, k + 1, n + 1, ha, h, hp => by
    have h1 : isO r = false := hp r (by simp)
    rw [besideF, if_neg (by simp [h1])]
    rw [beside_at (k := k) n (by simpa using ha) (by simpa using h) (fun x hx => hp x (by simp [hx]))]
    by_cases hk : k ≤ n
    · rw [if_pos hk, if_pos (by omega)]; simp
    · rw [if_neg hk, if_neg (by omega)]; simp
theorem find_sub (l : List Rec) : ((l.find? isO).toList).Sublist l := by
  cases h : l.find? isO with
  | none => simp
  | some x => simpa using List.mem_of_find?_eq_some h
theorem beside_sub : ∀ (l : List Rec) (n : Nat), (besideF l n).Sublist l
  | [], _ => by simp [besideF]
  | r :: l, n => by
    unfold besideF
    split
    · exact (List.take_sublist n l).cons_cons r
    · cases n with
      | zero => exact (find_sub l).cons r
      | succ n => exact (beside_sub l n).cons_cons r
theorem find_beside : ∀ (l : List Rec) (n : Nat), ((l.find? isO).toList).Sublist (besideF l n)
  | [], _ => by simp
  | r :: l, n => by
    unfold besideF
    by_cases h : isO r
    · simp [h]
    · simp only [h, Bool.false_eq_true, if_false, List.find?_cons]
      cases n with
      | zero => exact List.Sublist.refl _
      | succ n => exact (find_beside l n).cons r
theorem beside_mono : ∀ (l : List Rec) (n k : Nat), n ≤ k → (besideF l n).Sublist (besideF l k)
  | [], _, _, _ => by simp [besideF]
  | r :: l, n, k, h => by
    unfold besideF
    by_cases hr : isO r
    · simp only [hr, if_true]
      refine List.Sublist.cons_cons r ?_
      rw [show l.take n = (l.take k).take n by rw [List.take_take, Nat.min_eq_left h]]
      exact List.take_sublist _ _
    · simp only [hr, Bool.false_eq_true, if_false]
      cases n with
      | zero =>
        cases k with
        | zero => exact List.Sublist.refl _
        | succ k => exact (find_beside l k).cons r
      | succ n =>
        cases k with
        | zero => omega
        | succ k => exact (beside_mono l n k (by omega)).cons_cons r
theorem flt_sub {a b : List Rec} (h : a.Sublist b) : (flt a).length ≤ (flt b).length := (h.filter _).length_le
theorem cnt_zero {l : List Rec} : cntO l = 0 ↔ ∀ r ∈ l, isO r = false := by
  unfold cntO
  rw [List.length_eq_zero_iff, List.filter_eq_nil_iff]
  constructor <;> intro h r hr <;> have := h r hr <;> simpa using this
theorem others_len (l : List Rec) : (othersF l).length ≤ l.length ∧ l.length ≤ (othersF l).length + 1 := by
  induction l with
  | nil => simp [othersF]
  | cons r l ih =>
    unfold othersF
    split <;> simp <;> omega
end Go.Proofs.YtkjnbgekaifdfaaGreat
namespace Go.Proofs.YtkjnbgekaifdfaaGreat
open Go.ChangeShapes Go.WideShapes Go.ChangeAt Go.RowKit
set_option linter.unusedVariables false
set_option linter.unusedSimpArgs false
/-- A function of records that answers P. -/
def Asks (fn : Nat) (P : Rec → Bool) : Prop := ∀ (x : RA) (r : Rec) (W : World), Calls Tryz.prog fn #[.agg (recCells x r).toArray] W fun e w' => e = .returned (.bool (P r)) ∧ Hid (Below W.heap.size W w')
theorem newF_below (w : World) (o : Obj) : Below w.heap.size w (w.alloc o) := (Below.refl _ _).alloc (Nat.le_refl _) _
set_option maxRecDepth 100000 in
set_option maxHeartbeats 1000000 in
theorem asks62 : Asks 62 isO := by
  intro x r w
  show Calls Tryz.prog 62 #[.agg (recCells x r).toArray] w fun e w' => e = .returned (.bool (decide (r.t = 41))) ∧ Hid (Below w.heap.size w w')
  obtain ⟨⟨oa, on, oc⟩, ⟨⟨a1, n1, c1⟩, ⟨a2, n2, c2⟩, ⟨a3, n3, c3⟩, ⟨a4, n4, c4⟩⟩⟩ := x
  obtain ⟨ow, t, cl, tt, d⟩ := r
  show Calls Tryz.prog 62 #[.agg #[.slice oa on oc, .int .u16 (t : Int), .int .u16 (cl : Int), .int .u32 (tt : Int), .slice a1 n1 c1, .slice a2 n2 c2, .slice a3 n3 c3, .slice a4 n4 c4]] w _
  have HB : Hid (Below w.heap.size w (w.alloc (.cells #[.slice oa on oc, .int .u16 (t : Int), .int .u16 (cl : Int), .int .u32 (tt : Int), .slice a1 n1 c1, .slice a2 n2 c2, .slice a3 n3 c3, .slice a4 n4 c4] 62))) := newF_below _ _
  simp only
  have hq : decide ((t : Int) = 41) = decide (t = 41) := by by_cases h : t = 41 <;> simp [h] <;> omega
  go_enter Tryz.func62, Tryz.ntmps62
  go_wp2
  go_ret
  refine ⟨?_, HB.out⟩
  by_cases h : t = 41
  · simp [h]
  · have : ¬ (t : Int) = 41 := by omega
    simp [h, this]
set_option maxRecDepth 100000 in
set_option maxHeartbeats 1000000 in
theorem asks103 : Asks 103 isO := by
  intro x r w
  show Calls Tryz.prog 103 #[.agg (recCells x r).toArray] w fun e w' => e = .returned (.bool (decide (r.t = 41))) ∧ Hid (Below w.heap.size w w')
  obtain ⟨⟨oa, on, oc⟩, ⟨⟨a1, n1, c1⟩, ⟨a2, n2, c2⟩, ⟨a3, n3, c3⟩, ⟨a4, n4, c4⟩⟩⟩ := x
  obtain ⟨ow, t, cl, tt, d⟩ := r
  show Calls Tryz.prog 103 #[.agg #[.slice oa on oc, .int .u16 (t : Int), .int .u16 (cl : Int), .int .u32 (tt : Int), .slice a1 n1 c1, .slice a2 n2 c2, .slice a3 n3 c3, .slice a4 n4 c4]] w _
  have HB : Hid (Below w.heap.size w (w.alloc (.cells #[.slice oa on oc, .int .u16 (t : Int), .int .u16 (cl : Int), .int .u32 (tt : Int), .slice a1 n1 c1, .slice a2 n2 c2, .slice a3 n3 c3, .slice a4 n4 c4] 62))) := newF_below _ _
  simp only
  have hq : decide ((t : Int) = 41) = decide (t = 41) := by by_cases h : t = 41 <;> simp [h] <;> omega
  go_enter Tryz.func103, Tryz.ntmps103
  go_wp2
  go_ret
  refine ⟨?_, HB.out⟩
  by_cases h : t = 41
  · simp [h]
  · have : ¬ (t : Int) = 41 := by omega
    simp [h, this]
/-- What IndexFunc answers. -/
def IxP (P : Rec → Bool) (rs : List Rec) (w : World) (e : Ending) (w' : World) : Prop :=
  (∃ k : Nat, ∃ h : k < rs.length, P rs[k] = true ∧ (∀ r ∈ rs.take k, P r = false) ∧ e = .returned (.int .i64 (k : Int)) ∧ Hid (Below w.heap.size w w')) ∨ ((∀ r ∈ rs, P r = false) ∧ e = .returned (.int .i64 (-1)) ∧ Hid (Below w.heap.size w w'))
theorem ixp_yes {P : Rec → Bool} {rs : List Rec} {w w' : World} {k : Nat} (h : k < rs.length) (h1 : P rs[k] = true) (h2 : ∀ r ∈ rs.take k, P r = false) (h3 : Below w.heap.size w w') : IxP P rs w (.returned (.int .i64 (k : Int))) w' := .inl ⟨k, h, h1, h2, rfl, h3⟩
theorem ixp_no {P : Rec → Bool} {rs : List Rec} {w w' : World} (h2 : ∀ r ∈ rs, P r = false) (h3 : Below w.heap.size w w') : IxP P rs w (.returned (.int .i64 (-1))) w' := .inr ⟨h2, rfl, h3⟩
theorem all_step {P : Rec → Bool} {rs : List Rec} {k : Nat} (hk : k < rs.length) (h : ∀ r ∈ rs.take k, P r = false) (h1 : P rs[k] = false) : ∀ r ∈ rs.take (k + 1), P r = false := by
  rw [List.take_succ_eq_append_getElem hk]
  intro r hr
  rcases List.mem_append.1 hr with hr | hr
  · exact h r hr
  · rw [List.mem_singleton.1 hr]; exact h1
set_option maxRecDepth 100000 in
set_option maxHeartbeats 2000000 in
theorem index94_62 (P : Rec → Bool) (hP : Asks 62 P) (s : Sl) (rs : List Rec) (w : World) (h : LRd w s rs) : Calls Tryz.prog 94 #[(.slice s.a s.n s.c), .func (.func 62) #[] #[]] w (IxP P rs w) := by
  have HR : Hid (LRd w s rs) := h
  have HP : Hid (Asks 62 P) := hP
  have hl := h.len
  have hcap := h.cap
  clear h hP
  obtain ⟨sa, n, sc⟩ := s
  simp only at *
  go_enter Tryz.func94, Tryz.ntmps94
  go_wp2_with fail
  go_loopw [8] (fun y wr => ∃ k : Nat, k ≤ n ∧ y = .int .i64 (k : Int) ∧ Hid ((∀ r ∈ rs.take k, P r = false) ∧ Below w.heap.size w wr)) (fun y _ => n - (intOf y).toNat)
  case atStart => exact ⟨0, Nat.zero_le _, rfl, fun r hr => (by simp at hr), Below.refl _ _⟩
  case round =>
    obtain ⟨k, hk, rfl, HW⟩ := hrel
    by_cases hlt : k < n
    · have hlt' : (k : Int) < (n : Int) := by omega
      have hkl : k < rs.length := by omega
      obtain ⟨b, o, e0, hbb, x, he, hx⟩ := (HR.out.rd.below HW.out.2).at k hkl
      simp only at e0
      subst e0
      have KA := Lib.hid (HP.out x rs[k] wr)
      have c0 := he 0 (by omega)
      have c1 := he 1 (by omega)
      have c2 := he 2 (by omega)
      have c3 := he 3 (by omega)
      have c4 := he 4 (by omega)
      have c5 := he 5 (by omega)
      have c6 := he 6 (by omega)
      have c7 := he 7 (by omega)
      obtain ⟨q, hq⟩ : ∃ q, q = P rs[k] := ⟨_, rfl⟩
      have HQ : Hid (q = P rs[k]) := hq
      rw [← hq] at KA
      clear hx he hq
      generalize rs[k] = r at KA c0 c1 c2 c3 c4 c5 c6 c7
      obtain ⟨⟨xa, xn, xc⟩, ⟨⟨xa1, xn1, xc1⟩, ⟨xa2, xn2, xc2⟩, ⟨xa3, xn3, xc3⟩, ⟨xa4, xn4, xc4⟩⟩⟩ := x
      obtain ⟨ow, t, cl, tt, d⟩ := r
      simp only [recCells, Nat.add_zero, List.getElem?_cons_zero, List.getElem?_cons_succ] at c0 c1 c2 c3 c4 c5 c6 c7 KA
      cases q
      · go_wp2_with fail
        refine KA.out.mono ?_
        rintro e w2 ⟨rfl, H2⟩
        have HB2 : Hid (Below w.heap.size w w2) := HW.out.2.trans (H2.out.mono HW.out.2.size)
        go_wp2
        go_round
        case rel => exact ⟨k + 1, by omega, by go_num, all_step hkl HW.out.1 HQ.out.symm, HB2.out⟩
        case measure => simp [intOf]; omega
      · go_wp2_with fail
        refine KA.out.mono ?_
        rintro e w2 ⟨rfl, H2⟩
        have HB2 : Hid (Below w.heap.size w w2) := HW.out.2.trans (H2.out.mono HW.out.2.size)
        go_wp2
        go_ret
        exact ixp_yes hkl HQ.out.symm HW.out.1 HB2.out
    · have hge : (n : Int) ≤ (k : Int) := by omega
      have HA : Hid (∀ r ∈ rs, P r = false) := by
        have := HW.out.1
        rw [List.take_of_length_le (by omega)] at this
        exact this
      go_wp2
      go_ret
      exact ixp_no HA.out HW.out.2
set_option maxRecDepth 100000 in
set_option maxHeartbeats 2000000 in
theorem index94_103 (P : Rec → Bool) (hP : Asks 103 P) (s : Sl) (rs : List Rec) (w : World) (h : LRd w s rs) : Calls Tryz.prog 94 #[(.slice s.a s.n s.c), .func (.func 103) #[] #[]] w (IxP P rs w) := by
  have HR : Hid (LRd w s rs) := h
  have HP : Hid (Asks 103 P) := hP
  have hl := h.len
  have hcap := h.cap
  clear h hP
  obtain ⟨sa, n, sc⟩ := s
  simp only at *
  go_enter Tryz.func94, Tryz.ntmps94
  go_wp2_with fail
  go_loopw [8] (fun y wr => ∃ k : Nat, k ≤ n ∧ y = .int .i64 (k : Int) ∧ Hid ((∀ r ∈ rs.take k, P r = false) ∧ Below w.heap.size w wr)) (fun y _ => n - (intOf y).toNat)
  case atStart => exact ⟨0, Nat.zero_le _, rfl, fun r hr => (by simp at hr), Below.refl _ _⟩
  case round =>
    obtain ⟨k, hk, rfl, HW⟩ := hrel
    by_cases hlt : k < n
    · have hlt' : (k : Int) < (n : Int) := by omega
      have hkl : k < rs.length := by omega
      obtain ⟨b, o, e0, hbb, x, he, hx⟩ := (HR.out.rd.below HW.out.2).at k hkl
      simp only at e0
      subst e0
      have KA := Lib.hid (HP.out x rs[k] wr)
      have c0 := he 0 (by omega)
      have c1 := he 1 (by omega)
      have c2 := he 2 (by omega)
      have c3 := he 3 (by omega)
      have c4 := he 4 (by omega)
      have c5 := he 5 (by omega)
      have c6 := he 6 (by omega)
      have c7 := he 7 (by omega)
      obtain ⟨q, hq⟩ : ∃ q, q = P rs[k] := ⟨_, rfl⟩
      have HQ : Hid (q = P rs[k]) := hq
      rw [← hq] at KA
      clear hx he hq
      generalize rs[k] = r at KA c0 c1 c2 c3 c4 c5 c6 c7
      obtain ⟨⟨xa, xn, xc⟩, ⟨⟨xa1, xn1, xc1⟩, ⟨xa2, xn2, xc2⟩, ⟨xa3, xn3, xc3⟩, ⟨xa4, xn4, xc4⟩⟩⟩ := x
      obtain ⟨ow, t, cl, tt, d⟩ := r
      simp only [recCells, Nat.add_zero, List.getElem?_cons_zero, List.getElem?_cons_succ] at c0 c1 c2 c3 c4 c5 c6 c7 KA
      cases q
      · go_wp2_with fail
        refine KA.out.mono ?_
        rintro e w2 ⟨rfl, H2⟩
        have HB2 : Hid (Below w.heap.size w w2) := HW.out.2.trans (H2.out.mono HW.out.2.size)
        go_wp2
        go_round
        case rel => exact ⟨k + 1, by omega, by go_num, all_step hkl HW.out.1 HQ.out.symm, HB2.out⟩
        case measure => simp [intOf]; omega
      · go_wp2_with fail
        refine KA.out.mono ?_
        rintro e w2 ⟨rfl, H2⟩
        have HB2 : Hid (Below w.heap.size w w2) := HW.out.2.trans (H2.out.mono HW.out.2.size)
        go_wp2
        go_ret
        exact ixp_yes hkl HQ.out.symm HW.out.1 HB2.out
    · have hge : (n : Int) ≤ (k : Int) := by omega
      have HA : Hid (∀ r ∈ rs, P r = false) := by
        have := HW.out.1
        rw [List.take_of_length_le (by omega)] at this
        exact this
      go_wp2
      go_ret
      exact ixp_no HA.out HW.out.2
end Go.Proofs.YtkjnbgekaifdfaaGreat
namespace Go.Proofs.YtkjnbgekaifdfaaGreat
open Go.ChangeShapes Go.WideShapes Go.ChangeAt Go.RowKit
set_option linter.unusedVariables false
set_option linter.unusedSimpArgs false
def cntJ (m : Mg) : Nat → List Nat
  | 0 => []
  | 1 => runF [] m.l1 m.l1.length
  | 2 => runF (runF [] m.l1 m.l1.length) m.l2 m.l2.length
  | _ => runF (runF (runF [] m.l1 m.l1.length) m.l2 m.l2.length) (othersF m.l3) (othersF m.l3).length
def lstJ (m : Mg) (j : Nat) : List Rec := if j = 0 then m.l1 else if j = 1 then m.l2 else othersF m.l3
theorem cntJ_step (m : Mg) (j : Nat) (hj : j < 3) : cntJ m (j + 1) = runF (cntJ m j) (lstJ m j) (lstJ m j).length := by
  have : j = 0 ∨ j = 1 ∨ j = 2 := by omega
  rcases this with rfl | rfl | rfl <;> rfl
def setsF (m : Mg) : List Nat := cntJ m 3
def totF (m : Mg) : Nat := m.l1.length + m.l2.length + (othersF m.l3).length
theorem sets_sum (m : Mg) : (setsF m).sum = totF m := by
  show (runF _ _ _).sum = _
  rw [run_sum, run_sum, run_sum]
  simp [totF]
theorem cntJ_len (m : Mg) (j : Nat) : (cntJ m j).length ≤ totF m := by
  have h1 := (run_len [] m.l1 m.l1.length).1
  have h2 := (run_len (runF [] m.l1 m.l1.length) m.l2 m.l2.length).1
  have h3 := (run_len (runF (runF [] m.l1 m.l1.length) m.l2 m.l2.length) (othersF m.l3) (othersF m.l3).length).1
  simp only [List.length_nil] at h1
  unfold totF
  unfold cntJ
  split <;> simp <;> omega
/-- A message with its first so many records, and the saying one. -/
def firstM (m : Mg) (k : Nat) : Mg := ⟨{ m.h with tc := m.h.tc || decide (k < m.l1.length + m.l2.length) }, m.qs, m.l1.take k, m.l2.take (k - m.l1.length), besideF m.l3 (k - m.l1.length - m.l2.length)⟩
def fitsF (m : Mg) (size : Int) : Bool := match prun (pmsg m) (some ([], [])) with
  | some z => decide ((z.1.length : Int) ≤ size)
  | none => false
def fitN (m : Mg) (size : Int) : Nat → List Nat → Nat
  | n, [] => n
  | n, c :: cs => if fitsF (firstM m (n + c)) size then fitN m size (n + c) cs else n
def cutF (m : Mg) (size : Int) : Mg := if fitsF m size then m else firstM m (fitN m size 0 (setsF m))
def cutE (m : Mg) (size : Int) : Int := if chkM m = 0 then (if fitsF m size then 0 else if fitsF (firstM m 0) size then 0 else 3) else chkM m
theorem beside_mem {l : List Rec} {n : Nat} {r : Rec} (h : r ∈ besideF l n) : r ∈ l := (beside_sub l n).subset h
theorem ChkOk.first {m : Mg} (h : ChkOk m) (k : Nat) : ChkOk (firstM m k) := by
  refine ⟨h.hd, h.nq, ?_, h.qs, fun r hr => h.l1 r (List.mem_of_mem_take hr), fun r hr => h.l2 r (List.mem_of_mem_take hr), fun r hr => h.l3 r (beside_mem hr)⟩
  have h1 := h.nr
  have h2 := (beside_sub m.l3 (k - m.l1.length - m.l2.length)).length_le
  unfold tot at *
  simp only [firstM, List.length_take]
  omega
theorem Mb.first {m : Mg} (h : Mb m) (k : Nat) : Mb (firstM m k) := ⟨h.1, h.2.1, fun r hr => h.2.2.1 r (List.mem_of_mem_take hr), fun r hr => h.2.2.2.1 r (List.mem_of_mem_take hr), fun r hr => h.2.2.2.2 r (beside_mem hr)⟩
theorem fitN_spec (m : Mg) (size : Int) : ∀ (cs : List Nat) (n : Nat), ∃ j, j ≤ cs.length ∧ fitN m size n cs = n + (cs.take j).sum ∧ (∀ h : j < cs.length, fitsF (firstM m (n + (cs.take j).sum + cs[j])) size = false) ∧ (j = 0 ∨ fitsF (firstM m (n + (cs.take j).sum)) size = true)
  | [], n => ⟨0, Nat.le_refl _, by simp [fitN], fun h => by simp at h, .inl rfl⟩
  | c :: cs, n => by
    unfold fitN
    by_cases h : fitsF (firstM m (n + c)) size
    · rw [if_pos h]
      obtain ⟨j, j1, j2, j3, j4⟩ := fitN_spec m size cs (n + c)
      refine ⟨j + 1, by simp; exact j1, by rw [j2]; simp; omega, fun hj => ?_, .inr ?_⟩
      · have := j3 (by simpa using hj)
        simp only [List.take_succ_cons, List.sum_cons, List.getElem_cons_succ]
        rw [show n + (c + (cs.take j).sum) + cs[j]'(by simpa using hj) = n + c + (cs.take j).sum + cs[j]'(by simpa using hj) by omega]
        exact this
      · simp only [List.take_succ_cons, List.sum_cons]
        rw [show n + (c + (cs.take j).sum) = n + c + (cs.take j).sum by omega]
        rcases j4 with rfl | j4
        · simpa using h
        · exact j4
    · rw [if_neg h]
      refine ⟨0, Nat.zero_le _, by simp, fun hj => ?_, .inl rfl⟩
      simpa using h
theorem fits_mono {m : Mg} {a b : Int} (hab : a ≤ b) (h : fitsF m a = true) : fitsF m b = true := by
  unfold fitsF at *
  split at h
  · next z _ => simp at h ⊢; omega
  · cases h
theorem fitN_mono (m : Mg) {a b : Int} (hab : a ≤ b) : ∀ (cs : List Nat) (n : Nat), fitN m a n cs ≤ fitN m b n cs
  | [], n => Nat.le_refl _
  | c :: cs, n => by
    unfold fitN
    by_cases h : fitsF (firstM m (n + c)) a
    · rw [if_pos h, if_pos (fits_mono hab h)]
      exact fitN_mono m hab cs (n + c)
    · rw [if_neg h]
      split
      · obtain ⟨j, _, e, _⟩ := fitN_spec m b cs (n + c)
        omega
      · exact Nat.le_refl _
theorem take_sum_le : ∀ (cs : List Nat) (j : Nat), (cs.take j).sum ≤ cs.sum
  | [], j => by simp
  | c :: cs, 0 => by simp
  | c :: cs, j + 1 => by have := take_sum_le cs j; simp; omega
theorem fitN_le (m : Mg) (size : Int) : fitN m size 0 (setsF m) ≤ totF m := by
  obtain ⟨j, _, e, _⟩ := fitN_spec m size (setsF m) 0
  have := take_sum_le (setsF m) j
  have := sets_sum m
  omega
/-- Records but those of the type OPT. -/
def recN (m : Mg) : Nat := m.l1.length + m.l2.length + (flt m.l3).length
theorem recN_mono (m : Mg) {a b : Nat} (h : a ≤ b) : recN (firstM m a) ≤ recN (firstM m b) := by
  unfold recN firstM
  have := flt_sub (beside_mono m.l3 (a - m.l1.length - m.l2.length) (b - m.l1.length - m.l2.length) (by omega))
  simp only [List.length_take]
  omega
theorem recN_le (m : Mg) (a : Nat) : recN (firstM m a) ≤ recN m := by
  unfold recN firstM
  have := flt_sub (beside_sub m.l3 (a - m.l1.length - m.l2.length))
  simp only [List.length_take]
  omega
/-- FitGrows, without any program. -/
theorem cut_grows (m : Mg) {a b : Int} (hab : a ≤ b) (h : cutE m a = 0) : cutE m b = 0 ∧ recN (cutF m a) ≤ recN (cutF m b) ∧ ((cutF m b).h.tc = true → (cutF m a).h.tc = true ∨ m.h.tc = true) := by
  unfold cutE at *
  split at h
  · next hc =>
    rw [if_pos hc]
    by_cases h1 : fitsF m a
    · have h2 := fits_mono hab h1
      unfold cutF
      rw [if_pos h1, if_pos h2, if_pos h2]
      exact ⟨rfl, Nat.le_refl _, fun e => .inl e⟩
    · rw [if_neg h1] at h
      have h3 : fitsF (firstM m 0) a = true := by
        by_cases h3 : fitsF (firstM m 0) a
        · exact h3
        · rw [if_neg h3] at h; cases h
      by_cases h2 : fitsF m b
      · unfold cutF
        rw [if_neg h1, if_pos h2, if_pos h2]
        exact ⟨rfl, recN_le m _, fun e => .inr e⟩
      · rw [if_neg h2, if_pos (fits_mono hab h3)]
        unfold cutF
        rw [if_neg h1, if_neg h2]
        have hm := fitN_mono m hab (setsF m) 0
        refine ⟨rfl, recN_mono m hm, fun e => ?_⟩
        simp only [firstM, Bool.or_eq_true, decide_eq_true_eq] at e ⊢
        rcases e with e | e
        · exact .inr e
        · exact .inl (.inr (by omega))
  · next hc => exact absurd h hc
end Go.Proofs.YtkjnbgekaifdfaaGreat
namespace Go.Proofs.YtkjnbgekaifdfaaGreat
open Go.ChangeShapes Go.WideShapes Go.ChangeAt Go.RowKit
set_option linter.unusedVariables false
set_option linter.unusedSimpArgs false
def adrR (s : ByteArray) (z : Nat) : Rec := ⟨[s], 1, 1, 60, ⟨[], [], [], [(z : Int), (z : Int), (z : Int), (z : Int)]⟩⟩
def adrA (B : Nat) : RA := ⟨⟨some ⟨B + 1, 0, none⟩, 1, 1⟩, ⟨⟨none, 0, 0⟩, ⟨none, 0, 0⟩, ⟨none, 0, 0⟩, ⟨some ⟨B + 1 + 1, 0, none⟩, 4, 4⟩⟩⟩
def AdrB (W : World) (B : Nat) (s : ByteArray) (z : Nat) : Prop := W.heap[B + 1]? = some (.cells #[.string s] 9) ∧ W.heap[B + 1 + 1]? = some (.cells #[.int .u8 (z : Int), .int .u8 (z : Int), .int .u8 (z : Int), .int .u8 (z : Int)] 5)
theorem adr_rd {W : World} {B : Nat} {s : ByteArray} {z : Nat} (h : AdrB W B s z) (hs : s.size ≤ 100) (hz : z ≤ 255) : RRd W (adrA B) (adrR s z) := by
  refine ⟨txt_at h.1 (by omega), ?_⟩
  have h4 := raw_at (zs := [(z : Int), (z : Int), (z : Int), (z : Int)]) (n := 4) h.2 rfl (by intro y hy; simp at hy; omega) (by omega)
  exact ⟨⟨.inl rfl, rfl, ⟨Nat.le_refl _, Nat.zero_le _⟩, fun _ => rfl⟩, ⟨.inl rfl, rfl, ⟨Nat.le_refl _, Nat.zero_le _⟩, fun _ => rfl, fun x hx => (by cases hx)⟩, ⟨.inl rfl, rfl, ⟨Nat.le_refl _, Nat.zero_le _⟩, fun _ => rfl, fun x hx => (by cases hx)⟩, h4⟩
set_option maxRecDepth 100000 in
set_option maxHeartbeats 1000000 in
theorem address50 (s : ByteArray) (z : Nat) (w : World) : Calls Tryz.prog 50 #[.string s, .int .u8 (z : Int)] w fun e w' => e = .returned (.agg #[.slice (some ⟨w.heap.size + 1, 0, none⟩) 1 1, .int .u16 1, .int .u16 1, .int .u32 60, .slice none 0 0, .slice none 0 0, .slice none 0 0, .slice (some ⟨w.heap.size + 1 + 1, 0, none⟩) 4 4]) ∧ Hid (AdrB w' w.heap.size s z ∧ w'.heap.size = w.heap.size + 1 + 1 + 1 ∧ Below w.heap.size w w') := by
  go_enter Tryz.func50, Tryz.ntmps50
  go_wp2_with fail
  obtain ⟨h1, h2, h3, h4, h5⟩ := three_at w (.cells #[.slice (some ⟨w.heap.size + 1, 0, none⟩) 1 1, .int .u16 1, .int .u16 1, .int .u32 60, .slice none 0 0, .slice none 0 0, .slice none 0 0, .slice (some ⟨w.heap.size + 1 + 1, 0, none⟩) 4 4] 62) (.cells #[.string s] 9) (.cells #[.int .u8 (z : Int), .int .u8 (z : Int), .int .u8 (z : Int), .int .u8 (z : Int)] 5)
  generalize (((w.alloc (.cells #[.slice (some ⟨w.heap.size + 1, 0, none⟩) 1 1, .int .u16 1, .int .u16 1, .int .u32 60, .slice none 0 0, .slice none 0 0, .slice none 0 0, .slice (some ⟨w.heap.size + 1 + 1, 0, none⟩) 4 4] 62)).alloc (.cells #[.string s] 9)).alloc (.cells #[.int .u8 (z : Int), .int .u8 (z : Int), .int .u8 (z : Int), .int .u8 (z : Int)] 5)) = w9 at *
  have k0 := box_cell h2 0 _ rfl
  have k1 := box_cell h2 1 _ rfl
  have k2 := box_cell h2 2 _ rfl
  have k3 := box_cell h2 3 _ rfl
  have k4 := box_cell h2 4 _ rfl
  have k5 := box_cell h2 5 _ rfl
  have k6 := box_cell h2 6 _ rfl
  have k7 := box_cell h2 7 _ rfl
  refine bodyPost_ret (v := .agg #[.slice (some ⟨w.heap.size + 1, 0, none⟩) 1 1, .int .u16 1, .int .u16 1, .int .u32 60, .slice none 0 0, .slice none 0 0, .slice none 0 0, .slice (some ⟨w.heap.size + 1 + 1, 0, none⟩) 4 4]) ?_ rfl ⟨rfl, ⟨h3, h4⟩, h5, h1⟩
  simp [results, Tryz.results50, go_sem, k0, k1, k2, k3, k4, k5, k6, k7]
theorem rec2_at {w : World} {g : Nat} {x y : RA} {r s : Rec} (h : w.heap[g]? = some (.cells (recCells x r ++ recCells y s).toArray 62)) (hx : RRd w x r) (hy : RRd w y s) : LRd w ⟨some ⟨g, 0, none⟩, 2, 2⟩ [r, s] := by
  refine ⟨.inr ⟨g, 0, rfl, box_lt h, fun i hi => ?_⟩, rfl, ⟨Nat.le_refl _, by simp⟩, by simp⟩
  have : i = 0 ∨ i = 1 := by simp at hi; omega
  rcases this with rfl | rfl
  · refine ⟨x, fun j hj => ?_, hx⟩
    have hc : j = 0 ∨ j = 1 ∨ j = 2 ∨ j = 3 ∨ j = 4 ∨ j = 5 ∨ j = 6 ∨ j = 7 := by omega
    rcases hc with rfl | rfl | rfl | rfl | rfl | rfl | rfl | rfl <;> exact box_cell h _ _ rfl
  · refine ⟨y, fun j hj => ?_, hy⟩
    have hc : j = 0 ∨ j = 1 ∨ j = 2 ∨ j = 3 ∨ j = 4 ∨ j = 5 ∨ j = 6 ∨ j = 7 := by omega
    rcases hc with rfl | rfl | rfl | rfl | rfl | rfl | rfl | rfl <;> exact box_cell h _ _ rfl
theorem names_at {w : World} {g : Nat} {s : Sl} {nm : List ByteArray} (h : w.heap[g]? = some (.cells #[.slice s.a s.n s.c] 51)) (hn : TRd w s nm) : NRd w ⟨some ⟨g, 0, none⟩, 1, 1⟩ [nm] := by
  refine ⟨.inr ⟨g, 0, rfl, box_lt h, fun i hi => ?_⟩, rfl, ⟨Nat.le_refl _, by simp⟩, by simp⟩
  have : i = 0 := by simp at hi; omega
  subst this
  exact ⟨s, box_cell h 0 _ rfl, hn⟩
def thrH : Hd := ⟨1, false, 0, false, false, false, false, false, false, 0⟩
def bNm : ByteArray := { data := #[98] }
def cNm : ByteArray := { data := #[99] }
def dNm : ByteArray := { data := #[100] }
def thrM : Mg := ⟨thrH, [⟨[aNm], 1, 1⟩], [adrR aNm 1, adrR aNm 2], [⟨[bNm], 2, 1, 60, ⟨[[cNm]], [], [], []⟩⟩], [adrR dNm 3]⟩
set_option maxRecDepth 100000 in
set_option maxHeartbeats 2000000 in
theorem three26 (w : World) : Calls Tryz.prog 26 #[] w fun e w' => ∃ x : MA, e = .returned (.agg #[.int .u16 thrH.id, .bool thrH.rs, .int .i64 thrH.op, .bool thrH.aa, .bool thrH.tc, .bool thrH.rd, .bool thrH.ra, .bool thrH.ad, .bool thrH.cd, .int .i64 thrH.rc, .slice x.q.a x.q.n x.q.c, .slice x.l1.a x.l1.n x.l1.c, .slice x.l2.a x.l2.n x.l2.c, .slice x.l3.a x.l3.n x.l3.c]) ∧ Hid (MRd w' thrH x thrM ∧ Below w.heap.size w w') := by
  have K := fun s z W => Lib.hid (address50 s z W)
  go_enter Tryz.func26, Tryz.ntmps26
  go_wp2_with fail
  obtain ⟨h1, h2, h3, h4, h5, h6⟩ := four_at w (.cells #[.int .u16 0, .bool false, .int .i64 0, .bool false, .bool false, .bool false, .bool false, .bool false, .bool false, .int .i64 0, .slice none 0 0, .slice none 0 0, .slice none 0 0, .slice none 0 0] 26) (.cells #[.string { data := #[97] }] 9) (.cells #[.slice (some ⟨w.heap.size + 1, 0, none⟩) 1 1, .int .u16 1, .int .u16 1] 55) (.cells #[.int .u16 1, .bool false, .int .i64 0, .bool false, .bool false, .bool false, .bool false, .bool false, .bool false, .int .i64 0, .slice (some ⟨w.heap.size + 1 + 1, 0, none⟩) 1 1, .slice none 0 0, .slice none 0 0, .slice none 0 0] 26)
  refine (K aNm 1 _).out.mono ?_
  rintro e w1 ⟨rfl, H1⟩
  generalize ((((w.alloc (.cells #[.int .u16 0, .bool false, .int .i64 0, .bool false, .bool false, .bool false, .bool false, .bool false, .bool false, .int .i64 0, .slice none 0 0, .slice none 0 0, .slice none 0 0, .slice none 0 0] 26)).alloc (.cells #[.string { data := #[97] }] 9)).alloc (.cells #[.slice (some ⟨w.heap.size + 1, 0, none⟩) 1 1, .int .u16 1, .int .u16 1] 55)).alloc (.cells #[.int .u16 1, .bool false, .int .i64 0, .bool false, .bool false, .bool false, .bool false, .bool false, .bool false, .int .i64 0, .slice (some ⟨w.heap.size + 1 + 1, 0, none⟩) 1 1, .slice none 0 0, .slice none 0 0, .slice none 0 0] 26)) = W0 at *
  obtain ⟨b, hbb⟩ : ∃ b, b = w.heap.size := ⟨_, rfl⟩
  have HBW := Lib.hid hbb
  simp only [← hbb] at h2 h3 h4 h5 h6 H1 ⊢
  rw [h6] at H1 ⊢
  obtain ⟨a1, ha1⟩ : ∃ a1, a1 = b + 1 + 1 + 1 + 1 := ⟨_, rfl⟩
  rw [← ha1] at H1 h6 ⊢
  have z_0 : Hid (W0.heap[b]? = some (.cells #[.int .u16 0, .bool false, .int .i64 0, .bool false, .bool false, .bool false, .bool false, .bool false, .bool false, .int .i64 0, .slice none 0 0, .slice none 0 0, .slice none 0 0, .slice none 0 0] 26)) := h2
  have t_0 : Hid (W0.heap[b + 1]? = some (.cells #[.string aNm] 9)) := h3
  have q_0 : Hid (W0.heap[b + 1 + 1]? = some (.cells #[.slice (some ⟨b + 1, 0, none⟩) 1 1, .int .u16 1, .int .u16 1] 55)) := h4
  have m_0 : Hid (W0.heap[b + 1 + 1 + 1]? = some (.cells #[.int .u16 1, .bool false, .int .i64 0, .bool false, .bool false, .bool false, .bool false, .bool false, .bool false, .int .i64 0, .slice (some ⟨b + 1 + 1, 0, none⟩) 1 1, .slice none 0 0, .slice none 0 0, .slice none 0 0] 26)) := h5
  have hBl1 : Below W0.heap.size W0 w1 := by rw [h6]; exact H1.out.2.2
  have z_1 : Hid (w1.heap[b]? = some (.cells #[.int .u16 0, .bool false, .int .i64 0, .bool false, .bool false, .bool false, .bool false, .bool false, .bool false, .int .i64 0, .slice none 0 0, .slice none 0 0, .slice none 0 0, .slice none 0 0] 26)) := (hBl1.block _ (box_lt z_0.out)).trans z_0.out
  have t_1 : Hid (w1.heap[b + 1]? = some (.cells #[.string aNm] 9)) := (hBl1.block _ (box_lt t_0.out)).trans t_0.out
  have q_1 : Hid (w1.heap[b + 1 + 1]? = some (.cells #[.slice (some ⟨b + 1, 0, none⟩) 1 1, .int .u16 1, .int .u16 1] 55)) := (hBl1.block _ (box_lt q_0.out)).trans q_0.out
  have m_1 : Hid (w1.heap[b + 1 + 1 + 1]? = some (.cells #[.int .u16 1, .bool false, .int .i64 0, .bool false, .bool false, .bool false, .bool false, .bool false, .bool false, .int .i64 0, .slice (some ⟨b + 1 + 1, 0, none⟩) 1 1, .slice none 0 0, .slice none 0 0, .slice none 0 0] 26)) := (hBl1.block _ (box_lt m_0.out)).trans m_0.out
  have A1_1 : Hid (AdrB w1 a1 aNm 1) := H1.out.1
  have HB1 : Hid (Below w.heap.size w w1) := h1.trans (hBl1.mono h1.size)
  obtain ⟨a2, ha2⟩ : ∃ a2, a2 = w1.heap.size := ⟨_, rfl⟩
  have HE : Hid (a1 = b + 1 + 1 + 1 + 1 ∧ a2 = a1 + 1 + 1 + 1) := ⟨ha1, by rw [ha2]; exact H1.out.2.1⟩
  clear h1 h2 h3 h4 h5 h6 H1 ha1 hbb
  go_wp2_with fail
  refine (K aNm 2 _).out.mono ?_
  rintro e w2 ⟨rfl, H2⟩
  rw [← ha2] at H2 ⊢
  have hBl2 : Below w1.heap.size w1 w2 := by rw [← ha2]; exact H2.out.2.2
  have z_2 : Hid (w2.heap[b]? = some (.cells #[.int .u16 0, .bool false, .int .i64 0, .bool false, .bool false, .bool false, .bool false, .bool false, .bool false, .int .i64 0, .slice none 0 0, .slice none 0 0, .slice none 0 0, .slice none 0 0] 26)) := (hBl2.block _ (box_lt z_1.out)).trans z_1.out
  have t_2 : Hid (w2.heap[b + 1]? = some (.cells #[.string aNm] 9)) := (hBl2.block _ (box_lt t_1.out)).trans t_1.out
  have q_2 : Hid (w2.heap[b + 1 + 1]? = some (.cells #[.slice (some ⟨b + 1, 0, none⟩) 1 1, .int .u16 1, .int .u16 1] 55)) := (hBl2.block _ (box_lt q_1.out)).trans q_1.out
  have m_2 : Hid (w2.heap[b + 1 + 1 + 1]? = some (.cells #[.int .u16 1, .bool false, .int .i64 0, .bool false, .bool false, .bool false, .bool false, .bool false, .bool false, .int .i64 0, .slice (some ⟨b + 1 + 1, 0, none⟩) 1 1, .slice none 0 0, .slice none 0 0, .slice none 0 0] 26)) := (hBl2.block _ (box_lt m_1.out)).trans m_1.out
  have A1_2 : Hid (AdrB w2 a1 aNm 1) := ⟨(hBl2.block _ (box_lt A1_1.out.1)).trans A1_1.out.1, (hBl2.block _ (box_lt A1_1.out.2)).trans A1_1.out.2⟩
  have A2_2 : Hid (AdrB w2 a2 aNm 2) := H2.out.1
  have HB2 : Hid (Below w.heap.size w w2) := HB1.out.trans (hBl2.mono HB1.out.size)
  obtain ⟨a3, ha3⟩ : ∃ a3, a3 = w2.heap.size := ⟨_, rfl⟩
  have HE2 : Hid (a3 = a2 + 1 + 1 + 1) := by show _ = _; rw [ha3]; exact H2.out.2.1
  clear H2 ha2
  have e11 := box_cell m_2.out 11 _ rfl
  have f11 := box_frozen m_2.out 11
  have l2 := box_lt m_2.out
  go_upto_region 3 with fail
  rw [← ha3]
  have hsV : (w2.setCell ⟨b + 1 + 1 + 1, 11, none⟩ (.slice (some ⟨a3, 0, none⟩) 2 2)).heap.size = a3 := by rw [ha3]; simp [World.setCell]
  have hbV : Below w.heap.size w (w2.setCell ⟨b + 1 + 1 + 1, 11, none⟩ (.slice (some ⟨a3, 0, none⟩) 2 2)) := HB2.out.setCell (p := ⟨b + 1 + 1 + 1, 11, none⟩) (by have := HBW.out; simp only; omega) _
  have z_3 : Hid ((w2.setCell ⟨b + 1 + 1 + 1, 11, none⟩ (.slice (some ⟨a3, 0, none⟩) 2 2)).heap[b]? = some (.cells #[.int .u16 0, .bool false, .int .i64 0, .bool false, .bool false, .bool false, .bool false, .bool false, .bool false, .int .i64 0, .slice none 0 0, .slice none 0 0, .slice none 0 0, .slice none 0 0] 26)) := (Below.heap_setCell _ _ _ _ (by have := HE.out; simp only; omega)).trans z_2.out
  have t_3 : Hid ((w2.setCell ⟨b + 1 + 1 + 1, 11, none⟩ (.slice (some ⟨a3, 0, none⟩) 2 2)).heap[b + 1]? = some (.cells #[.string aNm] 9)) := (Below.heap_setCell _ _ _ _ (by have := HE.out; simp only; omega)).trans t_2.out
  have q_3 : Hid ((w2.setCell ⟨b + 1 + 1 + 1, 11, none⟩ (.slice (some ⟨a3, 0, none⟩) 2 2)).heap[b + 1 + 1]? = some (.cells #[.slice (some ⟨b + 1, 0, none⟩) 1 1, .int .u16 1, .int .u16 1] 55)) := (Below.heap_setCell _ _ _ _ (by have := HE.out; simp only; omega)).trans q_2.out
  have m_3 : Hid ((w2.setCell ⟨b + 1 + 1 + 1, 11, none⟩ (.slice (some ⟨a3, 0, none⟩) 2 2)).heap[b + 1 + 1 + 1]? = some (.cells #[.int .u16 1, .bool false, .int .i64 0, .bool false, .bool false, .bool false, .bool false, .bool false, .bool false, .int .i64 0, .slice (some ⟨b + 1 + 1, 0, none⟩) 1 1, .slice (some ⟨a3, 0, none⟩) 2 2, .slice none 0 0, .slice none 0 0] 26)) := heap_set m_2.out 11 _
  have A1_3 : Hid (AdrB (w2.setCell ⟨b + 1 + 1 + 1, 11, none⟩ (.slice (some ⟨a3, 0, none⟩) 2 2)) a1 aNm 1) := ⟨(Below.heap_setCell _ _ _ _ (by have := HE.out; simp only; omega)).trans A1_2.out.1, (Below.heap_setCell _ _ _ _ (by have := HE.out; simp only; omega)).trans A1_2.out.2⟩
  have A2_3 : Hid (AdrB (w2.setCell ⟨b + 1 + 1 + 1, 11, none⟩ (.slice (some ⟨a3, 0, none⟩) 2 2)) a2 aNm 2) := ⟨(Below.heap_setCell _ _ _ _ (by have := HE.out; simp only; omega)).trans A2_2.out.1, (Below.heap_setCell _ _ _ _ (by have := HE.out; simp only; omega)).trans A2_2.out.2⟩
  clear e11 f11 l2 ha3
  generalize w2.setCell ⟨b + 1 + 1 + 1, 11, none⟩ (.slice (some ⟨a3, 0, none⟩) 2 2) = V at *
  have hb3 := newF_below V (.cells #[.slice (some ⟨a1 + 1, 0, none⟩) 1 1, .int .u16 1, .int .u16 1, .int .u32 60, .slice none 0 0, .slice none 0 0, .slice none 0 0, .slice (some ⟨a1 + 1 + 1, 0, none⟩) 4 4, .slice (some ⟨a2 + 1, 0, none⟩) 1 1, .int .u16 1, .int .u16 1, .int .u32 60, .slice none 0 0, .slice none 0 0, .slice none 0 0, .slice (some ⟨a2 + 1 + 1, 0, none⟩) 4 4] 62)
  have L1_4 : Hid ((V.alloc (.cells #[.slice (some ⟨a1 + 1, 0, none⟩) 1 1, .int .u16 1, .int .u16 1, .int .u32 60, .slice none 0 0, .slice none 0 0, .slice none 0 0, .slice (some ⟨a1 + 1 + 1, 0, none⟩) 4 4, .slice (some ⟨a2 + 1, 0, none⟩) 1 1, .int .u16 1, .int .u16 1, .int .u32 60, .slice none 0 0, .slice none 0 0, .slice none 0 0, .slice (some ⟨a2 + 1 + 1, 0, none⟩) 4 4] 62)).heap[a3]? = some (.cells #[.slice (some ⟨a1 + 1, 0, none⟩) 1 1, .int .u16 1, .int .u16 1, .int .u32 60, .slice none 0 0, .slice none 0 0, .slice none 0 0, .slice (some ⟨a1 + 1 + 1, 0, none⟩) 4 4, .slice (some ⟨a2 + 1, 0, none⟩) 1 1, .int .u16 1, .int .u16 1, .int .u32 60, .slice none 0 0, .slice none 0 0, .slice none 0 0, .slice (some ⟨a2 + 1 + 1, 0, none⟩) 4 4] 62)) := by show _ = _; rw [← hsV]; exact heap_alloc_new V _
  have z_4 : Hid ((V.alloc (.cells #[.slice (some ⟨a1 + 1, 0, none⟩) 1 1, .int .u16 1, .int .u16 1, .int .u32 60, .slice none 0 0, .slice none 0 0, .slice none 0 0, .slice (some ⟨a1 + 1 + 1, 0, none⟩) 4 4, .slice (some ⟨a2 + 1, 0, none⟩) 1 1, .int .u16 1, .int .u16 1, .int .u32 60, .slice none 0 0, .slice none 0 0, .slice none 0 0, .slice (some ⟨a2 + 1 + 1, 0, none⟩) 4 4] 62)).heap[b]? = some (.cells #[.int .u16 0, .bool false, .int .i64 0, .bool false, .bool false, .bool false, .bool false, .bool false, .bool false, .int .i64 0, .slice none 0 0, .slice none 0 0, .slice none 0 0, .slice none 0 0] 26)) := (hb3.block _ (box_lt z_3.out)).trans z_3.out
  have t_4 : Hid ((V.alloc (.cells #[.slice (some ⟨a1 + 1, 0, none⟩) 1 1, .int .u16 1, .int .u16 1, .int .u32 60, .slice none 0 0, .slice none 0 0, .slice none 0 0, .slice (some ⟨a1 + 1 + 1, 0, none⟩) 4 4, .slice (some ⟨a2 + 1, 0, none⟩) 1 1, .int .u16 1, .int .u16 1, .int .u32 60, .slice none 0 0, .slice none 0 0, .slice none 0 0, .slice (some ⟨a2 + 1 + 1, 0, none⟩) 4 4] 62)).heap[b + 1]? = some (.cells #[.string aNm] 9)) := (hb3.block _ (box_lt t_3.out)).trans t_3.out
  have q_4 : Hid ((V.alloc (.cells #[.slice (some ⟨a1 + 1, 0, none⟩) 1 1, .int .u16 1, .int .u16 1, .int .u32 60, .slice none 0 0, .slice none 0 0, .slice none 0 0, .slice (some ⟨a1 + 1 + 1, 0, none⟩) 4 4, .slice (some ⟨a2 + 1, 0, none⟩) 1 1, .int .u16 1, .int .u16 1, .int .u32 60, .slice none 0 0, .slice none 0 0, .slice none 0 0, .slice (some ⟨a2 + 1 + 1, 0, none⟩) 4 4] 62)).heap[b + 1 + 1]? = some (.cells #[.slice (some ⟨b + 1, 0, none⟩) 1 1, .int .u16 1, .int .u16 1] 55)) := (hb3.block _ (box_lt q_3.out)).trans q_3.out
  have m_4 : Hid ((V.alloc (.cells #[.slice (some ⟨a1 + 1, 0, none⟩) 1 1, .int .u16 1, .int .u16 1, .int .u32 60, .slice none 0 0, .slice none 0 0, .slice none 0 0, .slice (some ⟨a1 + 1 + 1, 0, none⟩) 4 4, .slice (some ⟨a2 + 1, 0, none⟩) 1 1, .int .u16 1, .int .u16 1, .int .u32 60, .slice none 0 0, .slice none 0 0, .slice none 0 0, .slice (some ⟨a2 + 1 + 1, 0, none⟩) 4 4] 62)).heap[b + 1 + 1 + 1]? = some (.cells #[.int .u16 1, .bool false, .int .i64 0, .bool false, .bool false, .bool false, .bool false, .bool false, .bool false, .int .i64 0, .slice (some ⟨b + 1 + 1, 0, none⟩) 1 1, .slice (some ⟨a3, 0, none⟩) 2 2, .slice none 0 0, .slice none 0 0] 26)) := (hb3.block _ (box_lt m_3.out)).trans m_3.out
  have A1_4 : Hid (AdrB (V.alloc (.cells #[.slice (some ⟨a1 + 1, 0, none⟩) 1 1, .int .u16 1, .int .u16 1, .int .u32 60, .slice none 0 0, .slice none 0 0, .slice none 0 0, .slice (some ⟨a1 + 1 + 1, 0, none⟩) 4 4, .slice (some ⟨a2 + 1, 0, none⟩) 1 1, .int .u16 1, .int .u16 1, .int .u32 60, .slice none 0 0, .slice none 0 0, .slice none 0 0, .slice (some ⟨a2 + 1 + 1, 0, none⟩) 4 4] 62)) a1 aNm 1) := ⟨(hb3.block _ (box_lt A1_3.out.1)).trans A1_3.out.1, (hb3.block _ (box_lt A1_3.out.2)).trans A1_3.out.2⟩
  have A2_4 : Hid (AdrB (V.alloc (.cells #[.slice (some ⟨a1 + 1, 0, none⟩) 1 1, .int .u16 1, .int .u16 1, .int .u32 60, .slice none 0 0, .slice none 0 0, .slice none 0 0, .slice (some ⟨a1 + 1 + 1, 0, none⟩) 4 4, .slice (some ⟨a2 + 1, 0, none⟩) 1 1, .int .u16 1, .int .u16 1, .int .u32 60, .slice none 0 0, .slice none 0 0, .slice none 0 0, .slice (some ⟨a2 + 1 + 1, 0, none⟩) 4 4] 62)) a2 aNm 2) := ⟨(hb3.block _ (box_lt A2_3.out.1)).trans A2_3.out.1, (hb3.block _ (box_lt A2_3.out.2)).trans A2_3.out.2⟩
  have HB3 : Hid (Below w.heap.size w (V.alloc (.cells #[.slice (some ⟨a1 + 1, 0, none⟩) 1 1, .int .u16 1, .int .u16 1, .int .u32 60, .slice none 0 0, .slice none 0 0, .slice none 0 0, .slice (some ⟨a1 + 1 + 1, 0, none⟩) 4 4, .slice (some ⟨a2 + 1, 0, none⟩) 1 1, .int .u16 1, .int .u16 1, .int .u32 60, .slice none 0 0, .slice none 0 0, .slice none 0 0, .slice (some ⟨a2 + 1 + 1, 0, none⟩) 4 4] 62))) := hbV.trans (hb3.mono hbV.size)
  have hs3 : (V.alloc (.cells #[.slice (some ⟨a1 + 1, 0, none⟩) 1 1, .int .u16 1, .int .u16 1, .int .u32 60, .slice none 0 0, .slice none 0 0, .slice none 0 0, .slice (some ⟨a1 + 1 + 1, 0, none⟩) 4 4, .slice (some ⟨a2 + 1, 0, none⟩) 1 1, .int .u16 1, .int .u16 1, .int .u32 60, .slice none 0 0, .slice none 0 0, .slice none 0 0, .slice (some ⟨a2 + 1 + 1, 0, none⟩) 4 4] 62)).heap.size = a3 + 1 := by rw [World.size_alloc, hsV]
  clear hb3 hsV hbV
  generalize V.alloc (.cells #[.slice (some ⟨a1 + 1, 0, none⟩) 1 1, .int .u16 1, .int .u16 1, .int .u32 60, .slice none 0 0, .slice none 0 0, .slice none 0 0, .slice (some ⟨a1 + 1 + 1, 0, none⟩) 4 4, .slice (some ⟨a2 + 1, 0, none⟩) 1 1, .int .u16 1, .int .u16 1, .int .u32 60, .slice none 0 0, .slice none 0 0, .slice none 0 0, .slice (some ⟨a2 + 1 + 1, 0, none⟩) 4 4] 62) = w3 at *
  have e12 := box_cell m_4.out 12 _ rfl
  have f12 := box_frozen m_4.out 12
  have l3 := box_lt m_4.out
  have q0 : b + 1 + 1 + 1 < a3 + 1 := by have := HE.out; have := HE2.out; omega
  have q1 : b + 1 + 1 + 1 < a3 + 1 + 1 := by omega
  have q2 : b + 1 + 1 + 1 < a3 + 1 + 1 + 1 := by omega
  have q3 : b + 1 + 1 + 1 < a3 + 1 + 1 + 1 + 1 := by omega
  have q4 : b + 1 + 1 + 1 < a3 + 1 + 1 + 1 + 1 + 1 := by omega
  go_upto_region 4 with fail
  have hsV : (w3.setCell ⟨b + 1 + 1 + 1, 12, none⟩ (.slice (some ⟨a3 + 1 + 1 + 1 + 1, 0, none⟩) 1 1)).heap.size = a3 + 1 := by rw [← hs3]; simp [World.setCell]
  have hbV : Below w.heap.size w (w3.setCell ⟨b + 1 + 1 + 1, 12, none⟩ (.slice (some ⟨a3 + 1 + 1 + 1 + 1, 0, none⟩) 1 1)) := HB3.out.setCell (p := ⟨b + 1 + 1 + 1, 12, none⟩) (by have := HBW.out; simp only; omega) _
  have z_5 : Hid ((w3.setCell ⟨b + 1 + 1 + 1, 12, none⟩ (.slice (some ⟨a3 + 1 + 1 + 1 + 1, 0, none⟩) 1 1)).heap[b]? = some (.cells #[.int .u16 0, .bool false, .int .i64 0, .bool false, .bool false, .bool false, .bool false, .bool false, .bool false, .int .i64 0, .slice none 0 0, .slice none 0 0, .slice none 0 0, .slice none 0 0] 26)) := (Below.heap_setCell _ _ _ _ (by have := HE.out; have := HE2.out; simp only; omega)).trans z_4.out
  have t_5 : Hid ((w3.setCell ⟨b + 1 + 1 + 1, 12, none⟩ (.slice (some ⟨a3 + 1 + 1 + 1 + 1, 0, none⟩) 1 1)).heap[b + 1]? = some (.cells #[.string aNm] 9)) := (Below.heap_setCell _ _ _ _ (by have := HE.out; have := HE2.out; simp only; omega)).trans t_4.out
  have q_5 : Hid ((w3.setCell ⟨b + 1 + 1 + 1, 12, none⟩ (.slice (some ⟨a3 + 1 + 1 + 1 + 1, 0, none⟩) 1 1)).heap[b + 1 + 1]? = some (.cells #[.slice (some ⟨b + 1, 0, none⟩) 1 1, .int .u16 1, .int .u16 1] 55)) := (Below.heap_setCell _ _ _ _ (by have := HE.out; have := HE2.out; simp only; omega)).trans q_4.out
  have m_5 : Hid ((w3.setCell ⟨b + 1 + 1 + 1, 12, none⟩ (.slice (some ⟨a3 + 1 + 1 + 1 + 1, 0, none⟩) 1 1)).heap[b + 1 + 1 + 1]? = some (.cells #[.int .u16 1, .bool false, .int .i64 0, .bool false, .bool false, .bool false, .bool false, .bool false, .bool false, .int .i64 0, .slice (some ⟨b + 1 + 1, 0, none⟩) 1 1, .slice (some ⟨a3, 0, none⟩) 2 2, .slice (some ⟨a3 + 1 + 1 + 1 + 1, 0, none⟩) 1 1, .slice none 0 0] 26)) := heap_set m_4.out 12 _
  have A1_5 : Hid (AdrB (w3.setCell ⟨b + 1 + 1 + 1, 12, none⟩ (.slice (some ⟨a3 + 1 + 1 + 1 + 1, 0, none⟩) 1 1)) a1 aNm 1) := ⟨(Below.heap_setCell _ _ _ _ (by have := HE.out; have := HE2.out; simp only; omega)).trans A1_4.out.1, (Below.heap_setCell _ _ _ _ (by have := HE.out; have := HE2.out; simp only; omega)).trans A1_4.out.2⟩
  have A2_5 : Hid (AdrB (w3.setCell ⟨b + 1 + 1 + 1, 12, none⟩ (.slice (some ⟨a3 + 1 + 1 + 1 + 1, 0, none⟩) 1 1)) a2 aNm 2) := ⟨(Below.heap_setCell _ _ _ _ (by have := HE.out; have := HE2.out; simp only; omega)).trans A2_4.out.1, (Below.heap_setCell _ _ _ _ (by have := HE.out; have := HE2.out; simp only; omega)).trans A2_4.out.2⟩
  have L1_5 : Hid ((w3.setCell ⟨b + 1 + 1 + 1, 12, none⟩ (.slice (some ⟨a3 + 1 + 1 + 1 + 1, 0, none⟩) 1 1)).heap[a3]? = some (.cells #[.slice (some ⟨a1 + 1, 0, none⟩) 1 1, .int .u16 1, .int .u16 1, .int .u32 60, .slice none 0 0, .slice none 0 0, .slice none 0 0, .slice (some ⟨a1 + 1 + 1, 0, none⟩) 4 4, .slice (some ⟨a2 + 1, 0, none⟩) 1 1, .int .u16 1, .int .u16 1, .int .u32 60, .slice none 0 0, .slice none 0 0, .slice none 0 0, .slice (some ⟨a2 + 1 + 1, 0, none⟩) 4 4] 62)) := (Below.heap_setCell _ _ _ _ (by have := HE.out; have := HE2.out; simp only; omega)).trans L1_4.out
  clear e12 f12 l3 q0 q1 q2 q3 q4 HB3
  generalize w3.setCell ⟨b + 1 + 1 + 1, 12, none⟩ (.slice (some ⟨a3 + 1 + 1 + 1 + 1, 0, none⟩) 1 1) = V at *
  obtain ⟨g1, g2, g3, g4, g5, g6⟩ := four_at V (.cells #[.string { data := #[98] }] 9) (.cells #[.string { data := #[99] }] 9) (.cells #[.slice (some ⟨a3 + 1 + 1, 0, none⟩) 1 1] 51) (.cells #[.slice (some ⟨a3 + 1, 0, none⟩) 1 1, .int .u16 2, .int .u16 1, .int .u32 60, .slice (some ⟨a3 + 1 + 1 + 1, 0, none⟩) 1 1, .slice none 0 0, .slice none 0 0, .slice none 0 0] 62)
  rw [hsV] at g2 g3 g4 g5 g6
  generalize ((((V.alloc (.cells #[.string { data := #[98] }] 9)).alloc (.cells #[.string { data := #[99] }] 9)).alloc (.cells #[.slice (some ⟨a3 + 1 + 1, 0, none⟩) 1 1] 51)).alloc (.cells #[.slice (some ⟨a3 + 1, 0, none⟩) 1 1, .int .u16 2, .int .u16 1, .int .u32 60, .slice (some ⟨a3 + 1 + 1 + 1, 0, none⟩) 1 1, .slice none 0 0, .slice none 0 0, .slice none 0 0] 62)) = w4 at *
  have z_6 : Hid (w4.heap[b]? = some (.cells #[.int .u16 0, .bool false, .int .i64 0, .bool false, .bool false, .bool false, .bool false, .bool false, .bool false, .int .i64 0, .slice none 0 0, .slice none 0 0, .slice none 0 0, .slice none 0 0] 26)) := (g1.block _ (box_lt z_5.out)).trans z_5.out
  have t_6 : Hid (w4.heap[b + 1]? = some (.cells #[.string aNm] 9)) := (g1.block _ (box_lt t_5.out)).trans t_5.out
  have q_6 : Hid (w4.heap[b + 1 + 1]? = some (.cells #[.slice (some ⟨b + 1, 0, none⟩) 1 1, .int .u16 1, .int .u16 1] 55)) := (g1.block _ (box_lt q_5.out)).trans q_5.out
  have m_6 : Hid (w4.heap[b + 1 + 1 + 1]? = some (.cells #[.int .u16 1, .bool false, .int .i64 0, .bool false, .bool false, .bool false, .bool false, .bool false, .bool false, .int .i64 0, .slice (some ⟨b + 1 + 1, 0, none⟩) 1 1, .slice (some ⟨a3, 0, none⟩) 2 2, .slice (some ⟨a3 + 1 + 1 + 1 + 1, 0, none⟩) 1 1, .slice none 0 0] 26)) := (g1.block _ (box_lt m_5.out)).trans m_5.out
  have A1_6 : Hid (AdrB w4 a1 aNm 1) := ⟨(g1.block _ (box_lt A1_5.out.1)).trans A1_5.out.1, (g1.block _ (box_lt A1_5.out.2)).trans A1_5.out.2⟩
  have A2_6 : Hid (AdrB w4 a2 aNm 2) := ⟨(g1.block _ (box_lt A2_5.out.1)).trans A2_5.out.1, (g1.block _ (box_lt A2_5.out.2)).trans A2_5.out.2⟩
  have L1_6 : Hid (w4.heap[a3]? = some (.cells #[.slice (some ⟨a1 + 1, 0, none⟩) 1 1, .int .u16 1, .int .u16 1, .int .u32 60, .slice none 0 0, .slice none 0 0, .slice none 0 0, .slice (some ⟨a1 + 1 + 1, 0, none⟩) 4 4, .slice (some ⟨a2 + 1, 0, none⟩) 1 1, .int .u16 1, .int .u16 1, .int .u32 60, .slice none 0 0, .slice none 0 0, .slice none 0 0, .slice (some ⟨a2 + 1 + 1, 0, none⟩) 4 4] 62)) := (g1.block _ (box_lt L1_5.out)).trans L1_5.out
  have tb_6 : Hid (w4.heap[a3 + 1]? = some (.cells #[.string bNm] 9)) := g2
  have tc_6 : Hid (w4.heap[a3 + 1 + 1]? = some (.cells #[.string cNm] 9)) := g3
  have nn_6 : Hid (w4.heap[a3 + 1 + 1 + 1]? = some (.cells #[.slice (some ⟨a3 + 1 + 1, 0, none⟩) 1 1] 51)) := g4
  have L2_6 : Hid (w4.heap[a3 + 1 + 1 + 1 + 1]? = some (.cells #[.slice (some ⟨a3 + 1, 0, none⟩) 1 1, .int .u16 2, .int .u16 1, .int .u32 60, .slice (some ⟨a3 + 1 + 1 + 1, 0, none⟩) 1 1, .slice none 0 0, .slice none 0 0, .slice none 0 0] 62)) := g5
  have HB4 : Hid (Below w.heap.size w w4) := hbV.trans (g1.mono hbV.size)
  obtain ⟨a4, ha4⟩ : ∃ a4, a4 = w4.heap.size := ⟨_, rfl⟩
  have HE4 : Hid (a4 = a3 + 1 + 1 + 1 + 1 + 1) := by show _ = _; rw [ha4]; exact g6
  clear g1 g2 g3 g4 g5 g6 hsV hbV hs3
  go_wp2_with fail
  refine (K dNm 3 _).out.mono ?_
  rintro e w5 ⟨rfl, H5⟩
  have hBl5 : Below w4.heap.size w4 w5 := H5.out.2.2
  rw [← ha4] at H5 ⊢
  have z_7 : Hid (w5.heap[b]? = some (.cells #[.int .u16 0, .bool false, .int .i64 0, .bool false, .bool false, .bool false, .bool false, .bool false, .bool false, .int .i64 0, .slice none 0 0, .slice none 0 0, .slice none 0 0, .slice none 0 0] 26)) := (hBl5.block _ (box_lt z_6.out)).trans z_6.out
  have t_7 : Hid (w5.heap[b + 1]? = some (.cells #[.string aNm] 9)) := (hBl5.block _ (box_lt t_6.out)).trans t_6.out
  have q_7 : Hid (w5.heap[b + 1 + 1]? = some (.cells #[.slice (some ⟨b + 1, 0, none⟩) 1 1, .int .u16 1, .int .u16 1] 55)) := (hBl5.block _ (box_lt q_6.out)).trans q_6.out
  have m_7 : Hid (w5.heap[b + 1 + 1 + 1]? = some (.cells #[.int .u16 1, .bool false, .int .i64 0, .bool false, .bool false, .bool false, .bool false, .bool false, .bool false, .int .i64 0, .slice (some ⟨b + 1 + 1, 0, none⟩) 1 1, .slice (some ⟨a3, 0, none⟩) 2 2, .slice (some ⟨a3 + 1 + 1 + 1 + 1, 0, none⟩) 1 1, .slice none 0 0] 26)) := (hBl5.block _ (box_lt m_6.out)).trans m_6.out
  have A1_7 : Hid (AdrB w5 a1 aNm 1) := ⟨(hBl5.block _ (box_lt A1_6.out.1)).trans A1_6.out.1, (hBl5.block _ (box_lt A1_6.out.2)).trans A1_6.out.2⟩
  have A2_7 : Hid (AdrB w5 a2 aNm 2) := ⟨(hBl5.block _ (box_lt A2_6.out.1)).trans A2_6.out.1, (hBl5.block _ (box_lt A2_6.out.2)).trans A2_6.out.2⟩
  have L1_7 : Hid (w5.heap[a3]? = some (.cells #[.slice (some ⟨a1 + 1, 0, none⟩) 1 1, .int .u16 1, .int .u16 1, .int .u32 60, .slice none 0 0, .slice none 0 0, .slice none 0 0, .slice (some ⟨a1 + 1 + 1, 0, none⟩) 4 4, .slice (some ⟨a2 + 1, 0, none⟩) 1 1, .int .u16 1, .int .u16 1, .int .u32 60, .slice none 0 0, .slice none 0 0, .slice none 0 0, .slice (some ⟨a2 + 1 + 1, 0, none⟩) 4 4] 62)) := (hBl5.block _ (box_lt L1_6.out)).trans L1_6.out
  have tb_7 : Hid (w5.heap[a3 + 1]? = some (.cells #[.string bNm] 9)) := (hBl5.block _ (box_lt tb_6.out)).trans tb_6.out
  have tc_7 : Hid (w5.heap[a3 + 1 + 1]? = some (.cells #[.string cNm] 9)) := (hBl5.block _ (box_lt tc_6.out)).trans tc_6.out
  have nn_7 : Hid (w5.heap[a3 + 1 + 1 + 1]? = some (.cells #[.slice (some ⟨a3 + 1 + 1, 0, none⟩) 1 1] 51)) := (hBl5.block _ (box_lt nn_6.out)).trans nn_6.out
  have L2_7 : Hid (w5.heap[a3 + 1 + 1 + 1 + 1]? = some (.cells #[.slice (some ⟨a3 + 1, 0, none⟩) 1 1, .int .u16 2, .int .u16 1, .int .u32 60, .slice (some ⟨a3 + 1 + 1 + 1, 0, none⟩) 1 1, .slice none 0 0, .slice none 0 0, .slice none 0 0] 62)) := (hBl5.block _ (box_lt L2_6.out)).trans L2_6.out
  have A3_7 : Hid (AdrB w5 a4 dNm 3) := H5.out.1
  have HB5 : Hid (Below w.heap.size w w5) := HB4.out.trans (hBl5.mono HB4.out.size)
  obtain ⟨a5, ha5⟩ : ∃ a5, a5 = w5.heap.size := ⟨_, rfl⟩
  have HE5 : Hid (a5 = a4 + 1 + 1 + 1) := by show _ = _; rw [ha5]; exact H5.out.2.1
  clear H5 ha4 hBl5
  have e13 := box_cell m_7.out 13 _ rfl
  have f13 := box_frozen m_7.out 13
  have l5 := box_lt m_7.out
  go_upto_region 5 with fail
  rw [← ha5]
  have hsV : (w5.setCell ⟨b + 1 + 1 + 1, 13, none⟩ (.slice (some ⟨a5, 0, none⟩) 1 1)).heap.size = a5 := by rw [ha5]; simp [World.setCell]
  have hbV : Below w.heap.size w (w5.setCell ⟨b + 1 + 1 + 1, 13, none⟩ (.slice (some ⟨a5, 0, none⟩) 1 1)) := HB5.out.setCell (p := ⟨b + 1 + 1 + 1, 13, none⟩) (by have := HBW.out; simp only; omega) _
  have z_8 : Hid ((w5.setCell ⟨b + 1 + 1 + 1, 13, none⟩ (.slice (some ⟨a5, 0, none⟩) 1 1)).heap[b]? = some (.cells #[.int .u16 0, .bool false, .int .i64 0, .bool false, .bool false, .bool false, .bool false, .bool false, .bool false, .int .i64 0, .slice none 0 0, .slice none 0 0, .slice none 0 0, .slice none 0 0] 26)) := (Below.heap_setCell _ _ _ _ (by have := HE.out; have := HE2.out; have := HE4.out; simp only; omega)).trans z_7.out
  have t_8 : Hid ((w5.setCell ⟨b + 1 + 1 + 1, 13, none⟩ (.slice (some ⟨a5, 0, none⟩) 1 1)).heap[b + 1]? = some (.cells #[.string aNm] 9)) := (Below.heap_setCell _ _ _ _ (by have := HE.out; have := HE2.out; have := HE4.out; simp only; omega)).trans t_7.out
  have q_8 : Hid ((w5.setCell ⟨b + 1 + 1 + 1, 13, none⟩ (.slice (some ⟨a5, 0, none⟩) 1 1)).heap[b + 1 + 1]? = some (.cells #[.slice (some ⟨b + 1, 0, none⟩) 1 1, .int .u16 1, .int .u16 1] 55)) := (Below.heap_setCell _ _ _ _ (by have := HE.out; have := HE2.out; have := HE4.out; simp only; omega)).trans q_7.out
  have m_8 : Hid ((w5.setCell ⟨b + 1 + 1 + 1, 13, none⟩ (.slice (some ⟨a5, 0, none⟩) 1 1)).heap[b + 1 + 1 + 1]? = some (.cells #[.int .u16 1, .bool false, .int .i64 0, .bool false, .bool false, .bool false, .bool false, .bool false, .bool false, .int .i64 0, .slice (some ⟨b + 1 + 1, 0, none⟩) 1 1, .slice (some ⟨a3, 0, none⟩) 2 2, .slice (some ⟨a3 + 1 + 1 + 1 + 1, 0, none⟩) 1 1, .slice (some ⟨a5, 0, none⟩) 1 1] 26)) := heap_set m_7.out 13 _
  have A1_8 : Hid (AdrB (w5.setCell ⟨b + 1 + 1 + 1, 13, none⟩ (.slice (some ⟨a5, 0, none⟩) 1 1)) a1 aNm 1) := ⟨(Below.heap_setCell _ _ _ _ (by have := HE.out; have := HE2.out; have := HE4.out; simp only; omega)).trans A1_7.out.1, (Below.heap_setCell _ _ _ _ (by have := HE.out; have := HE2.out; have := HE4.out; simp only; omega)).trans A1_7.out.2⟩
  have A2_8 : Hid (AdrB (w5.setCell ⟨b + 1 + 1 + 1, 13, none⟩ (.slice (some ⟨a5, 0, none⟩) 1 1)) a2 aNm 2) := ⟨(Below.heap_setCell _ _ _ _ (by have := HE.out; have := HE2.out; have := HE4.out; simp only; omega)).trans A2_7.out.1, (Below.heap_setCell _ _ _ _ (by have := HE.out; have := HE2.out; have := HE4.out; simp only; omega)).trans A2_7.out.2⟩
  have L1_8 : Hid ((w5.setCell ⟨b + 1 + 1 + 1, 13, none⟩ (.slice (some ⟨a5, 0, none⟩) 1 1)).heap[a3]? = some (.cells #[.slice (some ⟨a1 + 1, 0, none⟩) 1 1, .int .u16 1, .int .u16 1, .int .u32 60, .slice none 0 0, .slice none 0 0, .slice none 0 0, .slice (some ⟨a1 + 1 + 1, 0, none⟩) 4 4, .slice (some ⟨a2 + 1, 0, none⟩) 1 1, .int .u16 1, .int .u16 1, .int .u32 60, .slice none 0 0, .slice none 0 0, .slice none 0 0, .slice (some ⟨a2 + 1 + 1, 0, none⟩) 4 4] 62)) := (Below.heap_setCell _ _ _ _ (by have := HE.out; have := HE2.out; have := HE4.out; simp only; omega)).trans L1_7.out
  have tb_8 : Hid ((w5.setCell ⟨b + 1 + 1 + 1, 13, none⟩ (.slice (some ⟨a5, 0, none⟩) 1 1)).heap[a3 + 1]? = some (.cells #[.string bNm] 9)) := (Below.heap_setCell _ _ _ _ (by have := HE.out; have := HE2.out; have := HE4.out; simp only; omega)).trans tb_7.out
  have tc_8 : Hid ((w5.setCell ⟨b + 1 + 1 + 1, 13, none⟩ (.slice (some ⟨a5, 0, none⟩) 1 1)).heap[a3 + 1 + 1]? = some (.cells #[.string cNm] 9)) := (Below.heap_setCell _ _ _ _ (by have := HE.out; have := HE2.out; have := HE4.out; simp only; omega)).trans tc_7.out
  have nn_8 : Hid ((w5.setCell ⟨b + 1 + 1 + 1, 13, none⟩ (.slice (some ⟨a5, 0, none⟩) 1 1)).heap[a3 + 1 + 1 + 1]? = some (.cells #[.slice (some ⟨a3 + 1 + 1, 0, none⟩) 1 1] 51)) := (Below.heap_setCell _ _ _ _ (by have := HE.out; have := HE2.out; have := HE4.out; simp only; omega)).trans nn_7.out
  have L2_8 : Hid ((w5.setCell ⟨b + 1 + 1 + 1, 13, none⟩ (.slice (some ⟨a5, 0, none⟩) 1 1)).heap[a3 + 1 + 1 + 1 + 1]? = some (.cells #[.slice (some ⟨a3 + 1, 0, none⟩) 1 1, .int .u16 2, .int .u16 1, .int .u32 60, .slice (some ⟨a3 + 1 + 1 + 1, 0, none⟩) 1 1, .slice none 0 0, .slice none 0 0, .slice none 0 0] 62)) := (Below.heap_setCell _ _ _ _ (by have := HE.out; have := HE2.out; have := HE4.out; simp only; omega)).trans L2_7.out
  have A3_8 : Hid (AdrB (w5.setCell ⟨b + 1 + 1 + 1, 13, none⟩ (.slice (some ⟨a5, 0, none⟩) 1 1)) a4 dNm 3) := ⟨(Below.heap_setCell _ _ _ _ (by have := HE.out; have := HE2.out; have := HE4.out; simp only; omega)).trans A3_7.out.1, (Below.heap_setCell _ _ _ _ (by have := HE.out; have := HE2.out; have := HE4.out; simp only; omega)).trans A3_7.out.2⟩
  clear e13 f13 l5 ha5 HB5
  generalize w5.setCell ⟨b + 1 + 1 + 1, 13, none⟩ (.slice (some ⟨a5, 0, none⟩) 1 1) = U at *
  have hb6 := newF_below U (.cells #[.slice (some ⟨a4 + 1, 0, none⟩) 1 1, .int .u16 1, .int .u16 1, .int .u32 60, .slice none 0 0, .slice none 0 0, .slice none 0 0, .slice (some ⟨a4 + 1 + 1, 0, none⟩) 4 4] 62)
  have L3_9 : Hid ((U.alloc (.cells #[.slice (some ⟨a4 + 1, 0, none⟩) 1 1, .int .u16 1, .int .u16 1, .int .u32 60, .slice none 0 0, .slice none 0 0, .slice none 0 0, .slice (some ⟨a4 + 1 + 1, 0, none⟩) 4 4] 62)).heap[a5]? = some (.cells #[.slice (some ⟨a4 + 1, 0, none⟩) 1 1, .int .u16 1, .int .u16 1, .int .u32 60, .slice none 0 0, .slice none 0 0, .slice none 0 0, .slice (some ⟨a4 + 1 + 1, 0, none⟩) 4 4] 62)) := by show _ = _; rw [← hsV]; exact heap_alloc_new U _
  have z_9 : Hid ((U.alloc (.cells #[.slice (some ⟨a4 + 1, 0, none⟩) 1 1, .int .u16 1, .int .u16 1, .int .u32 60, .slice none 0 0, .slice none 0 0, .slice none 0 0, .slice (some ⟨a4 + 1 + 1, 0, none⟩) 4 4] 62)).heap[b]? = some (.cells #[.int .u16 0, .bool false, .int .i64 0, .bool false, .bool false, .bool false, .bool false, .bool false, .bool false, .int .i64 0, .slice none 0 0, .slice none 0 0, .slice none 0 0, .slice none 0 0] 26)) := (hb6.block _ (box_lt z_8.out)).trans z_8.out
  have t_9 : Hid ((U.alloc (.cells #[.slice (some ⟨a4 + 1, 0, none⟩) 1 1, .int .u16 1, .int .u16 1, .int .u32 60, .slice none 0 0, .slice none 0 0, .slice none 0 0, .slice (some ⟨a4 + 1 + 1, 0, none⟩) 4 4] 62)).heap[b + 1]? = some (.cells #[.string aNm] 9)) := (hb6.block _ (box_lt t_8.out)).trans t_8.out
  have q_9 : Hid ((U.alloc (.cells #[.slice (some ⟨a4 + 1, 0, none⟩) 1 1, .int .u16 1, .int .u16 1, .int .u32 60, .slice none 0 0, .slice none 0 0, .slice none 0 0, .slice (some ⟨a4 + 1 + 1, 0, none⟩) 4 4] 62)).heap[b + 1 + 1]? = some (.cells #[.slice (some ⟨b + 1, 0, none⟩) 1 1, .int .u16 1, .int .u16 1] 55)) := (hb6.block _ (box_lt q_8.out)).trans q_8.out
  have m_9 : Hid ((U.alloc (.cells #[.slice (some ⟨a4 + 1, 0, none⟩) 1 1, .int .u16 1, .int .u16 1, .int .u32 60, .slice none 0 0, .slice none 0 0, .slice none 0 0, .slice (some ⟨a4 + 1 + 1, 0, none⟩) 4 4] 62)).heap[b + 1 + 1 + 1]? = some (.cells #[.int .u16 1, .bool false, .int .i64 0, .bool false, .bool false, .bool false, .bool false, .bool false, .bool false, .int .i64 0, .slice (some ⟨b + 1 + 1, 0, none⟩) 1 1, .slice (some ⟨a3, 0, none⟩) 2 2, .slice (some ⟨a3 + 1 + 1 + 1 + 1, 0, none⟩) 1 1, .slice (some ⟨a5, 0, none⟩) 1 1] 26)) := (hb6.block _ (box_lt m_8.out)).trans m_8.out
  have A1_9 : Hid (AdrB (U.alloc (.cells #[.slice (some ⟨a4 + 1, 0, none⟩) 1 1, .int .u16 1, .int .u16 1, .int .u32 60, .slice none 0 0, .slice none 0 0, .slice none 0 0, .slice (some ⟨a4 + 1 + 1, 0, none⟩) 4 4] 62)) a1 aNm 1) := ⟨(hb6.block _ (box_lt A1_8.out.1)).trans A1_8.out.1, (hb6.block _ (box_lt A1_8.out.2)).trans A1_8.out.2⟩
  have A2_9 : Hid (AdrB (U.alloc (.cells #[.slice (some ⟨a4 + 1, 0, none⟩) 1 1, .int .u16 1, .int .u16 1, .int .u32 60, .slice none 0 0, .slice none 0 0, .slice none 0 0, .slice (some ⟨a4 + 1 + 1, 0, none⟩) 4 4] 62)) a2 aNm 2) := ⟨(hb6.block _ (box_lt A2_8.out.1)).trans A2_8.out.1, (hb6.block _ (box_lt A2_8.out.2)).trans A2_8.out.2⟩
  have L1_9 : Hid ((U.alloc (.cells #[.slice (some ⟨a4 + 1, 0, none⟩) 1 1, .int .u16 1, .int .u16 1, .int .u32 60, .slice none 0 0, .slice none 0 0, .slice none 0 0, .slice (some ⟨a4 + 1 + 1, 0, none⟩) 4 4] 62)).heap[a3]? = some (.cells #[.slice (some ⟨a1 + 1, 0, none⟩) 1 1, .int .u16 1, .int .u16 1, .int .u32 60, .slice none 0 0, .slice none 0 0, .slice none 0 0, .slice (some ⟨a1 + 1 + 1, 0, none⟩) 4 4, .slice (some ⟨a2 + 1, 0, none⟩) 1 1, .int .u16 1, .int .u16 1, .int .u32 60, .slice none 0 0, .slice none 0 0, .slice none 0 0, .slice (some ⟨a2 + 1 + 1, 0, none⟩) 4 4] 62)) := (hb6.block _ (box_lt L1_8.out)).trans L1_8.out
  have tb_9 : Hid ((U.alloc (.cells #[.slice (some ⟨a4 + 1, 0, none⟩) 1 1, .int .u16 1, .int .u16 1, .int .u32 60, .slice none 0 0, .slice none 0 0, .slice none 0 0, .slice (some ⟨a4 + 1 + 1, 0, none⟩) 4 4] 62)).heap[a3 + 1]? = some (.cells #[.string bNm] 9)) := (hb6.block _ (box_lt tb_8.out)).trans tb_8.out
  have tc_9 : Hid ((U.alloc (.cells #[.slice (some ⟨a4 + 1, 0, none⟩) 1 1, .int .u16 1, .int .u16 1, .int .u32 60, .slice none 0 0, .slice none 0 0, .slice none 0 0, .slice (some ⟨a4 + 1 + 1, 0, none⟩) 4 4] 62)).heap[a3 + 1 + 1]? = some (.cells #[.string cNm] 9)) := (hb6.block _ (box_lt tc_8.out)).trans tc_8.out
  have nn_9 : Hid ((U.alloc (.cells #[.slice (some ⟨a4 + 1, 0, none⟩) 1 1, .int .u16 1, .int .u16 1, .int .u32 60, .slice none 0 0, .slice none 0 0, .slice none 0 0, .slice (some ⟨a4 + 1 + 1, 0, none⟩) 4 4] 62)).heap[a3 + 1 + 1 + 1]? = some (.cells #[.slice (some ⟨a3 + 1 + 1, 0, none⟩) 1 1] 51)) := (hb6.block _ (box_lt nn_8.out)).trans nn_8.out
  have L2_9 : Hid ((U.alloc (.cells #[.slice (some ⟨a4 + 1, 0, none⟩) 1 1, .int .u16 1, .int .u16 1, .int .u32 60, .slice none 0 0, .slice none 0 0, .slice none 0 0, .slice (some ⟨a4 + 1 + 1, 0, none⟩) 4 4] 62)).heap[a3 + 1 + 1 + 1 + 1]? = some (.cells #[.slice (some ⟨a3 + 1, 0, none⟩) 1 1, .int .u16 2, .int .u16 1, .int .u32 60, .slice (some ⟨a3 + 1 + 1 + 1, 0, none⟩) 1 1, .slice none 0 0, .slice none 0 0, .slice none 0 0] 62)) := (hb6.block _ (box_lt L2_8.out)).trans L2_8.out
  have A3_9 : Hid (AdrB (U.alloc (.cells #[.slice (some ⟨a4 + 1, 0, none⟩) 1 1, .int .u16 1, .int .u16 1, .int .u32 60, .slice none 0 0, .slice none 0 0, .slice none 0 0, .slice (some ⟨a4 + 1 + 1, 0, none⟩) 4 4] 62)) a4 dNm 3) := ⟨(hb6.block _ (box_lt A3_8.out.1)).trans A3_8.out.1, (hb6.block _ (box_lt A3_8.out.2)).trans A3_8.out.2⟩
  have HB6 : Hid (Below w.heap.size w (U.alloc (.cells #[.slice (some ⟨a4 + 1, 0, none⟩) 1 1, .int .u16 1, .int .u16 1, .int .u32 60, .slice none 0 0, .slice none 0 0, .slice none 0 0, .slice (some ⟨a4 + 1 + 1, 0, none⟩) 4 4] 62))) := hbV.trans (hb6.mono hbV.size)
  clear hb6 hsV hbV
  generalize U.alloc (.cells #[.slice (some ⟨a4 + 1, 0, none⟩) 1 1, .int .u16 1, .int .u16 1, .int .u32 60, .slice none 0 0, .slice none 0 0, .slice none 0 0, .slice (some ⟨a4 + 1 + 1, 0, none⟩) 4 4] 62) = w6 at *
  have e0 := box_cell m_9.out 0 _ rfl
  have e1 := box_cell m_9.out 1 _ rfl
  have e2 := box_cell m_9.out 2 _ rfl
  have e3 := box_cell m_9.out 3 _ rfl
  have e4 := box_cell m_9.out 4 _ rfl
  have e5 := box_cell m_9.out 5 _ rfl
  have e6 := box_cell m_9.out 6 _ rfl
  have e7 := box_cell m_9.out 7 _ rfl
  have e8 := box_cell m_9.out 8 _ rfl
  have e9 := box_cell m_9.out 9 _ rfl
  have e10 := box_cell m_9.out 10 _ rfl
  have e11 := box_cell m_9.out 11 _ rfl
  have e12 := box_cell m_9.out 12 _ rfl
  have e13 := box_cell m_9.out 13 _ rfl
  have f0 : w6.frozen? ⟨b, 0, none⟩ = false := box_frozen z_9.out _
  have d0 := box_cell z_9.out 0 _ rfl
  have f1 : w6.frozen? ⟨b, 1, none⟩ = false := box_frozen z_9.out _
  have d1 := box_cell z_9.out 1 _ rfl
  have f2 : w6.frozen? ⟨b, 2, none⟩ = false := box_frozen z_9.out _
  have d2 := box_cell z_9.out 2 _ rfl
  have f3 : w6.frozen? ⟨b, 3, none⟩ = false := box_frozen z_9.out _
  have d3 := box_cell z_9.out 3 _ rfl
  have f4 : w6.frozen? ⟨b, 4, none⟩ = false := box_frozen z_9.out _
  have d4 := box_cell z_9.out 4 _ rfl
  have f5 : w6.frozen? ⟨b, 5, none⟩ = false := box_frozen z_9.out _
  have d5 := box_cell z_9.out 5 _ rfl
  have f6 : w6.frozen? ⟨b, 6, none⟩ = false := box_frozen z_9.out _
  have d6 := box_cell z_9.out 6 _ rfl
  have f7 : w6.frozen? ⟨b, 7, none⟩ = false := box_frozen z_9.out _
  have d7 := box_cell z_9.out 7 _ rfl
  have f8 : w6.frozen? ⟨b, 8, none⟩ = false := box_frozen z_9.out _
  have d8 := box_cell z_9.out 8 _ rfl
  have f9 : w6.frozen? ⟨b, 9, none⟩ = false := box_frozen z_9.out _
  have d9 := box_cell z_9.out 9 _ rfl
  have f10 : w6.frozen? ⟨b, 10, none⟩ = false := box_frozen z_9.out _
  have d10 := box_cell z_9.out 10 _ rfl
  have f11 : w6.frozen? ⟨b, 11, none⟩ = false := box_frozen z_9.out _
  have d11 := box_cell z_9.out 11 _ rfl
  have f12 : w6.frozen? ⟨b, 12, none⟩ = false := box_frozen z_9.out _
  have d12 := box_cell z_9.out 12 _ rfl
  have f13 : w6.frozen? ⟨b, 13, none⟩ = false := box_frozen z_9.out _
  have d13 := box_cell z_9.out 13 _ rfl
  have l6 := box_lt m_9.out
  have l7 := box_lt z_9.out
  go_wp2_with fail
  have HG9 := Lib.hid (put14 z_9.out (.int .u16 1) (.bool false) (.int .i64 0) (.bool false) (.bool false) (.bool false) (.bool false) (.bool false) (.bool false) (.int .i64 0) (.slice (some ⟨b + 1 + 1, 0, none⟩) 1 1) (.slice (some ⟨a3, 0, none⟩) 2 2) (.slice (some ⟨a3 + 1 + 1 + 1 + 1, 0, none⟩) 1 1) (.slice (some ⟨a5, 0, none⟩) 1 1))
  have HB9 := Lib.hid (put14_below w6 b (.int .u16 1) (.bool false) (.int .i64 0) (.bool false) (.bool false) (.bool false) (.bool false) (.bool false) (.bool false) (.int .i64 0) (.slice (some ⟨b + 1 + 1, 0, none⟩) 1 1) (.slice (some ⟨a3, 0, none⟩) 2 2) (.slice (some ⟨a3 + 1 + 1 + 1 + 1, 0, none⟩) 1 1) (.slice (some ⟨a5, 0, none⟩) 1 1))
  have HO9 := Lib.hid (put14_other w6 b (.int .u16 1) (.bool false) (.int .i64 0) (.bool false) (.bool false) (.bool false) (.bool false) (.bool false) (.bool false) (.int .i64 0) (.slice (some ⟨b + 1 + 1, 0, none⟩) 1 1) (.slice (some ⟨a3, 0, none⟩) 2 2) (.slice (some ⟨a3 + 1 + 1 + 1 + 1, 0, none⟩) 1 1) (.slice (some ⟨a5, 0, none⟩) 1 1))
  generalize ((((((((((((((w6.setCell ⟨b, 0, none⟩ (.int .u16 1)).setCell ⟨b, 1, none⟩ (.bool false)).setCell ⟨b, 2, none⟩ (.int .i64 0)).setCell ⟨b, 3, none⟩ (.bool false)).setCell ⟨b, 4, none⟩ (.bool false)).setCell ⟨b, 5, none⟩ (.bool false)).setCell ⟨b, 6, none⟩ (.bool false)).setCell ⟨b, 7, none⟩ (.bool false)).setCell ⟨b, 8, none⟩ (.bool false)).setCell ⟨b, 9, none⟩ (.int .i64 0)).setCell ⟨b, 10, none⟩ (.slice (some ⟨b + 1 + 1, 0, none⟩) 1 1)).setCell ⟨b, 11, none⟩ (.slice (some ⟨a3, 0, none⟩) 2 2)).setCell ⟨b, 12, none⟩ (.slice (some ⟨a3 + 1 + 1 + 1 + 1, 0, none⟩) 1 1)).setCell ⟨b, 13, none⟩ (.slice (some ⟨a5, 0, none⟩) 1 1)) = w9 at *
  have y0 : w9.cell? ⟨b, 0, none⟩ = some (.int .u16 1) := box_cell HG9.out 0 _ rfl
  have y1 : w9.cell? ⟨b, 1, none⟩ = some (.bool false) := box_cell HG9.out 1 _ rfl
  have y2 : w9.cell? ⟨b, 2, none⟩ = some (.int .i64 0) := box_cell HG9.out 2 _ rfl
  have y3 : w9.cell? ⟨b, 3, none⟩ = some (.bool false) := box_cell HG9.out 3 _ rfl
  have y4 : w9.cell? ⟨b, 4, none⟩ = some (.bool false) := box_cell HG9.out 4 _ rfl
  have y5 : w9.cell? ⟨b, 5, none⟩ = some (.bool false) := box_cell HG9.out 5 _ rfl
  have y6 : w9.cell? ⟨b, 6, none⟩ = some (.bool false) := box_cell HG9.out 6 _ rfl
  have y7 : w9.cell? ⟨b, 7, none⟩ = some (.bool false) := box_cell HG9.out 7 _ rfl
  have y8 : w9.cell? ⟨b, 8, none⟩ = some (.bool false) := box_cell HG9.out 8 _ rfl
  have y9 : w9.cell? ⟨b, 9, none⟩ = some (.int .i64 0) := box_cell HG9.out 9 _ rfl
  have y10 : w9.cell? ⟨b, 10, none⟩ = some (.slice (some ⟨b + 1 + 1, 0, none⟩) 1 1) := box_cell HG9.out 10 _ rfl
  have y11 : w9.cell? ⟨b, 11, none⟩ = some (.slice (some ⟨a3, 0, none⟩) 2 2) := box_cell HG9.out 11 _ rfl
  have y12 : w9.cell? ⟨b, 12, none⟩ = some (.slice (some ⟨a3 + 1 + 1 + 1 + 1, 0, none⟩) 1 1) := box_cell HG9.out 12 _ rfl
  have y13 : w9.cell? ⟨b, 13, none⟩ = some (.slice (some ⟨a5, 0, none⟩) 1 1) := box_cell HG9.out 13 _ rfl
  have lt9 := box_lt HG9.out
  have hbe9 : Below w.heap.size w w9 := HB6.out.trans (HB9.out.mono (by have := HBW.out; omega))
  have hne : ∀ j, b < j → w9.heap[j]? = w6.heap[j]? := fun j hj => HO9.out j (by omega)
  refine bodyPost_ret (v := .agg #[.int .u16 1, .bool false, .int .i64 0, .bool false, .bool false, .bool false, .bool false, .bool false, .bool false, .int .i64 0, .slice (some ⟨b + 1 + 1, 0, none⟩) 1 1, .slice (some ⟨a3, 0, none⟩) 2 2, .slice (some ⟨a3 + 1 + 1 + 1 + 1, 0, none⟩) 1 1, .slice (some ⟨a5, 0, none⟩) 1 1]) ?_ rfl ⟨⟨⟨some ⟨b + 1 + 1, 0, none⟩, 1, 1⟩, ⟨some ⟨a3, 0, none⟩, 2, 2⟩, ⟨some ⟨a3 + 1 + 1 + 1 + 1, 0, none⟩, 1, 1⟩, ⟨some ⟨a5, 0, none⟩, 1, 1⟩⟩, rfl, ?_, hbe9⟩
  · simp [results, Tryz.results26, go_sem, y0, y1, y2, y3, y4, y5, y6, y7, y8, y9, y10, y11, y12, y13, lt9]
  · have h1 := HE.out; have h2 := HE2.out; have h4 := HE4.out; have h5 := HE5.out
    have xt : w9.heap[b + 1]? = some (.cells #[.string aNm] 9) := (hne _ (by omega)).trans t_9.out
    have xq : w9.heap[b + 1 + 1]? = some (.cells #[.slice (some ⟨b + 1, 0, none⟩) 1 1, .int .u16 1, .int .u16 1] 55) := (hne _ (by omega)).trans q_9.out
    have xL1 : w9.heap[a3]? = some (.cells #[.slice (some ⟨a1 + 1, 0, none⟩) 1 1, .int .u16 1, .int .u16 1, .int .u32 60, .slice none 0 0, .slice none 0 0, .slice none 0 0, .slice (some ⟨a1 + 1 + 1, 0, none⟩) 4 4, .slice (some ⟨a2 + 1, 0, none⟩) 1 1, .int .u16 1, .int .u16 1, .int .u32 60, .slice none 0 0, .slice none 0 0, .slice none 0 0, .slice (some ⟨a2 + 1 + 1, 0, none⟩) 4 4] 62) := (hne _ (by omega)).trans L1_9.out
    have xtb : w9.heap[a3 + 1]? = some (.cells #[.string bNm] 9) := (hne _ (by omega)).trans tb_9.out
    have xtc : w9.heap[a3 + 1 + 1]? = some (.cells #[.string cNm] 9) := (hne _ (by omega)).trans tc_9.out
    have xnn : w9.heap[a3 + 1 + 1 + 1]? = some (.cells #[.slice (some ⟨a3 + 1 + 1, 0, none⟩) 1 1] 51) := (hne _ (by omega)).trans nn_9.out
    have xL2 : w9.heap[a3 + 1 + 1 + 1 + 1]? = some (.cells #[.slice (some ⟨a3 + 1, 0, none⟩) 1 1, .int .u16 2, .int .u16 1, .int .u32 60, .slice (some ⟨a3 + 1 + 1 + 1, 0, none⟩) 1 1, .slice none 0 0, .slice none 0 0, .slice none 0 0] 62) := (hne _ (by omega)).trans L2_9.out
    have xL3 : w9.heap[a5]? = some (.cells #[.slice (some ⟨a4 + 1, 0, none⟩) 1 1, .int .u16 1, .int .u16 1, .int .u32 60, .slice none 0 0, .slice none 0 0, .slice none 0 0, .slice (some ⟨a4 + 1 + 1, 0, none⟩) 4 4] 62) := (hne _ (by omega)).trans L3_9.out
    have xA1 : AdrB w9 a1 aNm 1 := ⟨(hne _ (by omega)).trans A1_9.out.1, (hne _ (by omega)).trans A1_9.out.2⟩
    have xA2 : AdrB w9 a2 aNm 2 := ⟨(hne _ (by omega)).trans A2_9.out.1, (hne _ (by omega)).trans A2_9.out.2⟩
    have xA3 : AdrB w9 a4 dNm 3 := ⟨(hne _ (by omega)).trans A3_9.out.1, (hne _ (by omega)).trans A3_9.out.2⟩
    refine ⟨rfl, qn_at (s := ⟨some ⟨b + 1, 0, none⟩, 1, 1⟩) (t := 1) (cl := 1) xq (txt_at xt (by decide)) (by decide) (by decide), ?_, ?_, ?_, ?_⟩
    · exact rec2_at (x := adrA a1) (y := adrA a2) (r := adrR aNm 1) (s := adrR aNm 2) xL1 (adr_rd xA1 (by decide) (by omega)) (adr_rd xA2 (by decide) (by omega))
    · refine rec_at (x := ⟨⟨some ⟨a3 + 1, 0, none⟩, 1, 1⟩, ⟨⟨some ⟨a3 + 1 + 1 + 1, 0, none⟩, 1, 1⟩, ⟨none, 0, 0⟩, ⟨none, 0, 0⟩, ⟨none, 0, 0⟩⟩⟩) (r := ⟨[bNm], 2, 1, 60, ⟨[[cNm]], [], [], []⟩⟩) xL2 ⟨txt_at xtb (by decide), ?_⟩
      exact ⟨names_at (s := ⟨some ⟨a3 + 1 + 1, 0, none⟩, 1, 1⟩) xnn (txt_at xtc (by decide)), ⟨.inl rfl, rfl, ⟨Nat.le_refl _, Nat.zero_le _⟩, fun _ => rfl, fun x hx => (by cases hx)⟩, ⟨.inl rfl, rfl, ⟨Nat.le_refl _, Nat.zero_le _⟩, fun _ => rfl, fun x hx => (by cases hx)⟩, ⟨⟨.inl rfl, fun z hz => (by cases hz)⟩, rfl, ⟨Nat.le_refl _, Nat.zero_le _⟩, fun _ => rfl⟩⟩
    · exact rec_at (x := adrA a4) (r := adrR dNm 3) xL3 (adr_rd xA3 (by decide) (by omega))
    · refine ⟨by decide, fun q hq => ?_, fun r hr => ?_, fun r hr => ?_, fun r hr => ?_⟩
      · rw [List.mem_singleton.1 hq]; exact ⟨by decide, by decide⟩
      · rcases List.mem_cons.1 hr with rfl | hr
        · exact ⟨by decide, by decide, by decide⟩
        · rw [List.mem_singleton.1 hr]; exact ⟨by decide, by decide, by decide⟩
      · rw [List.mem_singleton.1 hr]; exact ⟨by decide, by decide, by decide⟩
      · rw [List.mem_singleton.1 hr]; exact ⟨by decide, by decide, by decide⟩
end Go.Proofs.YtkjnbgekaifdfaaGreat
namespace Go.Proofs.YtkjnbgekaifdfaaGreat
open Go.ChangeShapes Go.WideShapes Go.ChangeAt Go.RowKit
set_option linter.unusedVariables false
theorem thr_chk : chkM thrM = 0 := by decide +kernel
theorem thr_sets : setsF thrM = [2, 1, 1] := by decide +kernel
theorem thr67 : cutE thrM 67 = 0 ∧ (cutF thrM 67).l2.length = 1 ∧ (cutF thrM 67).l3.length = 0 ∧ (cutF thrM 67).h.tc = false := by decide +kernel
theorem thr66 : cutE thrM 66 = 0 ∧ (prun (pmsg (cutF thrM 66)) (some ([], []))).map (·.1.length) = some 51 := by decide +kernel
end Go.Proofs.YtkjnbgekaifdfaaGreat
namespace Go.Proofs.YtkjnbgekaifdfaaGreat
open Go.ChangeShapes Go.WideShapes Go.ChangeAt Go.RowKit Go.Deep Go.Maps
set_option linter.unusedVariables false
set_option linter.unusedSimpArgs false
set_option maxRecDepth 100000
variable {H : Type} {enc : TypeId × Value → H} {W : World}
variable {H : Type} {enc : TypeId × Value → H} {W : World}
theorem field_at {t : TypeId} {fs : Array Field} {fuel : Nat} {cs : List Value} {x : DataW H × List MemPlace} (ht : Tryz.prog.underlying t = some (.struct fs)) (h : DataW.trod enc Tryz.prog W 0 (fun _ => true) true fuel t cs = some x) (i : Nat) (f : Field) (hf : fs[i]? = some f) (k : Nat) (hk : Tryz.prog.cellsOf f.type = k) :
    ∃ n y, DataW.trod enc Tryz.prog W 0 (fun _ => true) true n f.type ((cs.drop f.offset).take k) = some y := by
  obtain ⟨xs, n, _, _, _, hlen, hall⟩ := DataW.trod_struct ht h
  have := hall i f hf
  rw [hk] at this
  have hi : i < fs.size := (Array.getElem?_eq_some_iff.1 hf).1
  exact ⟨n, _, this.trans (List.getElem?_eq_getElem (by rw [hlen]; exact hi))⟩
theorem open_data4 {fuel : Nat} {v0 v1 v2 v3 : Value} {x : DataW H × List MemPlace} (h : DataW.trod enc Tryz.prog W 0 (fun _ => true) true fuel 60 [v0, v1, v2, v3] = some x) :
    ∃ (x : DA) (y : Dat), v0 = .slice x.p1.a x.p1.n x.p1.c ∧ v1 = .slice x.p2.a x.p2.n x.p2.c ∧ v2 = .slice x.p3.a x.p3.n x.p3.c ∧ v3 = .slice x.p4.a x.p4.n x.p4.c ∧ DRd W x y := by
  obtain ⟨_, _, t0⟩ := field_at Tryz.underlying60 h 0 _ rfl 1 (by kernel_rfl)
  obtain ⟨_, _, t1⟩ := field_at Tryz.underlying60 h 1 _ rfl 1 (by kernel_rfl)
  obtain ⟨_, _, t2⟩ := field_at Tryz.underlying60 h 2 _ rfl 1 (by kernel_rfl)
  obtain ⟨_, _, t3⟩ := field_at Tryz.underlying60 h 3 _ rfl 1 (by kernel_rfl)
  replace t0 : DataW.trod enc Tryz.prog W 0 (fun _ => true) true _ 57 [v0] = some _ := t0
  replace t1 : DataW.trod enc Tryz.prog W 0 (fun _ => true) true _ 58 [v1] = some _ := t1
  replace t2 : DataW.trod enc Tryz.prog W 0 (fun _ => true) true _ 50 [v2] = some _ := t2
  replace t3 : DataW.trod enc Tryz.prog W 0 (fun _ => true) true _ 29 [v3] = some _ := t3
  obtain ⟨a0, n0, c0, rfl⟩ := slice_of (t := 57) (e := 51) Tryz.underlying57 t0
  obtain ⟨a1, n1, c1, rfl⟩ := slice_of (t := 58) (e := 56) Tryz.underlying58 t1
  obtain ⟨a2, n2, c2, rfl⟩ := slice_of (t := 50) (e := 9) Tryz.underlying50 t2
  obtain ⟨a3, n3, c3, rfl⟩ := slice_of (t := 29) (e := 5) Tryz.underlying29 t3
  obtain ⟨nss, h0⟩ := open_namesD t0
  obtain ⟨us, h1⟩ := open_numsD t1
  obtain ⟨ss, h2⟩ := open_texts Tryz.underlying50 t2
  obtain ⟨zs, h3⟩ := open_bytesD t3
  exact ⟨⟨⟨a0, n0, c0⟩, ⟨a1, n1, c1⟩, ⟨a2, n2, c2⟩, ⟨a3, n3, c3⟩⟩, ⟨nss, us, ss, zs⟩, rfl, rfl, rfl, rfl, h0, h1, h2, h3⟩
theorem open_rec8 {fuel : Nat} {v0 v1 v2 v3 v4 v5 v6 v7 : Value} {x : DataW H × List MemPlace} (h : DataW.trod enc Tryz.prog W 0 (fun _ => true) true fuel 62 [v0, v1, v2, v3, v4, v5, v6, v7] = some x) :
    ∃ (x : RA) (r : Rec), [v0, v1, v2, v3, v4, v5, v6, v7] = recCells x r ∧ RRd W x r ∧ r.t < 65536 ∧ r.cl < 65536 ∧ r.tt < 4294967296 := by
  obtain ⟨_, _, t0⟩ := field_at Tryz.underlying62 h 0 _ rfl 1 (by kernel_rfl)
  obtain ⟨_, _, t1⟩ := field_at Tryz.underlying62 h 1 _ rfl 1 (by kernel_rfl)
  obtain ⟨_, _, t2⟩ := field_at Tryz.underlying62 h 2 _ rfl 1 (by kernel_rfl)
  obtain ⟨_, _, t3⟩ := field_at Tryz.underlying62 h 3 _ rfl 1 (by kernel_rfl)
  obtain ⟨_, _, t4⟩ := field_at Tryz.underlying62 h 4 _ rfl 4 (by kernel_rfl)
  replace t0 : DataW.trod enc Tryz.prog W 0 (fun _ => true) true _ 51 [v0] = some _ := t0
  replace t1 : DataW.trod enc Tryz.prog W 0 (fun _ => true) true _ 52 [v1] = some _ := t1
  replace t2 : DataW.trod enc Tryz.prog W 0 (fun _ => true) true _ 53 [v2] = some _ := t2
  replace t3 : DataW.trod enc Tryz.prog W 0 (fun _ => true) true _ 56 [v3] = some _ := t3
  replace t4 : DataW.trod enc Tryz.prog W 0 (fun _ => true) true _ 60 [v4, v5, v6, v7] = some _ := t4
  obtain ⟨a, n, c, rfl⟩ := slice_of (t := 51) (e := 9) Tryz.underlying51 t0
  obtain ⟨x1, e1, _, w1⟩ := DataW.trod_int (t := 52) Tryz.underlying52 t1
  obtain ⟨x2, e2, _, w2⟩ := DataW.trod_int (t := 53) Tryz.underlying53 t2
  obtain ⟨x3, e3, _, w3⟩ := DataW.trod_int (t := 56) Tryz.underlying56 t3
  obtain ⟨xd, d, rfl, rfl, rfl, rfl, hd⟩ := open_data4 t4
  simp only [List.cons.injEq, and_true] at e1 e2 e3
  subst e1 e2 e3
  have b1 := bounds_u16 w1
  have b2 := bounds_u16 w2
  have b3 : 0 ≤ x3 ∧ x3 ≤ 4294967295 := by have := w3; simp [Lit.wf, IntKind.min, IntKind.max, IntKind.bits, IntKind.signed] at this; omega
  obtain ⟨ss, hss⟩ := open_texts Tryz.underlying51 t0
  refine ⟨⟨⟨a, n, c⟩, xd⟩, ⟨ss, x1.toNat, x2.toNat, x3.toNat, d⟩, ?_, ⟨hss, hd⟩, by show x1.toNat < 65536; omega, by show x2.toNat < 65536; omega, by show x3.toNat < 4294967296; omega⟩
  simp only [recCells, Int.toNat_of_nonneg b1.1, Int.toNat_of_nonneg b2.1, Int.toNat_of_nonneg b3.1]
theorem cells61 : Tryz.prog.cellsOf 62 = 8 := by kernel_rfl
theorem open_records {a : Option Addr} {len cap fuel : Nat} {x : DataW H × List MemPlace} (hf : DataW.trod enc Tryz.prog W 0 (fun _ => true) true fuel 24 [Value.slice a len cap] = some x) : ∃ rs : List Rec, LRd W ⟨a, len, cap⟩ rs ∧ ∀ r ∈ rs, Rb r := by
  rcases DataW.trod_slice Tryz.underlying24 hf with ⟨hcs, _⟩ | ⟨x, l, c, elems, rest, n, _, hcs, _, _, hl, hm, hel, hcell, _⟩
  · simp at hcs
    obtain ⟨rfl, rfl, rfl⟩ := hcs
    exact ⟨[], lrd_nil W, fun r hr => (by cases hr)⟩
  · simp at hcs
    obtain ⟨rfl, rfl, rfl⟩ := hcs
    rw [cells61] at hcell
    have hex : ∀ i, i < len → ∃ r : Rec, ∃ y : RA, (∀ j, j < 8 → W.cell? ((x.add (i * 8)).add j) = (recCells y r)[j]?) ∧ RRd W y r ∧ Rb r := by
      intro i hi
      have h1 := hcell i hi
      rw [List.getElem?_eq_getElem (by omega)] at h1
      rw [Option.bind_eq_some_iff] at h1
      obtain ⟨cs, h2, h3⟩ := h1
      obtain ⟨_, hlen, hc⟩ := World.cells?_some h2
      match cs, hlen with
      | [v0, v1, v2, v3, v4, v5, v6, v7], _ =>
        obtain ⟨y, r, e, h4, h5, h6, h7⟩ := open_rec8 h3
        rw [e] at hc
        exact ⟨r, y, fun j hj => hc j hj, h4, by omega, by omega, by omega⟩
    obtain ⟨rs, hlen, hrs⟩ := list_of len _ hex
    have hb : ∀ r ∈ rs, Rb r := by
      intro r hr
      obtain ⟨i, hi, rfl⟩ := List.getElem_of_mem hr
      obtain ⟨_, _, _, h⟩ := hrs i hi
      exact h
    refine ⟨rs, ⟨?_, hlen, ⟨hl, by simp only [maxLen] at hm; exact hm⟩, by simp⟩, hb⟩
    by_cases h0 : len = 0
    · left; exact List.eq_nil_of_length_eq_zero (by omega)
    · right
      obtain ⟨b, off, spot⟩ := x
      obtain ⟨y0, hc0, _⟩ := hrs 0 (by omega)
      have hc00 := hc0 0 (by omega)
      have hspot : spot = none := by simpa [Addr.add] using World.cell?_spot hc00
      subst hspot
      have hlt : b < W.heap.size := by
        have := World.block_lt_of_cell? W _ hc00
        simpa [Addr.add] using this
      refine ⟨b, off, rfl, hlt, fun i hi => ?_⟩
      obtain ⟨y, e1, ok, _⟩ := hrs i hi
      refine ⟨y, fun j hj => ?_, ok⟩
      have := e1 j hj
      rw [Addr.add_lit, Addr.add_lit] at this
      exact this
/-- A message's value, opened whole. -/
theorem open_message {base : Nat} {v : Value} {d : DataW H} {p : List MemPlace} (hv : Value.okWide Tryz.prog W .any base 26 v) (h : DataW.Trod enc Tryz.prog W 0 (fun _ => true) true 26 v d p) : ∃ (HH : Hd) (x : MA) (m : Mg), v = .agg #[.int .u16 HH.id, .bool HH.rs, .int .i64 HH.op, .bool HH.aa, .bool HH.tc, .bool HH.rd, .bool HH.ra, .bool HH.ad, .bool HH.cd, .int .i64 HH.rc, .slice x.q.a x.q.n x.q.c, .slice x.l1.a x.l1.n x.l1.c, .slice x.l2.a x.l2.n x.l2.c, .slice x.l3.a x.l3.n x.l3.c] ∧ MRd W HH x m := by
  obtain ⟨id, rs, op, aa, tc, rd, ra, ad, cd, rc, a1, a2, a3, a4, n1, n2, n3, n4, k1, k2, k3, k4, rfl, hid, ⟨_, _, t1⟩, ⟨_, _, t2⟩, ⟨_, _, t3⟩, ⟨_, _, t4⟩, _, _⟩ := open_msg hv h
  obtain ⟨qs, hq⟩ := open_questions t1
  obtain ⟨l1, h1, b1⟩ := open_records t2
  obtain ⟨l2, h2, b2⟩ := open_records t3
  obtain ⟨l3, h3, b3⟩ := open_records t4
  refine ⟨⟨id, rs, op, aa, tc, rd, ra, ad, cd, rc⟩, ⟨⟨a1, n1, k1⟩, ⟨a2, n2, k2⟩, ⟨a3, n3, k3⟩, ⟨a4, n4, k4⟩⟩, ⟨⟨id, rs, op, aa, tc, rd, ra, ad, cd, rc⟩, qs, l1, l2, l3⟩, rfl, rfl, hq, h1, h2, h3, hid, fun q hq' => ?_, b1, b2, b3⟩
  obtain ⟨i, hi, rfl⟩ := List.getElem_of_mem hq'
  obtain ⟨_, _, _, _, y, _, _, _, ok⟩ := hq.at i hi
  exact ⟨Nat.le_of_lt_succ ok.bt, Nat.le_of_lt_succ ok.bc⟩
end Go.Proofs.YtkjnbgekaifdfaaGreat
namespace Go.Proofs.YtkjnbgekaifdfaaGreat
open Go.ChangeShapes Go.WideShapes Go.ChangeAt Go.RowKit Go.Maps
set_option linter.unusedVariables false
set_option linter.unusedSimpArgs false
theorem cellsR_len : ∀ ps : List (RA × Rec), (cellsR ps).length = ps.length * 8
  | [] => rfl
  | p :: l => by
    have := cellsR_len l
    simp only [cellsR, List.flatMap_cons, List.length_append] at this ⊢
    rw [this]; simp [recCells]; omega
theorem cellsR_oneE (ps : List (RA × Rec)) : ∀ u ∈ cellsR ps, u.oneCell' = true := by
  intro u hu
  simp only [cellsR, List.mem_flatMap] at hu
  obtain ⟨p, _, hu⟩ := hu
  simp [recCells] at hu
  rcases hu with rfl | rfl | rfl | rfl | rfl | rfl | rfl | rfl <;> rfl
/-- Where the records of a list lie. -/
theorem lrd_parts {w : World} {s : Sl} {rs : List Rec} (h : LRd w s rs) : ∃ ps : List (RA × Rec), ps.map (·.2) = rs ∧ ps.length = s.n ∧ (∀ W, Below w.heap.size w W → ∀ ad, s.a = some ad → ∀ j u, (cellsR ps)[j]? = some u → W.cell? (ad.add j) = some u) ∧ (∀ p ∈ ps, RRd w p.1 p.2) ∧ (s.a = none → s.n = 0) := by
  have hnil : s.a = none → s.n = 0 := fun e => by have := h.nil e; have := h.cap.1; omega
  rcases h.rd with e | ⟨b, o, ha, hb, hc⟩
  · subst e
    exact ⟨[], rfl, h.len, fun W _ ad _ j u hu => (by simp [cellsR] at hu), fun p hp => (by cases hp), hnil⟩
  · have hex : ∀ i, i < rs.length → ∃ p : RA × Rec, some p.2 = rs[i]? ∧ (∀ j, j < 8 → w.cell? ⟨b, o + i * 8 + j, none⟩ = (recCells p.1 p.2)[j]?) ∧ RRd w p.1 p.2 := by
      intro i hi
      obtain ⟨x, e3, e4⟩ := hc i hi
      exact ⟨(x, rs[i]), by simp [hi], e3, e4⟩
    obtain ⟨ps, hl, hps⟩ := list_of rs.length _ hex
    have hm : ps.map (·.2) = rs := by
      refine List.ext_getElem (by simp [hl]) fun i h1 h2 => ?_
      rw [List.getElem_map]
      have := (hps i (by omega)).1
      rw [List.getElem?_eq_getElem h2] at this
      exact Option.some.inj this
    refine ⟨ps, hm, hl.trans h.len, fun W hW ad had j u hu => ?_, fun p hp => ?_, hnil⟩
    · rw [ha] at had
      injection had with had
      subst had
      have ad : (⟨b, o, none⟩ : Addr).add j = ⟨b, o + j, none⟩ := by unfold Addr.add; split <;> simp_all
      rw [ad]
      have hj : j < ps.length * 8 := by rw [← cellsR_len]; exact (List.getElem?_eq_some_iff.1 hu).1
      have hi : j / 8 < ps.length := by omega
      have e1 := cellsR_at ps (j / 8) hi (j % 8) (by omega)
      rw [show j / 8 * 8 + j % 8 = j by omega] at e1
      rw [e1] at hu
      have := (hps (j / 8) (by omega)).2.1 (j % 8) (by omega)
      rw [show o + j / 8 * 8 + j % 8 = o + j by omega, hu] at this
      exact (hW.cell (p := ⟨b, o + j, none⟩) hb).trans this
    · obtain ⟨i, hi, rfl⟩ := List.getElem_of_mem hp
      exact (hps i (by omega)).2.2
theorem row_lrd {B n c : Nat} {a : Option Addr} {w : World} {ps : List (RA × Rec)} (h : w.ownsRow B 62 8 (.slice a n c) n (cellsR ps)) (hn : ps.length = n) (hr : ∀ p ∈ ps, RRd w p.1 p.2) : LRd w ⟨a, n, c⟩ (ps.map (·.2)) := by
  rcases h.2 with ⟨e, h0⟩ | ⟨g, cap, cur, e, hb, hg, k1, k2, k3, k4⟩
  · simp only [Value.slice.injEq] at e
    obtain ⟨rfl, rfl, rfl⟩ := e
    have : ps = [] := List.length_eq_zero_iff.1 hn
    subst this
    exact lrd_nil w
  · simp only [Value.slice.injEq] at e
    obtain ⟨rfl, -, rfl⟩ := e
    refine ⟨.inr ⟨g, 0, rfl, (Array.getElem?_eq_some_iff.1 hg).1, fun i hi => ?_⟩, by simp [hn], ⟨k1, by simpa only [maxLen] using k2⟩, by simp⟩
    have hi' : i < ps.length := by simpa using hi
    have ad : ∀ j, (⟨g, 0, none⟩ : Addr).add j = ⟨g, 0 + j, none⟩ := fun j => by unfold Addr.add; split <;> simp_all
    have hgi : (ps.map (·.2))[i] = ps[i].2 := by simp
    rw [hgi]
    refine ⟨ps[i].1, fun j hj => ?_, hr _ (List.getElem_mem _)⟩
    have e2 := cellsR_at ps i hi' j hj
    have hlt : j < (recCells ps[i].1 ps[i].2).length := hj
    rw [List.getElem?_eq_getElem hlt] at e2 ⊢
    have := h.cells (g := g) rfl _ _ e2
    rw [ad] at this
    rw [Nat.add_assoc]; exact this
/-- An append of records, whether there are any or not: what it comes toq. -/
theorem run_appR (w : World) (ty : TypeId) (B : Nat) (av : Option Addr) (n cv : Nat) (xs : List Value) (hown : w.ownsRow B 62 8 (.slice av n cv) n xs)
    (ao : Option Addr) (m c : Nat) (news : List Value) (hl : news.length = m * 8) (hsrc : ∀ ad, ao = some ad → ∀ j u, news[j]? = some u → w.cell? (ad.add j) = some u) (hnil : ao = none → m = 0) (h1 : ∀ u ∈ news, u.oneCell' = true) (hb : n + m ≤ 10000000) (hB : B ≤ w.heap.size) :
    ∃ a' c' w', (Builtin.append_ #[24, 24] ty #[.slice av n cv, .slice ao m c]).run Tryz.prog w = .ok (.slice a' (n + m) c') w' ∧ w'.ownsRow B 62 8 (.slice a' (n + m) c') (n + m) (xs ++ news) ∧ w.grownBy w' (Value.slice av n cv).ownBlock := by
  obtain ⟨i, hi, hz0, hz1, hz2⟩ := inf61
  by_cases hm : m = 0
  · subst hm
    have hn0 : news = [] := List.eq_nil_of_length_eq_zero (by omega)
    subst hn0
    have hle : n ≤ cv := by
      rcases hown.2 with ⟨e, h0⟩ | ⟨g, cap, cur, e, _, _, h3, _⟩
      · injection e; omega
      · injection e; omega
    have hS : Src Tryz.prog i.size 24 (.slice ao 0 c) 0 [] w := by
      cases ao with
      | none => exact Src.ofNil w Tryz.underlying24 c
      | some ad => exact Src.ofSlice w Tryz.underlying24 ad 0 c [] (by simp) (by simp) (by simp)
    have hrun := run_append_nothing (P := Tryz.prog) w 24 24 ty 62 i Tryz.underlying24 hi av n cv hle (.slice ao 0 c) hS
    exact ⟨av, cv, w, hrun, by simpa using hown, World.grownBy.refl _ _⟩
  · cases ao with
    | none => exact absurd (hnil rfl) hm
    | some ad =>
      obtain ⟨g, cap, w', hr, h2, h3, _, _⟩ := run_append_lies (P := Tryz.prog) w 24 ty B 62 i _ 8 128 Tryz.underlying24 hi hz0 hz1 hz2 rfl (by omega) _ n xs hown ad m c news hl (hsrc ad rfl) h1 (by omega) (by simp only [maxLen]; omega) (by omega) hB _ rfl
      exact ⟨_, _, _, hr, h2, h3⟩
theorem wpList_appR {w : World} {ops : Array Oper} {rest : List Oper} {o : Oper} {a : Act} {Q : Exit → Act → World → Prop} (hgd : o.guard = none) (s x : Operand)
    (ho : o.op = .call { callee := .builtin .append, args := #[s, x], argTypes := #[24, 24] }) (B : Nat) (av : Option Addr) (n cv : Nat) (xs : List Value) (hs : a.eval s = .slice av n cv) (hown : w.ownsRow B 62 8 (.slice av n cv) n xs)
    (ao : Option Addr) (m c : Nat) (news : List Value) (hx : a.eval x = .slice ao m c) (hl : news.length = m * 8) (hsrc : ∀ ad, ao = some ad → ∀ j u, news[j]? = some u → w.cell? (ad.add j) = some u) (hnil : ao = none → m = 0) (h1 : ∀ u ∈ news, u.oneCell' = true) (hb : n + m ≤ 10000000) (hB : B ≤ w.heap.size) (N : Nat) (hN : n + m = N)
    (h : ∀ a' c' w', Hid (w'.ownsRow B 62 8 (.slice a' N c') N (xs ++ news)) → Hid (w.grownBy w' (Value.slice av n cv).ownBlock) → wpList Tryz.prog ops Q rest (a.put o.dst (.slice a' N c')) w') : wpList Tryz.prog ops Q (o :: rest) a w := by
  refine wpList_plain hgd fun K hK => ?_
  obtain ⟨a', c', w', hrun, h2, h3⟩ := run_appR w o.type B av n cv xs hown ao m c news hl hsrc hnil h1 hb hB
  subst hN
  unfold Oper.wp execOp
  simp only [ho, resolve, invoke, builtin, Sem.run_bind, Sem.run_pure, Result.andThen_ok, List.map_toArray, List.map_cons, List.map_nil, hs, hx, hrun]
  exact hK _ _ (h a' c' w' h2 h3)
theorem step_appR {ops : Array Oper} {o : Oper} {a : Act} {w : World} {K : Act → World → Prop} {Q : Exit → Act → World → Prop} {E : Prop} (hgd : o.guard = none) (s x : Operand)
    (ho : o.op = .call { callee := .builtin .append, args := #[s, x], argTypes := #[24, 24] }) (B : Nat) (av : Option Addr) (n cv : Nat) (xs : List Value) (hs : a.eval s = .slice av n cv) (hown : w.ownsRow B 62 8 (.slice av n cv) n xs)
    (ao : Option Addr) (m c : Nat) (news : List Value) (hx : a.eval x = .slice ao m c) (hl : news.length = m * 8) (hsrc : ∀ ad, ao = some ad → ∀ j u, news[j]? = some u → w.cell? (ad.add j) = some u) (hnil : ao = none → m = 0) (h1 : ∀ u ∈ news, u.oneCell' = true) (hb : n + m ≤ 10000000) (hB : B ≤ w.heap.size) (N : Nat) (hN : n + m = N)
    (h : ∀ a' c' w', Hid (w'.ownsRow B 62 8 (.slice a' N c') N (xs ++ news)) → Hid (w.grownBy w' (Value.slice av n cv).ownBlock) → K (a.put o.dst (.slice a' N c')) w') :
    if Region.wanted o (yielded ops a.tmps) = true then Oper.wp Tryz.prog o a w K Q else E := by
  obtain ⟨a', c', w', hrun, h2, h3⟩ := run_appR w o.type B av n cv xs hown ao m c news hl hsrc hnil h1 hb hB
  subst hN
  have hw : Region.wanted o (yielded ops a.tmps) = true := by simp [Region.wanted, hgd]
  rw [if_pos hw]
  unfold Oper.wp execOp
  simp only [ho, resolve, invoke, builtin, Sem.run_bind, Sem.run_pure, Result.andThen_ok, List.map_toArray, List.map_cons, List.map_nil, hs, hx, hrun]
  exact h a' c' w' h2 h3
end Go.Proofs.YtkjnbgekaifdfaaGreat
namespace Go.Proofs.YtkjnbgekaifdfaaGreat
open Go.ChangeShapes Go.WideShapes Go.ChangeAt Go.RowKit
set_option linter.unusedVariables false
set_option linter.unusedSimpArgs false
/-- A list whose row is as it was. -/
theorem row_same {B : Nat} {e : TypeId} {size n : Nat} {xs : List Value} {v : Value} {w w' : World} (h : w.ownsRow B e size v n xs) (hb : ∀ g, v.ownBlock = some g → w'.heap[g]? = w.heap[g]?) : w'.ownsRow B e size v n xs := by
  refine ⟨h.1, ?_⟩
  rcases h.2 with h0 | ⟨g, cap, cur, rfl, hbb, hg, k⟩
  · exact .inl h0
  · exact .inr ⟨g, cap, cur, rfl, hbb, (hb g rfl).trans hg, k⟩
theorem rec_is_nil (a : Option Addr) (n c : Nat) (w : World) : (binOp .eql 24 (.slice a n c) (.slice none 0 0)).run Tryz.prog w = .ok (.bool a.isNone) w := Lib.run_eql_slice_nil w _ _ _ _ _ _ _ Tryz.underlying24
theorem qn_is_nil (a : Option Addr) (n c : Nat) (w : World) : (binOp .eql 23 (.slice a n c) (.slice none 0 0)).run Tryz.prog w = .ok (.bool a.isNone) w := Lib.run_eql_slice_nil w _ _ _ _ _ _ _ Tryz.underlying23
/-- A clone of records: a row of one's own, its records those that were there. -/
def ClR (w0 w w' : World) (s : Sl) (rs : List Rec) : Prop := ∃ ps : List (RA × Rec), ps.map (·.2) = rs ∧ ps.length = s.n ∧ w'.ownsRow w.heap.size 62 8 (.slice s.a s.n s.c) s.n (cellsR ps) ∧ (∀ p ∈ ps, RRd w0 p.1 p.2) ∧ Below w.heap.size w w'
def ClQ (w0 w w' : World) (s : Sl) (rs : List Qn) : Prop := ∃ ps : List (Sl × Qn), ps.map (·.2) = rs ∧ ps.length = s.n ∧ w'.ownsRow w.heap.size 55 3 (.slice s.a s.n s.c) s.n (cellsQ ps) ∧ (∀ p ∈ ps, QRd w0 p.1 p.2) ∧ Below w.heap.size w w'
set_option maxRecDepth 100000 in
set_option maxHeartbeats 1000000 in
theorem clone65 (s : Sl) (rs : List Rec) (w0 w : World) (h : LRd w0 s rs) (hb0 : Below w0.heap.size w0 w) (hn : s.n ≤ 1000000) : Calls Tryz.prog 65 #[(.slice s.a s.n s.c)] w fun e w' => ∃ t : Sl, e = .returned (.slice t.a t.n t.c) ∧ Hid (t.n = s.n ∧ ClR w0 w w' t rs) := by
  obtain ⟨ps, p1, p2, p3, p4, p5⟩ := lrd_parts h
  have hcap := h.cap
  have hnl := h.nil
  clear h
  obtain ⟨sa, n, sc⟩ := s
  simp only at *
  cases sa with
  | none =>
    have hn0 : n = 0 := p5 rfl
    have hc0 : sc = 0 := hnl rfl
    subst hn0
    subst hc0
    have : ps = [] := List.length_eq_zero_iff.1 p2
    subst this
    have h := rec_is_nil none 0 0 w
    go_enter Tryz.func65, Tryz.ntmps65
    go_wp2
    go_ret
    exact ⟨⟨none, 0, 0⟩, rfl, rfl, [], p1, rfl, ⟨rfl, .inl ⟨rfl, rfl⟩⟩, fun p hp => (by cases hp), Below.refl _ _⟩
  | some ad =>
    have h := rec_is_nil (some ad) n sc w
    have nb := newF_below w (.cells #[] 62)
    have HNB : Hid (Below w.heap.size w (w.alloc (.cells #[] 62))) := nb
    have HOW : Hid ((w.alloc (.cells #[] 62)).ownsRow w.heap.size 62 8 (.slice (some ⟨w.heap.size, 0, none⟩) 0 0) 0 []) := ⟨rfl, .inr ⟨w.heap.size, 0, #[], rfl, Nat.le_refl _, heap_alloc_new _ _, Nat.le_refl _, by simp [maxLen], rfl, rfl⟩⟩
    have HC : Hid (∀ a, some ad = some a → ∀ j u, (cellsR ps)[j]? = some u → (w.alloc (.cells #[] 62)).cell? (a.add j) = some u) := p3 _ (hb0.trans (nb.mono hb0.size))
    have HL : Hid ((cellsR ps).length = n * 8) := (show _ = _ by rw [cellsR_len, p2])
    have HONE := Lib.hid (cellsR_oneE ps)
    have HSZ : Hid (w.heap.size ≤ (w.alloc (.cells #[] 62)).heap.size) := nb.size
    have HP := Lib.hid p4
    have HPL := Lib.hid p2
    clear p2 p3 p4 p5 nb hnl hb0
    go_enter Tryz.func65, Tryz.ntmps65
    go_wp2_with (at_builtin; refine wpList_appR rfl _ _ rfl w.heap.size (some ⟨w.heap.size, 0, none⟩) 0 0 [] rfl HOW.out (some ad) n sc (cellsR ps) rfl HL.out HC.out (fun e => by cases e) HONE.out (by omega) HSZ.out n (Nat.zero_add n) ?_; intro x3 y3 w3 h9 h10; have H9 := Lib.hid h9.out; have H10 := Lib.hid h10.out; clear h9 h10)
    go_ret
    have hb3 : Below w.heap.size w w3 := HNB.out.grown H10.out HNB.out.size (fun k e => by have := Option.some.inj e; simp only at this; omega)
    exact ⟨⟨x3, n, y3⟩, rfl, rfl, ps, p1, HPL.out, by simpa using H9.out, HP.out, hb3⟩
theorem cellsQ_len : ∀ ps : List (Sl × Qn), (cellsQ ps).length = ps.length * 3
  | [] => rfl
  | p :: l => by have := cellsQ_len l; simp only [cellsQ, List.flatMap_cons, List.length_append] at this ⊢; rw [this]; simp [qCells]; omega
theorem qrd_parts {w : World} {s : Sl} {rs : List Qn} (h : QsRd w s rs) : ∃ ps : List (Sl × Qn), ps.map (·.2) = rs ∧ ps.length = s.n ∧ (∀ W, Below w.heap.size w W → ∀ ad, s.a = some ad → ∀ j u, (cellsQ ps)[j]? = some u → W.cell? (ad.add j) = some u) ∧ (∀ p ∈ ps, QRd w p.1 p.2) ∧ (s.a = none → s.n = 0) := by
  have hnil : s.a = none → s.n = 0 := fun e => by have := h.nil e; have := h.cap.1; omega
  rcases h.rd with e | ⟨b, o, ha, hb, hc⟩
  · subst e
    exact ⟨[], rfl, h.len, fun W _ ad _ j u hu => (by simp [cellsQ] at hu), fun p hp => (by cases hp), hnil⟩
  · have hex : ∀ i, i < rs.length → ∃ p : Sl × Qn, some p.2 = rs[i]? ∧ (∀ j, j < 3 → w.cell? ⟨b, o + i * 3 + j, none⟩ = (qCells p.1 p.2)[j]?) ∧ QRd w p.1 p.2 := by
      intro i hi
      obtain ⟨x, e1, e2, e3, e4⟩ := hc i hi
      refine ⟨(x.s, rs[i]), by simp [hi], fun j hj => ?_, e4.rd⟩
      rw [e4.ty] at e2
      rw [e4.cl] at e3
      have : j = 0 ∨ j = 1 ∨ j = 2 := by omega
      rcases this with rfl | rfl | rfl
      · exact e1
      · exact e2
      · exact e3
    obtain ⟨ps, hl, hps⟩ := list_of rs.length _ hex
    have hm : ps.map (·.2) = rs := by
      refine List.ext_getElem (by simp [hl]) fun i h1 h2 => ?_
      rw [List.getElem_map]
      have := (hps i (by omega)).1
      rw [List.getElem?_eq_getElem h2] at this
      exact Option.some.inj this
    refine ⟨ps, hm, hl.trans h.len, fun W hW ad had j u hu => ?_, fun p hp => ?_, hnil⟩
    · rw [ha] at had
      injection had with had
      subst had
      have ad : (⟨b, o, none⟩ : Addr).add j = ⟨b, o + j, none⟩ := by unfold Addr.add; split <;> simp_all
      rw [ad]
      have hj : j < ps.length * 3 := by rw [← cellsQ_len]; exact (List.getElem?_eq_some_iff.1 hu).1
      have hi : j / 3 < ps.length := by omega
      have e1 := cellsQ_at ps (j / 3) hi (j % 3) (by omega)
      rw [show j / 3 * 3 + j % 3 = j by omega] at e1
      rw [e1] at hu
      have := (hps (j / 3) (by omega)).2.1 (j % 3) (by omega)
      rw [show o + j / 3 * 3 + j % 3 = o + j by omega, hu] at this
      exact (hW.cell (p := ⟨b, o + j, none⟩) hb).trans this
    · obtain ⟨i, hi, rfl⟩ := List.getElem_of_mem hp
      exact (hps i (by omega)).2.2
theorem run_appQ (w : World) (ty : TypeId) (B : Nat) (av : Option Addr) (n cv : Nat) (xs : List Value) (hown : w.ownsRow B 55 3 (.slice av n cv) n xs)
    (ao : Option Addr) (m c : Nat) (news : List Value) (hl : news.length = m * 3) (hsrc : ∀ ad, ao = some ad → ∀ j u, news[j]? = some u → w.cell? (ad.add j) = some u) (hnil : ao = none → m = 0) (h1 : ∀ u ∈ news, u.oneCell' = true) (hb : n + m ≤ 10000000) (hB : B ≤ w.heap.size) :
    ∃ a' c' w', (Builtin.append_ #[23, 23] ty #[.slice av n cv, .slice ao m c]).run Tryz.prog w = .ok (.slice a' (n + m) c') w' ∧ w'.ownsRow B 55 3 (.slice a' (n + m) c') (n + m) (xs ++ news) ∧ w.grownBy w' (Value.slice av n cv).ownBlock := by
  obtain ⟨i, hi, hz0, hz1, hz2⟩ := inf64
  by_cases hm : m = 0
  · subst hm
    have hn0 : news = [] := List.eq_nil_of_length_eq_zero (by omega)
    subst hn0
    have hle : n ≤ cv := by
      rcases hown.2 with ⟨e, h0⟩ | ⟨g, cap, cur, e, _, _, h3, _⟩
      · injection e; omega
      · injection e; omega
    have hS : Src Tryz.prog i.size 23 (.slice ao 0 c) 0 [] w := by
      cases ao with
      | none => exact Src.ofNil w Tryz.underlying23 c
      | some ad => exact Src.ofSlice w Tryz.underlying23 ad 0 c [] (by simp) (by simp) (by simp)
    have hrun := run_append_nothing (P := Tryz.prog) w 23 23 ty 55 i Tryz.underlying23 hi av n cv hle (.slice ao 0 c) hS
    exact ⟨av, cv, w, hrun, by simpa using hown, World.grownBy.refl _ _⟩
  · cases ao with
    | none => exact absurd (hnil rfl) hm
    | some ad =>
      obtain ⟨g, cap, w', hr, h2, h3, _, _⟩ := run_append_lies (P := Tryz.prog) w 23 ty B 55 i _ 3 32 Tryz.underlying23 hi hz0 hz1 hz2 rfl (by omega) _ n xs hown ad m c news hl (hsrc ad rfl) h1 (by omega) (by simp only [maxLen]; omega) (by omega) hB _ rfl
      exact ⟨_, _, _, hr, h2, h3⟩
theorem wpList_appQ {w : World} {ops : Array Oper} {rest : List Oper} {o : Oper} {a : Act} {Q : Exit → Act → World → Prop} (hgd : o.guard = none) (s x : Operand)
    (ho : o.op = .call { callee := .builtin .append, args := #[s, x], argTypes := #[23, 23] }) (B : Nat) (av : Option Addr) (n cv : Nat) (xs : List Value) (hs : a.eval s = .slice av n cv) (hown : w.ownsRow B 55 3 (.slice av n cv) n xs)
    (ao : Option Addr) (m c : Nat) (news : List Value) (hx : a.eval x = .slice ao m c) (hl : news.length = m * 3) (hsrc : ∀ ad, ao = some ad → ∀ j u, news[j]? = some u → w.cell? (ad.add j) = some u) (hnil : ao = none → m = 0) (h1 : ∀ u ∈ news, u.oneCell' = true) (hb : n + m ≤ 10000000) (hB : B ≤ w.heap.size) (N : Nat) (hN : n + m = N)
    (h : ∀ a' c' w', Hid (w'.ownsRow B 55 3 (.slice a' N c') N (xs ++ news)) → Hid (w.grownBy w' (Value.slice av n cv).ownBlock) → wpList Tryz.prog ops Q rest (a.put o.dst (.slice a' N c')) w') : wpList Tryz.prog ops Q (o :: rest) a w := by
  refine wpList_plain hgd fun K hK => ?_
  obtain ⟨a', c', w', hrun, h2, h3⟩ := run_appQ w o.type B av n cv xs hown ao m c news hl hsrc hnil h1 hb hB
  subst hN
  unfold Oper.wp execOp
  simp only [ho, resolve, invoke, builtin, Sem.run_bind, Sem.run_pure, Result.andThen_ok, List.map_toArray, List.map_cons, List.map_nil, hs, hx, hrun]
  exact hK _ _ (h a' c' w' h2 h3)
set_option maxRecDepth 100000 in
set_option maxHeartbeats 1000000 in
theorem clone63 (s : Sl) (rs : List Qn) (w0 w : World) (h : QsRd w0 s rs) (hb0 : Below w0.heap.size w0 w) (hn : s.n ≤ 1000000) : Calls Tryz.prog 63 #[(.slice s.a s.n s.c)] w fun e w' => ∃ t : Sl, e = .returned (.slice t.a t.n t.c) ∧ Hid (t.n = s.n ∧ ClQ w0 w w' t rs) := by
  obtain ⟨ps, p1, p2, p3, p4, p5⟩ := qrd_parts h
  have hcap := h.cap
  have hnl := h.nil
  clear h
  obtain ⟨sa, n, sc⟩ := s
  simp only at *
  cases sa with
  | none =>
    have hn0 : n = 0 := p5 rfl
    have hc0 : sc = 0 := hnl rfl
    subst hn0
    subst hc0
    have : ps = [] := List.length_eq_zero_iff.1 p2
    subst this
    have h := qn_is_nil none 0 0 w
    go_enter Tryz.func63, Tryz.ntmps63
    go_wp2
    go_ret
    exact ⟨⟨none, 0, 0⟩, rfl, rfl, [], p1, rfl, ⟨rfl, .inl ⟨rfl, rfl⟩⟩, fun p hp => (by cases hp), Below.refl _ _⟩
  | some ad =>
    have h := qn_is_nil (some ad) n sc w
    have nb := newF_below w (.cells #[] 55)
    have HNB : Hid (Below w.heap.size w (w.alloc (.cells #[] 55))) := nb
    have HOW : Hid ((w.alloc (.cells #[] 55)).ownsRow w.heap.size 55 3 (.slice (some ⟨w.heap.size, 0, none⟩) 0 0) 0 []) := ⟨rfl, .inr ⟨w.heap.size, 0, #[], rfl, Nat.le_refl _, heap_alloc_new _ _, Nat.le_refl _, by simp [maxLen], rfl, rfl⟩⟩
    have HC : Hid (∀ a, some ad = some a → ∀ j u, (cellsQ ps)[j]? = some u → (w.alloc (.cells #[] 55)).cell? (a.add j) = some u) := p3 _ (hb0.trans (nb.mono hb0.size))
    have HL : Hid ((cellsQ ps).length = n * 3) := (show _ = _ by rw [cellsQ_len, p2])
    have HONE := Lib.hid (cellsQ_one ps)
    have HSZ : Hid (w.heap.size ≤ (w.alloc (.cells #[] 55)).heap.size) := nb.size
    have HP := Lib.hid p4
    have HPL := Lib.hid p2
    clear p2 p3 p4 p5 nb hnl hb0
    go_enter Tryz.func63, Tryz.ntmps63
    go_wp2_with (at_builtin; refine wpList_appQ rfl _ _ rfl w.heap.size (some ⟨w.heap.size, 0, none⟩) 0 0 [] rfl HOW.out (some ad) n sc (cellsQ ps) rfl HL.out HC.out (fun e => by cases e) HONE.out (by omega) HSZ.out n (Nat.zero_add n) ?_; intro x3 y3 w3 h9 h10; have H9 := Lib.hid h9.out; have H10 := Lib.hid h10.out; clear h9 h10)
    go_ret
    have hb3 : Below w.heap.size w w3 := HNB.out.grown H10.out HNB.out.size (fun k e => by have := Option.some.inj e; simp only at this; omega)
    exact ⟨⟨x3, n, y3⟩, rfl, rfl, ps, p1, HPL.out, by simpa using H9.out, HP.out, hb3⟩
end Go.Proofs.YtkjnbgekaifdfaaGreat
