/- Texts laid together, in parts: Na. -/
import Derived.Test.YtgeoadkcmbageaaWkd
import Derived.Test.YtgeoadkcmbageaaRows
import Derived.Deep.CutBlock
namespace Go.Proofs.Ytgeoadkcmbageaa
open Go.ChangeShapes Go.WideShapes Go.ChangeAt Go.RowKit Go.Maps
set_option linter.unusedVariables false
set_option linter.unusedSimpArgs false
set_option maxRecDepth 100000
theorem recEx : recE ⟨4096, 0, 1, false, [⟨10, [1, 2]⟩]⟩ = ⟨[], 41, 4096, 65536, ⟨[], [], [], [0, 10, 0, 2, 1, 2]⟩⟩ := rfl
theorem one_opt (w : World) : OsRd ((w.alloc (.cells #[.int .u8 1, .int .u8 2] 5)).alloc (.cells #[.int .u16 10, .slice (some ⟨w.heap.size, 0, none⟩) 2 2] 68)) ⟨some ⟨w.heap.size + 1, 0, none⟩, 1, 1⟩ [⟨10, [1, 2]⟩] := by
  have hb : Blk (w.alloc (.cells #[.int .u8 1, .int .u8 2] 5)) w.heap.size [1, 2] := ⟨heap_alloc_new _ _, by decide⟩
  have hb2 := hb.below (newE_below (w.alloc (.cells #[.int .u8 1, .int .u8 2] 5)) (.cells #[.int .u16 10, .slice (some ⟨w.heap.size, 0, none⟩) 2 2] 68))
  have hn := heap_alloc_new (w.alloc (.cells #[.int .u8 1, .int .u8 2] 5)) (.cells #[.int .u16 10, .slice (some ⟨w.heap.size, 0, none⟩) 2 2] 68)
  rw [World.size_alloc] at hn
  refine ⟨.inr ⟨w.heap.size + 1, 0, rfl, by simp, fun i hi => ?_⟩, rfl, ⟨Nat.le_refl _, by show (1 : Nat) ≤ _; decide⟩, by simp, by decide⟩
  match i, hi with
  | 0, _ => exact ⟨⟨some ⟨w.heap.size, 0, none⟩, 2, 2⟩, cell_of_block hn rfl, cell_of_block (i := 1) hn rfl, hb2.brd rfl (by decide)⟩
theorem two_rec {oa a1 a2 a3 a4 : Option Addr} {oc k1 k2 k3 k4 : Nat} (w : World) (h : RRd w ⟨⟨oa, 0, oc⟩, ⟨⟨a1, 0, k1⟩, ⟨a2, 0, k2⟩, ⟨a3, 0, k3⟩, ⟨a4, 6, k4⟩⟩⟩ ⟨[], 41, 4096, 65536, ⟨[], [], [], [0, 10, 0, 2, 1, 2]⟩⟩) : LsRd (w.alloc (.cells #[.slice oa 0 oc, .int .u16 41, .int .u16 4096, .int .u32 65536, .slice a1 0 k1, .slice a2 0 k2, .slice a3 0 k3, .slice a4 6 k4, .slice oa 0 oc, .int .u16 41, .int .u16 4096, .int .u32 65536, .slice a1 0 k1, .slice a2 0 k2, .slice a3 0 k3, .slice a4 6 k4] 37)) ⟨some ⟨w.heap.size, 0, none⟩, 2, 2⟩ [⟨[], 41, 4096, 65536, ⟨[], [], [], [0, 10, 0, 2, 1, 2]⟩⟩, ⟨[], 41, 4096, 65536, ⟨[], [], [], [0, 10, 0, 2, 1, 2]⟩⟩] := by
  have hn := heap_alloc_new w (.cells #[.slice oa 0 oc, .int .u16 41, .int .u16 4096, .int .u32 65536, .slice a1 0 k1, .slice a2 0 k2, .slice a3 0 k3, .slice a4 6 k4, .slice oa 0 oc, .int .u16 41, .int .u16 4096, .int .u32 65536, .slice a1 0 k1, .slice a2 0 k2, .slice a3 0 k3, .slice a4 6 k4] 37)
  have hR := h.below (newE_below w (.cells #[.slice oa 0 oc, .int .u16 41, .int .u16 4096, .int .u32 65536, .slice a1 0 k1, .slice a2 0 k2, .slice a3 0 k3, .slice a4 6 k4, .slice oa 0 oc, .int .u16 41, .int .u16 4096, .int .u32 65536, .slice a1 0 k1, .slice a2 0 k2, .slice a3 0 k3, .slice a4 6 k4] 37))
  refine ⟨.inr ⟨w.heap.size, 0, rfl, by simp, fun i hi => ⟨⟨⟨oa, 0, oc⟩, ⟨⟨a1, 0, k1⟩, ⟨a2, 0, k2⟩, ⟨a3, 0, k3⟩, ⟨a4, 6, k4⟩⟩⟩, fun j hj => ?_, ?_⟩⟩, rfl, ⟨Nat.le_refl _, by show (2 : Nat) ≤ _; decide⟩, by simp⟩
  · match i, hi, j, hj with
    | 0, _, 0, _ => exact cell_of_block (i := 0) hn rfl
    | 0, _, 1, _ => exact cell_of_block (i := 1) hn rfl
    | 0, _, 2, _ => exact cell_of_block (i := 2) hn rfl
    | 0, _, 3, _ => exact cell_of_block (i := 3) hn rfl
    | 0, _, 4, _ => exact cell_of_block (i := 4) hn rfl
    | 0, _, 5, _ => exact cell_of_block (i := 5) hn rfl
    | 0, _, 6, _ => exact cell_of_block (i := 6) hn rfl
    | 0, _, 7, _ => exact cell_of_block (i := 7) hn rfl
    | 1, _, 0, _ => exact cell_of_block (i := 8) hn rfl
    | 1, _, 1, _ => exact cell_of_block (i := 9) hn rfl
    | 1, _, 2, _ => exact cell_of_block (i := 10) hn rfl
    | 1, _, 3, _ => exact cell_of_block (i := 11) hn rfl
    | 1, _, 4, _ => exact cell_of_block (i := 12) hn rfl
    | 1, _, 5, _ => exact cell_of_block (i := 13) hn rfl
    | 1, _, 6, _ => exact cell_of_block (i := 14) hn rfl
    | 1, _, 7, _ => exact cell_of_block (i := 15) hn rfl
  · match i, hi with
    | 0, _ => exact hR
    | 1, _ => exact hR
set_option maxHeartbeats 8000000 in
theorem knownL (w : World) : Calls Try.prog 7 #[] w fun e w' => e = .returned (.bool true) ∧ Below w.heap.size w w' := by
  obtain ⟨V, hV⟩ : ∃ V, V = (w.alloc (.cells #[.int .u8 1, .int .u8 2] 5)).alloc (.cells #[.int .u16 10, .slice (some ⟨w.heap.size, 0, none⟩) 2 2] 68) := ⟨_, rfl⟩
  have hwV : Below w.heap.size w V := by rw [hV]; exact ((Below.refl _ w).alloc (Nat.le_refl _) _).alloc (by simp) _
  have K1 := Lib.hid (record11_yes ⟨4096, 0, 1, false, [⟨10, [1, 2]⟩]⟩ ⟨some ⟨w.heap.size + 1, 0, none⟩, 1, 1⟩ V (by rw [hV]; exact one_opt w) (by decide) (by decide))
  go_enter Try.func7, Try.ntmps7
  go_wp2_with fail
  rw [← hV]
  clear hV
  refine K1.out.mono ?_
  rintro e w1 ⟨x, rfl, H1⟩
  rw [recEx] at *
  obtain ⟨⟨oa, on, oc⟩, ⟨⟨a1, n1, k1⟩, ⟨a2, n2, k2⟩, ⟨a3, n3, k3⟩, ⟨a4, n4, k4⟩⟩⟩ := x
  obtain rfl : 0 = on := H1.out.1.1.len
  obtain rfl : 0 = n1 := H1.out.1.2.h1.len
  obtain rfl : 0 = n2 := H1.out.1.2.h2.len
  obtain rfl : 0 = n3 := H1.out.1.2.h3.len
  obtain rfl : 6 = n4 := H1.out.1.2.h4.len
  simp only [recCells]
  have hw1 : Below w.heap.size w w1 := hwV.trans (H1.out.2.mono hwV.size)
  have HR : Hid (RRd w1 ⟨⟨oa, 0, oc⟩, ⟨⟨a1, 0, k1⟩, ⟨a2, 0, k2⟩, ⟨a3, 0, k3⟩, ⟨a4, 6, k4⟩⟩⟩ ⟨[], 41, 4096, 65536, ⟨[], [], [], [0, 10, 0, 2, 1, 2]⟩⟩) := H1.out.1
  have hnew := newE_below w1 (.cells #[.slice oa 0 oc, .int .u16 41, .int .u16 4096, .int .u32 65536, .slice a1 0 k1, .slice a2 0 k2, .slice a3 0 k3, .slice a4 6 k4] 37)
  have hbx := heap_alloc_new w1 (.cells #[.slice oa 0 oc, .int .u16 41, .int .u16 4096, .int .u32 65536, .slice a1 0 k1, .slice a2 0 k2, .slice a3 0 k3, .slice a4 6 k4] 37)
  obtain ⟨W1, hW1⟩ : ∃ W, W = w1.alloc (.cells #[.slice oa 0 oc, .int .u16 41, .int .u16 4096, .int .u32 65536, .slice a1 0 k1, .slice a2 0 k2, .slice a3 0 k3, .slice a4 6 k4] 37) := ⟨_, rfl⟩
  clear H1 K1
  rw [← hW1] at hnew hbx
  have hn2 := newE_below W1 (.cells #[.int .u8 0, .int .u8 10, .int .u8 0, .int .u8 2, .int .u8 1, .int .u8 2] 5)
  have hb6 : Blk (W1.alloc (.cells #[.int .u8 0, .int .u8 10, .int .u8 0, .int .u8 2, .int .u8 1, .int .u8 2] 5)) W1.heap.size [0, 10, 0, 2, 1, 2] := ⟨heap_alloc_new _ _, by decide⟩
  have hs1 : W1.heap.size = w1.heap.size + 1 := by rw [hW1]; simp
  have hr6 : BRd (W1.alloc (.cells #[.int .u8 0, .int .u8 10, .int .u8 0, .int .u8 2, .int .u8 1, .int .u8 2] 5)) ⟨a4, 6, k4⟩ [0, 10, 0, 2, 1, 2] := HR.out.2.h4.below (hnew.trans (hn2.mono (by omega)))
  have K2 := Lib.hid (same_yes a4 (some ⟨W1.heap.size, 0, none⟩) 6 k4 6 [0, 10, 0, 2, 1, 2] (W1.alloc (.cells #[.int .u8 0, .int .u8 10, .int .u8 0, .int .u8 2, .int .u8 1, .int .u8 2] 5)) hr6.rd (by have := hb6.rd 6; exact this) rfl)
  rw [hs1] at K2
  obtain ⟨W2, hW2⟩ : ∃ W, W = W1.alloc (.cells #[.int .u8 0, .int .u8 10, .int .u8 0, .int .u8 2, .int .u8 1, .int .u8 2] 5) := ⟨_, rfl⟩
  rw [← hW2] at K2 hn2
  have hb12 : Below w1.heap.size w1 W2 := hnew.trans (hn2.mono (by omega))
  have hbx2 : W2.heap[w1.heap.size]? = some (.cells #[.slice oa 0 oc, .int .u16 41, .int .u16 4096, .int .u32 65536, .slice a1 0 k1, .slice a2 0 k2, .slice a3 0 k3, .slice a4 6 k4] 37) := (hn2.block _ (by omega)).trans hbx
  have q2_0 := cell_of_block (i := 0) hbx2 rfl
  have q2_1 := cell_of_block (i := 1) hbx2 rfl
  have q2_2 := cell_of_block (i := 2) hbx2 rfl
  have q2_3 := cell_of_block (i := 3) hbx2 rfl
  have q2_4 := cell_of_block (i := 4) hbx2 rfl
  have q2_5 := cell_of_block (i := 5) hbx2 rfl
  have q2_6 := cell_of_block (i := 6) hbx2 rfl
  have q2_7 := cell_of_block (i := 7) hbx2 rfl
  go_wp2_with fail
  rw [← hW1, ← hW2]
  refine K2.out.mono ?_
  rintro e w3 ⟨rfl, h3⟩
  rw [h3]
  clear h3 w3
  go_upto_region 4 with fail
  rw [← hW1, ← hW2]
  have KC := Lib.hid (copyK ⟨⟨oa, 0, oc⟩, ⟨⟨a1, 0, k1⟩, ⟨a2, 0, k2⟩, ⟨a3, 0, k3⟩, ⟨a4, 6, k4⟩⟩⟩ W2 (HR.out.below hb12))
  have HR2 : Hid (RRd W2 ⟨⟨oa, 0, oc⟩, ⟨⟨a1, 0, k1⟩, ⟨a2, 0, k2⟩, ⟨a3, 0, k3⟩, ⟨a4, 6, k4⟩⟩⟩ ⟨[], 41, 4096, 65536, ⟨[], [], [], [0, 10, 0, 2, 1, 2]⟩⟩) := HR.out.below hb12
  have HW2 : Hid (Below w.heap.size w W2) := hw1.trans (hb12.mono hw1.size)
  have HBX : Hid (W2.heap[w1.heap.size]? = some (.cells #[.slice oa 0 oc, .int .u16 41, .int .u16 4096, .int .u32 65536, .slice a1 0 k1, .slice a2 0 k2, .slice a3 0 k3, .slice a4 6 k4] 37)) := hbx2
  have hg0 := block_lt hbx2
  clear hW1 hW2 hnew hbx hn2 hb6 hs1 hr6 K2 hb12 hwV hw1 HR q2_0 q2_1 q2_2 q2_3 q2_4 q2_5 q2_6 q2_7
  refine region4 (oa := oa) (a1 := a1) (a2 := a2) (a3 := a3) (a4 := a4) (oc := oc) (k1 := k1) (k2 := k2) (k3 := k3) (k4 := k4) w1.heap.size (fun _ _ _ _ _ h => h) hbx2 KC ?_
  intro p q r xu0 xu1 xu2 xu3 xue0 xue1 xue2 xue3 xue4 g zs v0 v1 v2 v3 v4 ve0 ve1 ve2 ve3 ve4 t0 t1 t2 t3 t4 te0 te1 te2 te3 te4 W hpq hpr hqr hgp hgq hgr lp lq lr hp hq hr hg hbW
  clear KC hbx2
  generalize w1.heap.size = g0 at *
  clear w1 V
  have hg0p : g0 ≠ p := by omega
  have hg0q : g0 ≠ q := by omega
  have hg0r : g0 ≠ r := by omega
  have hg0g : g0 ≠ g := by have := hg.1; omega
  have HR3 : Hid (RRd W ⟨⟨oa, 0, oc⟩, ⟨⟨a1, 0, k1⟩, ⟨a2, 0, k2⟩, ⟨a3, 0, k3⟩, ⟨a4, 6, k4⟩⟩⟩ ⟨[], 41, 4096, 65536, ⟨[], [], [], [0, 10, 0, 2, 1, 2]⟩⟩) := HR2.out.below hbW
  have HBX3 : Hid (W.heap[g0]? = some (.cells #[.slice oa 0 oc, .int .u16 41, .int .u16 4096, .int .u32 65536, .slice a1 0 k1, .slice a2 0 k2, .slice a3 0 k3, .slice a4 6 k4] 37)) := (hbW.block _ hg0).trans HBX.out
  have HW3 : Hid (Below w.heap.size w W) := HW2.out.trans (hbW.mono HW2.out.size)
  have hLW : w.heap.size ≤ W2.heap.size := HW2.out.size
  have lpW := block_lt hp
  have lqW := block_lt hq
  have lrW := block_lt hr
  have lgW := hg.2.1.lt
  have l0W := block_lt HBX3.out
  -- region 5
  have zl : zs.length = xue4 := hg.2.2.2.1
  have zb : xue4 ≤ 9223372036854775807 := hg.2.2.2.2
  have z6 : 6 ≤ zs.length := by have := congrArg List.length hg.2.2.1; simp at this; omega
  have xg := hg.2.1.cell 3 (by omega)
  have xf := hg.2.1.frozen 3
  have xp7 := cell_of_block (i := 7) hp rfl
  have hgq' : ¬ q = g := fun e => hgq e.symm
  have hgr' : ¬ r = g := fun e => hgr e.symm
  have hgp' : ¬ p = g := fun e => hgp e.symm
  have hrq' : ¬ r = q := fun e => hqr e.symm
  have hx1 : ∀ (X : World) (j : Nat) (o : Obj), ¬ j = g → X.heap[j]? = some o → ((X.setCell ⟨g, 3, none⟩ (.int .u8 3)).alloc (.cells #[.string ⟨#[97]⟩] 9)).heap[j]? = some o := fun X j o hj h => by
    have h1 : (X.setCell ⟨g, 3, none⟩ (.int .u8 3)).heap[j]? = some o := (Below.heap_setCell _ _ _ _ hj).trans h
    exact ((newE_below _ _).block _ (block_lt h1)).trans h1
  have hqX := hx1 W q _ hgq' hq
  have hrX := hx1 W r _ hgr' hr
  have hpX := hx1 W p _ hgp' hp
  have xq0 := cell_of_block (i := 0) hqX rfl
  have xqf : ((W.setCell ⟨g, 3, none⟩ (.int .u8 3)).alloc (.cells #[.string ⟨#[97]⟩] 9)).frozen? ⟨q, 0, none⟩ = false := frozen_of_block hqX
  have hx2 : ∀ (X : World) (j : Nat) (o : Obj), ¬ j = g → ¬ j = q → X.heap[j]? = some o → (((X.setCell ⟨g, 3, none⟩ (.int .u8 3)).setCell ⟨q, 0, none⟩ (.slice (some ⟨W.heap.size, 0, none⟩) 1 1)).alloc (.cells #[.string ⟨#[97]⟩] 9)).heap[j]? = some o := fun X j o hj hk h => by
    have h1 : ((X.setCell ⟨g, 3, none⟩ (.int .u8 3)).setCell ⟨q, 0, none⟩ (.slice (some ⟨W.heap.size, 0, none⟩) 1 1)).heap[j]? = some o := (Below.heap_setCell _ _ _ _ hk).trans ((Below.heap_setCell _ _ _ _ hj).trans h)
    exact ((newE_below _ _).block _ (block_lt h1)).trans h1
  have hrY := hx2 W r _ hgr' hrq' hr
  have xr3 := cell_of_block (i := 3) hrY rfl
  have xrf : (((W.setCell ⟨g, 3, none⟩ (.int .u8 3)).setCell ⟨q, 0, none⟩ (.slice (some ⟨W.heap.size, 0, none⟩) 1 1)).alloc (.cells #[.string ⟨#[97]⟩] 9)).frozen? ⟨r, 3, none⟩ = false := frozen_of_block hrY
  -- the world behind
  obtain ⟨W5, hW5⟩ : ∃ X, X = (((W.setCell ⟨g, 3, none⟩ (.int .u8 3)).setCell ⟨q, 0, none⟩ (.slice (some ⟨W.heap.size, 0, none⟩) 1 1)).setCell ⟨r, 3, none⟩ (.int .u32 1)).alloc (.cells #[.string ⟨#[97]⟩] 9) := ⟨_, rfl⟩
  have hs5 : W5.heap.size = W.heap.size + 1 := by rw [hW5]; simp
  have h5 : ∀ (j : Nat) (o : Obj), ¬ j = r → ((W.setCell ⟨g, 3, none⟩ (.int .u8 3)).setCell ⟨q, 0, none⟩ (.slice (some ⟨W.heap.size, 0, none⟩) 1 1)).heap[j]? = some o → W5.heap[j]? = some o := fun j o hj h => by
    have h1 : (((W.setCell ⟨g, 3, none⟩ (.int .u8 3)).setCell ⟨q, 0, none⟩ (.slice (some ⟨W.heap.size, 0, none⟩) 1 1)).setCell ⟨r, 3, none⟩ (.int .u32 1)).heap[j]? = some o := (Below.heap_setCell _ _ _ _ hj).trans h
    rw [hW5]
    exact ((newE_below _ _).block _ (block_lt h1)).trans h1
  have hp5 : W5.heap[p]? = some (.cells #[.slice xu0 0 xue0, .int .u16 41, .int .u16 4096, .int .u32 65536, .slice xu1 0 xue1, .slice xu2 0 xue2, .slice xu3 0 xue3, .slice (some ⟨g, 0, none⟩) 6 xue4] 37) := h5 p _ hpr ((Below.heap_setCell _ _ _ _ hpq).trans ((Below.heap_setCell _ _ _ _ hgp').trans hp))
  have hq5 : W5.heap[q]? = some (.cells #[.slice (some ⟨W.heap.size, 0, none⟩) 1 1, .int .u16 41, .int .u16 4096, .int .u32 65536, .slice v1 0 ve1, .slice v2 0 ve2, .slice v3 0 ve3, .slice v4 6 ve4] 37) := h5 q _ hqr (heap_set ((Below.heap_setCell _ _ _ _ hgq').trans hq) 0 _)
  have hr5 : W5.heap[r]? = some (.cells #[.slice t0 0 te0, .int .u16 41, .int .u16 4096, .int .u32 1, .slice t1 0 te1, .slice t2 0 te2, .slice t3 0 te3, .slice t4 6 te4] 37) := by
    have h1 : (((W.setCell ⟨g, 3, none⟩ (.int .u8 3)).setCell ⟨q, 0, none⟩ (.slice (some ⟨W.heap.size, 0, none⟩) 1 1)).setCell ⟨r, 3, none⟩ (.int .u32 1)).heap[r]? = some (.cells #[.slice t0 0 te0, .int .u16 41, .int .u16 4096, .int .u32 1, .slice t1 0 te1, .slice t2 0 te2, .slice t3 0 te3, .slice t4 6 te4] 37) := heap_set ((Below.heap_setCell _ _ _ _ hrq').trans ((Below.heap_setCell _ _ _ _ hgr').trans hr)) 3 _
    rw [hW5]
    exact ((newE_below _ _).block _ (block_lt h1)).trans h1
  have hg5 : Blk W5 g (zs.set 3 3) := by
    have h1 := hg.2.1.stored 3 3 (by decide)
    exact ⟨h5 g _ hgr ((Below.heap_setCell _ _ _ _ hgq).trans h1.1), h1.2⟩
  have hb5 : Below W2.heap.size W2 W5 := by
    rw [hW5]
    exact (((hbW.setCell (p := ⟨g, 3, none⟩) hg.1 _).setCell (p := ⟨q, 0, none⟩) lq _).setCell (p := ⟨r, 3, none⟩) lr _).alloc (by simp; exact hbW.size) _
  have hz5 : (zs.set 3 3).take 6 = [0, 10, 0, 3, 1, 2] := by
    have h1 := hg.2.2.1
    rw [List.take_set, h1]; rfl
  have hl5 : (zs.set 3 3).length = xue4 := by rw [List.length_set]; exact zl
  go_upto_region 6 with fail
  rw [← hW5]
  have HR5 : Hid (RRd W5 ⟨⟨oa, 0, oc⟩, ⟨⟨a1, 0, k1⟩, ⟨a2, 0, k2⟩, ⟨a3, 0, k3⟩, ⟨a4, 6, k4⟩⟩⟩ ⟨[], 41, 4096, 65536, ⟨[], [], [], [0, 10, 0, 2, 1, 2]⟩⟩) := HR2.out.below hb5
  have HBX5 : Hid (W5.heap[g0]? = some (.cells #[.slice oa 0 oc, .int .u16 41, .int .u16 4096, .int .u32 65536, .slice a1 0 k1, .slice a2 0 k2, .slice a3 0 k3, .slice a4 6 k4] 37)) := (hb5.block _ hg0).trans HBX.out
  have HW5 : Hid (Below w.heap.size w W5) := HW2.out.trans (hb5.mono HW2.out.size)
  have HG5 : Hid (BRd W5 ⟨some ⟨g, 0, none⟩, 6, xue4⟩ [0, 10, 0, 3, 1, 2]) := ⟨by have := hg5.rd 6; rw [hz5] at this; exact this, rfl, ⟨by show 6 ≤ xue4; omega, by show xue4 ≤ _; omega⟩, by simp⟩
  generalize W.heap.size = nq at *
  clear hx1 hx2 h5 hb5 hg5 hz5 hl5 hW5 hs5 hpX hqX hrX hrY xq0 xqf xr3 xrf xg xf xp7 zl z6 hg hbW hp hq hr HBX HBX3 HR2 HR3 HW2 HW3 hLW lpW lqW lrW lgW l0W hg0p hg0q hg0r hg0g hgq' hgr' hgp' hrq' hpq hpr hqr hgp hgq hgr lp lq lr hg0
  have p5_0 := cell_of_block (i := 0) hp5 rfl
  have p5_1 := cell_of_block (i := 1) hp5 rfl
  have p5_2 := cell_of_block (i := 2) hp5 rfl
  have p5_3 := cell_of_block (i := 3) hp5 rfl
  have p5_4 := cell_of_block (i := 4) hp5 rfl
  have p5_5 := cell_of_block (i := 5) hp5 rfl
  have p5_6 := cell_of_block (i := 6) hp5 rfl
  have p5_7 := cell_of_block (i := 7) hp5 rfl
  have q5_0 := cell_of_block (i := 0) hq5 rfl
  have q5_1 := cell_of_block (i := 1) hq5 rfl
  have q5_2 := cell_of_block (i := 2) hq5 rfl
  have q5_3 := cell_of_block (i := 3) hq5 rfl
  have q5_4 := cell_of_block (i := 4) hq5 rfl
  have q5_5 := cell_of_block (i := 5) hq5 rfl
  have q5_6 := cell_of_block (i := 6) hq5 rfl
  have q5_7 := cell_of_block (i := 7) hq5 rfl
  have r5_0 := cell_of_block (i := 0) hr5 rfl
  have r5_1 := cell_of_block (i := 1) hr5 rfl
  have r5_2 := cell_of_block (i := 2) hr5 rfl
  have r5_3 := cell_of_block (i := 3) hr5 rfl
  have r5_4 := cell_of_block (i := 4) hr5 rfl
  have r5_5 := cell_of_block (i := 5) hr5 rfl
  have r5_6 := cell_of_block (i := 6) hr5 rfl
  have r5_7 := cell_of_block (i := 7) hr5 rfl
  have hnL := newE_below W5 (.cells #[.slice xu0 0 xue0, .int .u16 41, .int .u16 4096, .int .u32 65536, .slice xu1 0 xue1, .slice xu2 0 xue2, .slice xu3 0 xue3, .slice (some ⟨g, 0, none⟩) 6 xue4, .slice (some ⟨nq, 0, none⟩) 1 1, .int .u16 41, .int .u16 4096, .int .u32 65536, .slice v1 0 ve1, .slice v2 0 ve2, .slice v3 0 ve3, .slice v4 6 ve4, .slice t0 0 te0, .int .u16 41, .int .u16 4096, .int .u32 1, .slice t1 0 te1, .slice t2 0 te2, .slice t3 0 te3, .slice t4 6 te4, .slice none 0 0, .int .u16 0, .int .u16 0, .int .u32 0, .slice none 0 0, .slice none 0 0, .slice none 0 0, .slice none 0 0] 37)
  have hL := heap_alloc_new W5 (.cells #[.slice xu0 0 xue0, .int .u16 41, .int .u16 4096, .int .u32 65536, .slice xu1 0 xue1, .slice xu2 0 xue2, .slice xu3 0 xue3, .slice (some ⟨g, 0, none⟩) 6 xue4, .slice (some ⟨nq, 0, none⟩) 1 1, .int .u16 41, .int .u16 4096, .int .u32 65536, .slice v1 0 ve1, .slice v2 0 ve2, .slice v3 0 ve3, .slice v4 6 ve4, .slice t0 0 te0, .int .u16 41, .int .u16 4096, .int .u32 1, .slice t1 0 te1, .slice t2 0 te2, .slice t3 0 te3, .slice t4 6 te4, .slice none 0 0, .int .u16 0, .int .u16 0, .int .u32 0, .slice none 0 0, .slice none 0 0, .slice none 0 0, .slice none 0 0] 37)
  have HR6 : Hid (RRd (W5.alloc (.cells #[.slice xu0 0 xue0, .int .u16 41, .int .u16 4096, .int .u32 65536, .slice xu1 0 xue1, .slice xu2 0 xue2, .slice xu3 0 xue3, .slice (some ⟨g, 0, none⟩) 6 xue4, .slice (some ⟨nq, 0, none⟩) 1 1, .int .u16 41, .int .u16 4096, .int .u32 65536, .slice v1 0 ve1, .slice v2 0 ve2, .slice v3 0 ve3, .slice v4 6 ve4, .slice t0 0 te0, .int .u16 41, .int .u16 4096, .int .u32 1, .slice t1 0 te1, .slice t2 0 te2, .slice t3 0 te3, .slice t4 6 te4, .slice none 0 0, .int .u16 0, .int .u16 0, .int .u32 0, .slice none 0 0, .slice none 0 0, .slice none 0 0, .slice none 0 0] 37)) ⟨⟨oa, 0, oc⟩, ⟨⟨a1, 0, k1⟩, ⟨a2, 0, k2⟩, ⟨a3, 0, k3⟩, ⟨a4, 6, k4⟩⟩⟩ ⟨[], 41, 4096, 65536, ⟨[], [], [], [0, 10, 0, 2, 1, 2]⟩⟩) := HR5.out.below hnL
  have HBX6 : Hid ((W5.alloc (.cells #[.slice xu0 0 xue0, .int .u16 41, .int .u16 4096, .int .u32 65536, .slice xu1 0 xue1, .slice xu2 0 xue2, .slice xu3 0 xue3, .slice (some ⟨g, 0, none⟩) 6 xue4, .slice (some ⟨nq, 0, none⟩) 1 1, .int .u16 41, .int .u16 4096, .int .u32 65536, .slice v1 0 ve1, .slice v2 0 ve2, .slice v3 0 ve3, .slice v4 6 ve4, .slice t0 0 te0, .int .u16 41, .int .u16 4096, .int .u32 1, .slice t1 0 te1, .slice t2 0 te2, .slice t3 0 te3, .slice t4 6 te4, .slice none 0 0, .int .u16 0, .int .u16 0, .int .u32 0, .slice none 0 0, .slice none 0 0, .slice none 0 0, .slice none 0 0] 37)).heap[g0]? = some (.cells #[.slice oa 0 oc, .int .u16 41, .int .u16 4096, .int .u32 65536, .slice a1 0 k1, .slice a2 0 k2, .slice a3 0 k3, .slice a4 6 k4] 37)) := (hnL.block _ (block_lt HBX5.out)).trans HBX5.out
  have HW6 : Hid (Below w.heap.size w (W5.alloc (.cells #[.slice xu0 0 xue0, .int .u16 41, .int .u16 4096, .int .u32 65536, .slice xu1 0 xue1, .slice xu2 0 xue2, .slice xu3 0 xue3, .slice (some ⟨g, 0, none⟩) 6 xue4, .slice (some ⟨nq, 0, none⟩) 1 1, .int .u16 41, .int .u16 4096, .int .u32 65536, .slice v1 0 ve1, .slice v2 0 ve2, .slice v3 0 ve3, .slice v4 6 ve4, .slice t0 0 te0, .int .u16 41, .int .u16 4096, .int .u32 1, .slice t1 0 te1, .slice t2 0 te2, .slice t3 0 te3, .slice t4 6 te4, .slice none 0 0, .int .u16 0, .int .u16 0, .int .u32 0, .slice none 0 0, .slice none 0 0, .slice none 0 0, .slice none 0 0] 37))) := HW5.out.trans (hnL.mono HW5.out.size)
  have HG6 : Hid (BRd (W5.alloc (.cells #[.slice xu0 0 xue0, .int .u16 41, .int .u16 4096, .int .u32 65536, .slice xu1 0 xue1, .slice xu2 0 xue2, .slice xu3 0 xue3, .slice (some ⟨g, 0, none⟩) 6 xue4, .slice (some ⟨nq, 0, none⟩) 1 1, .int .u16 41, .int .u16 4096, .int .u32 65536, .slice v1 0 ve1, .slice v2 0 ve2, .slice v3 0 ve3, .slice v4 6 ve4, .slice t0 0 te0, .int .u16 41, .int .u16 4096, .int .u32 1, .slice t1 0 te1, .slice t2 0 te2, .slice t3 0 te3, .slice t4 6 te4, .slice none 0 0, .int .u16 0, .int .u16 0, .int .u32 0, .slice none 0 0, .slice none 0 0, .slice none 0 0, .slice none 0 0] 37)) ⟨some ⟨g, 0, none⟩, 6, xue4⟩ [0, 10, 0, 3, 1, 2]) := HG5.out.below hnL
  go_upto_region 7 with fail
  generalize W5.alloc (.cells #[.slice xu0 0 xue0, .int .u16 41, .int .u16 4096, .int .u32 65536, .slice xu1 0 xue1, .slice xu2 0 xue2, .slice xu3 0 xue3, .slice (some ⟨g, 0, none⟩) 6 xue4, .slice (some ⟨nq, 0, none⟩) 1 1, .int .u16 41, .int .u16 4096, .int .u32 65536, .slice v1 0 ve1, .slice v2 0 ve2, .slice v3 0 ve3, .slice v4 6 ve4, .slice t0 0 te0, .int .u16 41, .int .u16 4096, .int .u32 1, .slice t1 0 te1, .slice t2 0 te2, .slice t3 0 te3, .slice t4 6 te4, .slice none 0 0, .int .u16 0, .int .u16 0, .int .u32 0, .slice none 0 0, .slice none 0 0, .slice none 0 0, .slice none 0 0] 37) = W6 at *
  generalize W5.heap.size = L at *
  have hLb := block_lt hL
  have HL := Lib.hid hL
  have l0 := block_lt HBX6.out
  have K0 := fun X (hb : Below W6.heap.size W6 X) => Lib.hid (read13_no ⟨⟨xu0, 0, xue0⟩, ⟨⟨xu1, 0, xue1⟩, ⟨xu2, 0, xue2⟩, ⟨xu3, 0, xue3⟩, ⟨some ⟨g, 0, none⟩, 6, xue4⟩⟩⟩ ⟨[], 41, 4096, 65536, ⟨[], [], [], [0, 10, 0, 3, 1, 2]⟩⟩ X (by decide) ⟨rfl, rfl, rfl, rfl, rfl, rfl, by show 6 ≤ 65535; decide⟩ (HG6.out.below hb) rfl)
  have K1 := fun X => Lib.hid (read13_form ⟨⟨some ⟨nq, 0, none⟩, 1, 1⟩, ⟨⟨v1, 0, ve1⟩, ⟨v2, 0, ve2⟩, ⟨v3, 0, ve3⟩, ⟨v4, 6, ve4⟩⟩⟩ ⟨[], 41, 4096, 65536, ⟨[], [], [], []⟩⟩ X (by decide) (fun h => absurd h.2.1 (by show ¬ (1 : Nat) = 0; decide)))
  have K2 := fun X => Lib.hid (read13_form ⟨⟨t0, 0, te0⟩, ⟨⟨t1, 0, te1⟩, ⟨t2, 0, te2⟩, ⟨t3, 0, te3⟩, ⟨t4, 6, te4⟩⟩⟩ ⟨[], 41, 4096, 1, ⟨[], [], [], []⟩⟩ X (by decide) (fun h => absurd h.2.2.1 (by decide)))
  have K3 := fun X => Lib.hid (read13_form ⟨nilS, ⟨nilS, nilS, nilS, nilS⟩⟩ ⟨[], 0, 0, 0, ⟨[], [], [], []⟩⟩ X (by decide) (fun h => absurd h.1 (by decide)))
  simp only [recCells, nilS] at K0 K1 K2 K3
  clear hnL HR5 HBX5 HW5 HG5 p5_0 p5_1 p5_2 p5_3 p5_4 p5_5 p5_6 p5_7 q5_0 q5_1 q5_2 q5_3 q5_4 q5_5 q5_6 q5_7 r5_0 r5_1 r5_2 r5_3 r5_4 r5_5 r5_6 r5_7 hp5 hq5 hr5
  go_loopw [69] (fun y wr => ∃ k : Nat, k ≤ 4 ∧ y = .int .i64 (k : Int) ∧ Hid (Below W6.heap.size W6 wr)) (fun y _ => 4 - (intOf y).toNat)
  case atStart => exact ⟨0, by omega, rfl, Below.refl _ _⟩
  case round =>
    obtain ⟨k, hk, rfl, HB⟩ := hrel
    by_cases hlt : k < 4
    · have hlr := HB.out.size
      have hLr := (HB.out.block _ hLb).trans HL.out
      rcases (by omega : k = 0 ∨ k = 1 ∨ k = 2 ∨ k = 3) with rfl | rfl | rfl | rfl
      · have c0 := cell_of_block (i := 0) hLr rfl
        have c1 := cell_of_block (i := 1) hLr rfl
        have c2 := cell_of_block (i := 2) hLr rfl
        have c3 := cell_of_block (i := 3) hLr rfl
        have c4 := cell_of_block (i := 4) hLr rfl
        have c5 := cell_of_block (i := 5) hLr rfl
        have c6 := cell_of_block (i := 6) hLr rfl
        have c7 := cell_of_block (i := 7) hLr rfl
        have hn1 := newE_below wr (.cells #[.slice xu0 0 xue0, .int .u16 41, .int .u16 4096, .int .u32 65536, .slice xu1 0 xue1, .slice xu2 0 xue2, .slice xu3 0 xue3, .slice (some ⟨g, 0, none⟩) 6 xue4] 37)
        have HB1 : Hid (Below W6.heap.size W6 (wr.alloc (.cells #[.slice xu0 0 xue0, .int .u16 41, .int .u16 4096, .int .u32 65536, .slice xu1 0 xue1, .slice xu2 0 xue2, .slice xu3 0 xue3, .slice (some ⟨g, 0, none⟩) 6 xue4] 37))) := HB.out.trans (hn1.mono HB.out.size)
        go_wp2_with fail
        refine (K0 _ HB1.out).out.mono ?_
        rintro e w7 ⟨rfl, H7⟩
        have HB2 : Hid (Below W6.heap.size W6 w7) := HB1.out.trans (H7.out.mono HB1.out.size)
        have hn2 := newE_below w7 (.cells #[.int .i64 0, .int .i64 0, .int .i64 0, .bool false, .slice none 0 0] 24)
        have HB3 : Hid (Below W6.heap.size W6 (w7.alloc (.cells #[.int .i64 0, .int .i64 0, .int .i64 0, .bool false, .slice none 0 0] 24))) := HB2.out.trans (hn2.mono HB2.out.size)
        clear c0 c1 c2 c3 c4 c5 c6 c7 hn1 hn2 H7 hLr hlr
        go_wp2_with fail
        refine ⟨⟨1, by omega, rfl, HB3⟩, by simp [intOf]⟩
      · have c0 := cell_of_block (i := 8) hLr rfl
        have c1 := cell_of_block (i := 9) hLr rfl
        have c2 := cell_of_block (i := 10) hLr rfl
        have c3 := cell_of_block (i := 11) hLr rfl
        have c4 := cell_of_block (i := 12) hLr rfl
        have c5 := cell_of_block (i := 13) hLr rfl
        have c6 := cell_of_block (i := 14) hLr rfl
        have c7 := cell_of_block (i := 15) hLr rfl
        have hn1 := newE_below wr (.cells #[.slice (some ⟨nq, 0, none⟩) 1 1, .int .u16 41, .int .u16 4096, .int .u32 65536, .slice v1 0 ve1, .slice v2 0 ve2, .slice v3 0 ve3, .slice v4 6 ve4] 37)
        have HB1 : Hid (Below W6.heap.size W6 (wr.alloc (.cells #[.slice (some ⟨nq, 0, none⟩) 1 1, .int .u16 41, .int .u16 4096, .int .u32 65536, .slice v1 0 ve1, .slice v2 0 ve2, .slice v3 0 ve3, .slice v4 6 ve4] 37))) := HB.out.trans (hn1.mono HB.out.size)
        go_wp2_with fail
        refine (K1 _).out.mono ?_
        rintro e w7 ⟨rfl, H7⟩
        have HB2 : Hid (Below W6.heap.size W6 w7) := HB1.out.trans (H7.out.mono HB1.out.size)
        have hn2 := newE_below w7 (.cells #[.int .i64 0, .int .i64 0, .int .i64 0, .bool false, .slice none 0 0] 24)
        have HB3 : Hid (Below W6.heap.size W6 (w7.alloc (.cells #[.int .i64 0, .int .i64 0, .int .i64 0, .bool false, .slice none 0 0] 24))) := HB2.out.trans (hn2.mono HB2.out.size)
        clear c0 c1 c2 c3 c4 c5 c6 c7 hn1 hn2 H7 hLr hlr
        go_wp2_with fail
        refine ⟨⟨2, by omega, rfl, HB3⟩, by simp [intOf]⟩
      · have c0 := cell_of_block (i := 16) hLr rfl
        have c1 := cell_of_block (i := 17) hLr rfl
        have c2 := cell_of_block (i := 18) hLr rfl
        have c3 := cell_of_block (i := 19) hLr rfl
        have c4 := cell_of_block (i := 20) hLr rfl
        have c5 := cell_of_block (i := 21) hLr rfl
        have c6 := cell_of_block (i := 22) hLr rfl
        have c7 := cell_of_block (i := 23) hLr rfl
        have hn1 := newE_below wr (.cells #[.slice t0 0 te0, .int .u16 41, .int .u16 4096, .int .u32 1, .slice t1 0 te1, .slice t2 0 te2, .slice t3 0 te3, .slice t4 6 te4] 37)
        have HB1 : Hid (Below W6.heap.size W6 (wr.alloc (.cells #[.slice t0 0 te0, .int .u16 41, .int .u16 4096, .int .u32 1, .slice t1 0 te1, .slice t2 0 te2, .slice t3 0 te3, .slice t4 6 te4] 37))) := HB.out.trans (hn1.mono HB.out.size)
        go_wp2_with fail
        refine (K2 _).out.mono ?_
        rintro e w7 ⟨rfl, H7⟩
        have HB2 : Hid (Below W6.heap.size W6 w7) := HB1.out.trans (H7.out.mono HB1.out.size)
        have hn2 := newE_below w7 (.cells #[.int .i64 0, .int .i64 0, .int .i64 0, .bool false, .slice none 0 0] 24)
        have HB3 : Hid (Below W6.heap.size W6 (w7.alloc (.cells #[.int .i64 0, .int .i64 0, .int .i64 0, .bool false, .slice none 0 0] 24))) := HB2.out.trans (hn2.mono HB2.out.size)
        clear c0 c1 c2 c3 c4 c5 c6 c7 hn1 hn2 H7 hLr hlr
        go_wp2_with fail
        refine ⟨⟨3, by omega, rfl, HB3⟩, by simp [intOf]⟩
      · have c0 := cell_of_block (i := 24) hLr rfl
        have c1 := cell_of_block (i := 25) hLr rfl
        have c2 := cell_of_block (i := 26) hLr rfl
        have c3 := cell_of_block (i := 27) hLr rfl
        have c4 := cell_of_block (i := 28) hLr rfl
        have c5 := cell_of_block (i := 29) hLr rfl
        have c6 := cell_of_block (i := 30) hLr rfl
        have c7 := cell_of_block (i := 31) hLr rfl
        have hn1 := newE_below wr (.cells #[.slice none 0 0, .int .u16 0, .int .u16 0, .int .u32 0, .slice none 0 0, .slice none 0 0, .slice none 0 0, .slice none 0 0] 37)
        have HB1 : Hid (Below W6.heap.size W6 (wr.alloc (.cells #[.slice none 0 0, .int .u16 0, .int .u16 0, .int .u32 0, .slice none 0 0, .slice none 0 0, .slice none 0 0, .slice none 0 0] 37))) := HB.out.trans (hn1.mono HB.out.size)
        go_wp2_with fail
        refine (K3 _).out.mono ?_
        rintro e w7 ⟨rfl, H7⟩
        have HB2 : Hid (Below W6.heap.size W6 w7) := HB1.out.trans (H7.out.mono HB1.out.size)
        have hn2 := newE_below w7 (.cells #[.int .i64 0, .int .i64 0, .int .i64 0, .bool false, .slice none 0 0] 24)
        have HB3 : Hid (Below W6.heap.size W6 (w7.alloc (.cells #[.int .i64 0, .int .i64 0, .int .i64 0, .bool false, .slice none 0 0] 24))) := HB2.out.trans (hn2.mono HB2.out.size)
        clear c0 c1 c2 c3 c4 c5 c6 c7 hn1 hn2 H7 hLr hlr
        go_wp2_with fail
        refine ⟨⟨4, by omega, rfl, HB3⟩, by simp [intOf]⟩
    · obtain rfl : k = 4 := by omega
      have hx0 := (HB.out.block _ l0).trans HBX6.out
      have cx0 := cell_of_block (i := 0) hx0 rfl
      have cx1 := cell_of_block (i := 1) hx0 rfl
      have cx2 := cell_of_block (i := 2) hx0 rfl
      have cx3 := cell_of_block (i := 3) hx0 rfl
      have cx4 := cell_of_block (i := 4) hx0 rfl
      have cx5 := cell_of_block (i := 5) hx0 rfl
      have cx6 := cell_of_block (i := 6) hx0 rfl
      have cx7 := cell_of_block (i := 7) hx0 rfl
      have HRr : Hid (RRd wr ⟨⟨oa, 0, oc⟩, ⟨⟨a1, 0, k1⟩, ⟨a2, 0, k2⟩, ⟨a3, 0, k3⟩, ⟨a4, 6, k4⟩⟩⟩ ⟨[], 41, 4096, 65536, ⟨[], [], [], [0, 10, 0, 2, 1, 2]⟩⟩) := HR6.out.below HB.out
      have HWr : Hid (Below w.heap.size w wr) := HW6.out.trans (HB.out.mono HW6.out.size)
      have K21 := Lib.hid (of21_two (.int .u16 0) (.bool false) (.int .i64 0) (.bool false) (.bool false) (.bool false) (.bool false) (.bool false) (.bool false) (.int .i64 0) (.slice none 0 0) (.slice none 0 0) (.slice none 0 0) ⟨some ⟨wr.heap.size, 0, none⟩, 2, 2⟩ [⟨[], 41, 4096, 65536, ⟨[], [], [], [0, 10, 0, 2, 1, 2]⟩⟩, ⟨[], 41, 4096, 65536, ⟨[], [], [], [0, 10, 0, 2, 1, 2]⟩⟩] (wr.alloc (.cells #[.slice oa 0 oc, .int .u16 41, .int .u16 4096, .int .u32 65536, .slice a1 0 k1, .slice a2 0 k2, .slice a3 0 k3, .slice a4 6 k4, .slice oa 0 oc, .int .u16 41, .int .u16 4096, .int .u32 65536, .slice a1 0 k1, .slice a2 0 k2, .slice a3 0 k3, .slice a4 6 k4] 37)) (two_rec wr HRr.out) (Nat.le_refl 2) (by show 2 ≤ 1000000; decide) (by intro r hr; simp at hr; subst hr; rfl))
      have HWn : Hid (Below w.heap.size w (wr.alloc (.cells #[.slice oa 0 oc, .int .u16 41, .int .u16 4096, .int .u32 65536, .slice a1 0 k1, .slice a2 0 k2, .slice a3 0 k3, .slice a4 6 k4, .slice oa 0 oc, .int .u16 41, .int .u16 4096, .int .u32 65536, .slice a1 0 k1, .slice a2 0 k2, .slice a3 0 k3, .slice a4 6 k4] 37))) := HWr.out.trans ((newE_below wr (.cells #[.slice oa 0 oc, .int .u16 41, .int .u16 4096, .int .u32 65536, .slice a1 0 k1, .slice a2 0 k2, .slice a3 0 k3, .slice a4 6 k4, .slice oa 0 oc, .int .u16 41, .int .u16 4096, .int .u32 65536, .slice a1 0 k1, .slice a2 0 k2, .slice a3 0 k3, .slice a4 6 k4] 37)).mono HWr.out.size)
      clear K0 K1 K2 K3 HB HL HG6 HBX6 HR6 HW6 hL hLb hx0
      go_wp2_with fail
      refine K21.out.mono ?_
      rintro e w8 ⟨rfl, H8⟩
      have HW8 : Hid (Below w.heap.size w w8) := HWn.out.trans (H8.out.mono HWn.out.size)
      clear cx0 cx1 cx2 cx3 cx4 cx5 cx6 cx7 K21 HWn HWr HRr H8 hlt hk l0
      have K23 := fun (X : World) => Lib.hid (with23_zero ⟨4096, 0, 0, false, []⟩ nilS X (OsRd.none X) (fun o ho => (by cases ho)) (by decide) rfl)
      have K23' := fun (X : World) => Lib.hid (with23_zero ⟨100, 0, 0, false, []⟩ nilS X (OsRd.none X) (fun o ho => (by cases ho)) (by decide) rfl)
      simp only [nilS] at K23 K23'
      have hn8 := newE_below w8 (.cells #[.int .i64 0, .int .i64 0, .int .i64 0, .bool false, .slice none 0 0] 24)
      have HWA : Hid (Below w.heap.size w (w8.alloc (.cells #[.int .i64 0, .int .i64 0, .int .i64 0, .bool false, .slice none 0 0] 24))) := HW8.out.trans (hn8.mono HW8.out.size)
      clear hn8
      go_wp2_with fail
      refine (K23 _).out.mono ?_
      rintro e w9 ⟨⟨ta, tn, tc⟩, rfl, H9⟩
      have HW9 : Hid (Below w.heap.size w w9) := HWA.out.trans (H9.out.2.mono HWA.out.size)
      have hnB := newE_below w9 (.cells #[.int .u16 0, .bool false, .int .i64 0, .bool false, .bool false, .bool false, .bool false, .bool false, .bool false, .int .i64 0, .slice none 0 0, .slice none 0 0, .slice none 0 0, .slice ta tn tc] 54)
      have hB13 := heap_alloc_new w9 (.cells #[.int .u16 0, .bool false, .int .i64 0, .bool false, .bool false, .bool false, .bool false, .bool false, .bool false, .int .i64 0, .slice none 0 0, .slice none 0 0, .slice none 0 0, .slice ta tn tc] 54)
      have LB : Hid (LsRd (w9.alloc (.cells #[.int .u16 0, .bool false, .int .i64 0, .bool false, .bool false, .bool false, .bool false, .bool false, .bool false, .int .i64 0, .slice none 0 0, .slice none 0 0, .slice none 0 0, .slice ta tn tc] 54)) ⟨ta, tn, tc⟩ [⟨[], 41, 4096, 0, ⟨[], [], [], []⟩⟩]) := H9.out.1.below hnB
      have HWB : Hid (Below w.heap.size w (w9.alloc (.cells #[.int .u16 0, .bool false, .int .i64 0, .bool false, .bool false, .bool false, .bool false, .bool false, .bool false, .int .i64 0, .slice none 0 0, .slice none 0 0, .slice none 0 0, .slice ta tn tc] 54))) := HW9.out.trans (hnB.mono HW9.out.size)
      clear HW8 HWA HW9 H9 hnB K23
      go_upto_region 15 with fail
      generalize w9.alloc (.cells #[.int .u16 0, .bool false, .int .i64 0, .bool false, .bool false, .bool false, .bool false, .bool false, .bool false, .int .i64 0, .slice none 0 0, .slice none 0 0, .slice none 0 0, .slice ta tn tc] 54) = WB at *
      generalize w9.heap.size = nB at *
      have l13 := block_lt hB13
      have HB13 := Lib.hid hB13
      clear hB13
      go_wp2_with fail
      refine (K23' _).out.mono ?_
      rintro e w10 ⟨⟨xa, xn, xc⟩, rfl, H10⟩
      have HB10 : Hid (Below WB.heap.size WB w10) := H10.out.2
      have hnC := newE_below w10 (.cells #[.int .u16 0, .bool false, .int .i64 0, .bool false, .bool false, .bool false, .bool false, .bool false, .bool false, .int .i64 0, .slice none 0 0, .slice none 0 0, .slice none 0 0, .slice xa xn xc] 54)
      have hC15 := heap_alloc_new w10 (.cells #[.int .u16 0, .bool false, .int .i64 0, .bool false, .bool false, .bool false, .bool false, .bool false, .bool false, .int .i64 0, .slice none 0 0, .slice none 0 0, .slice none 0 0, .slice xa xn xc] 54)
      have LC : Hid (LsRd (w10.alloc (.cells #[.int .u16 0, .bool false, .int .i64 0, .bool false, .bool false, .bool false, .bool false, .bool false, .bool false, .int .i64 0, .slice none 0 0, .slice none 0 0, .slice none 0 0, .slice xa xn xc] 54)) ⟨xa, xn, xc⟩ [⟨[], 41, 100, 0, ⟨[], [], [], []⟩⟩]) := H10.out.1.below hnC
      have HBC : Hid (Below WB.heap.size WB (w10.alloc (.cells #[.int .u16 0, .bool false, .int .i64 0, .bool false, .bool false, .bool false, .bool false, .bool false, .bool false, .int .i64 0, .slice none 0 0, .slice none 0 0, .slice none 0 0, .slice xa xn xc] 54))) := HB10.out.trans (hnC.mono HB10.out.size)
      clear K23' H10 hnC HB10
      go_upto_region 16 with fail
      generalize w10.alloc (.cells #[.int .u16 0, .bool false, .int .i64 0, .bool false, .bool false, .bool false, .bool false, .bool false, .bool false, .int .i64 0, .slice none 0 0, .slice none 0 0, .slice none 0 0, .slice xa xn xc] 54) = WC at *
      generalize w10.heap.size = nC at *
      have l15 := block_lt hC15
      have HC15 := Lib.hid hC15
      clear hC15
      have e0 : min (1232 : Int) (max 512 0) = 512 := by decide
      have e1 : min (1232 : Int) (max 512 (edE ⟨[], 41, 4096, 0, ⟨[], [], [], []⟩⟩ []).sz) = 1232 := by decide
      have e2 : min (1232 : Int) (max 512 (edE ⟨[], 41, 100, 0, ⟨[], [], [], []⟩⟩ []).sz) = 512 := by decide
      have K26a : ∀ X, Hid (Calls Try.prog 26 #[.agg #[.int .u16 0, .bool false, .int .i64 0, .bool false, .bool false, .bool false, .bool false, .bool false, .bool false, .int .i64 0, .slice none 0 0, .slice none 0 0, .slice none 0 0, .slice none 0 0], .int .i64 1232] X fun e w' => e = .returned (.tuple #[.int .i64 512, .int .i64 0]) ∧ Hid (Below X.heap.size X w')) := fun X => by
        have h := size26_of (.int .u16 0) (.bool false) (.int .i64 0) (.bool false) (.bool false) (.bool false) (.bool false) (.bool false) (.bool false) (.int .i64 0) (.slice none 0 0) (.slice none 0 0) (.slice none 0 0) nilS 1232 X (by decide) (by decide) 0 0 0 false false 0 (by decide) (fun W hb => (of21_none (.int .u16 0) (.bool false) (.int .i64 0) (.bool false) (.bool false) (.bool false) (.bool false) (.bool false) (.bool false) (.int .i64 0) (.slice none 0 0) (.slice none 0 0) (.slice none 0 0) W).mono (fun e w' h => ⟨nilS, h.1, h.2⟩))
        rw [e0] at h
        exact h
      have K26b : ∀ X, Below WB.heap.size WB X → Hid (Calls Try.prog 26 #[.agg #[.int .u16 0, .bool false, .int .i64 0, .bool false, .bool false, .bool false, .bool false, .bool false, .bool false, .int .i64 0, .slice none 0 0, .slice none 0 0, .slice none 0 0, .slice ta tn tc], .int .i64 1232] X fun e w' => e = .returned (.tuple #[.int .i64 1232, .int .i64 0]) ∧ Hid (Below X.heap.size X w')) := fun X hX => by
        have h := size26_of (.int .u16 0) (.bool false) (.int .i64 0) (.bool false) (.bool false) (.bool false) (.bool false) (.bool false) (.bool false) (.int .i64 0) (.slice none 0 0) (.slice none 0 0) (.slice none 0 0) ⟨ta, tn, tc⟩ 1232 X (by decide) (by decide) (edE ⟨[], 41, 4096, 0, ⟨[], [], [], []⟩⟩ []).sz (edE ⟨[], 41, 4096, 0, ⟨[], [], [], []⟩⟩ []).hi (edE ⟨[], 41, 4096, 0, ⟨[], [], [], []⟩⟩ []).ve (edE ⟨[], 41, 4096, 0, ⟨[], [], [], []⟩⟩ []).dd true 0 (by decide) (fun W hb => (of21_one (.int .u16 0) (.bool false) (.int .i64 0) (.bool false) (.bool false) (.bool false) (.bool false) (.bool false) (.bool false) (.int .i64 0) (.slice none 0 0) (.slice none 0 0) (.slice none 0 0) ⟨ta, tn, tc⟩ ⟨[], 41, 4096, 0, ⟨[], [], [], []⟩⟩ [] W (LB.out.below (hX.trans (hb.mono hX.size))) ⟨rfl, rfl, rfl, rfl, rfl, rfl, by decide⟩ (by decide) (by decide) gopt_nil).mono (fun e w' h => by obtain ⟨y, h1, h2⟩ := h; exact ⟨y, h1, h2.out.2⟩))
        rw [e1] at h
        exact h
      have K26c : ∀ X, Below WC.heap.size WC X → Hid (Calls Try.prog 26 #[.agg #[.int .u16 0, .bool false, .int .i64 0, .bool false, .bool false, .bool false, .bool false, .bool false, .bool false, .int .i64 0, .slice none 0 0, .slice none 0 0, .slice none 0 0, .slice xa xn xc], .int .i64 1232] X fun e w' => e = .returned (.tuple #[.int .i64 512, .int .i64 0]) ∧ Hid (Below X.heap.size X w')) := fun X hX => by
        have h := size26_of (.int .u16 0) (.bool false) (.int .i64 0) (.bool false) (.bool false) (.bool false) (.bool false) (.bool false) (.bool false) (.int .i64 0) (.slice none 0 0) (.slice none 0 0) (.slice none 0 0) ⟨xa, xn, xc⟩ 1232 X (by decide) (by decide) (edE ⟨[], 41, 100, 0, ⟨[], [], [], []⟩⟩ []).sz (edE ⟨[], 41, 100, 0, ⟨[], [], [], []⟩⟩ []).hi (edE ⟨[], 41, 100, 0, ⟨[], [], [], []⟩⟩ []).ve (edE ⟨[], 41, 100, 0, ⟨[], [], [], []⟩⟩ []).dd true 0 (by decide) (fun W hb => (of21_one (.int .u16 0) (.bool false) (.int .i64 0) (.bool false) (.bool false) (.bool false) (.bool false) (.bool false) (.bool false) (.int .i64 0) (.slice none 0 0) (.slice none 0 0) (.slice none 0 0) ⟨xa, xn, xc⟩ ⟨[], 41, 100, 0, ⟨[], [], [], []⟩⟩ [] W (LC.out.below (hX.trans (hb.mono hX.size))) ⟨rfl, rfl, rfl, rfl, rfl, rfl, by decide⟩ (by decide) (by decide) gopt_nil).mono (fun e w' h => by obtain ⟨y, h1, h2⟩ := h; exact ⟨y, h1, h2.out.2⟩))
        rw [e2] at h
        exact h
      have K26d := fun (X : World) => Lib.hid (size26_arg (.int .u16 0) (.bool false) (.int .i64 0) (.bool false) (.bool false) (.bool false) (.bool false) (.bool false) (.bool false) (.int .i64 0) (.slice none 0 0) (.slice none 0 0) (.slice none 0 0) ⟨ta, tn, tc⟩ 511 X (by decide))
      have K11n := fun (X : World) => Lib.hid (record11_no ⟨65536, 0, 0, false, []⟩ nilS X (OsRd.none X) (fun o ho => (by cases ho)) (by decide))
      have K31 := fun (X : World) => Lib.hid (awake31 X)
      simp only [nilS] at K11n
      clear e0 e1 e2
      go_wp2_with fail
      refine (K26a _).out.mono ?_
      rintro e w11 ⟨rfl, H11⟩
      have HC11 : Hid (Below WC.heap.size WC w11) := H11.out
      have HB11 : Hid (Below WB.heap.size WB w11) := HBC.out.trans (HC11.out.mono HBC.out.size)
      have hz := (HB11.out.block _ l13).trans HB13.out
      have zB0 := cell_of_block (i := 0) hz rfl
      have zB1 := cell_of_block (i := 1) hz rfl
      have zB2 := cell_of_block (i := 2) hz rfl
      have zB3 := cell_of_block (i := 3) hz rfl
      have zB4 := cell_of_block (i := 4) hz rfl
      have zB5 := cell_of_block (i := 5) hz rfl
      have zB6 := cell_of_block (i := 6) hz rfl
      have zB7 := cell_of_block (i := 7) hz rfl
      have zB8 := cell_of_block (i := 8) hz rfl
      have zB9 := cell_of_block (i := 9) hz rfl
      have zB10 := cell_of_block (i := 10) hz rfl
      have zB11 := cell_of_block (i := 11) hz rfl
      have zB12 := cell_of_block (i := 12) hz rfl
      have zB13 := cell_of_block (i := 13) hz rfl
      clear H11 hz
      go_wp2_with fail
      refine (K26b _ HB11.out).out.mono ?_
      rintro e w12 ⟨rfl, H12⟩
      have HC12 : Hid (Below WC.heap.size WC w12) := HC11.out.trans (H12.out.mono HC11.out.size)
      have hz := (HC12.out.block _ l15).trans HC15.out
      clear zB0 zB1 zB2 zB3 zB4 zB5 zB6 zB7 zB8 zB9 zB10 zB11 zB12 zB13 H12 HB11
      have zC0 := cell_of_block (i := 0) hz rfl
      have zC1 := cell_of_block (i := 1) hz rfl
      have zC2 := cell_of_block (i := 2) hz rfl
      have zC3 := cell_of_block (i := 3) hz rfl
      have zC4 := cell_of_block (i := 4) hz rfl
      have zC5 := cell_of_block (i := 5) hz rfl
      have zC6 := cell_of_block (i := 6) hz rfl
      have zC7 := cell_of_block (i := 7) hz rfl
      have zC8 := cell_of_block (i := 8) hz rfl
      have zC9 := cell_of_block (i := 9) hz rfl
      have zC10 := cell_of_block (i := 10) hz rfl
      have zC11 := cell_of_block (i := 11) hz rfl
      have zC12 := cell_of_block (i := 12) hz rfl
      have zC13 := cell_of_block (i := 13) hz rfl
      clear hz
      go_wp2_with fail
      refine (K26c _ HC12.out).out.mono ?_
      rintro e w13 ⟨rfl, H13⟩
      have HC13 : Hid (Below WC.heap.size WC w13) := HC12.out.trans (H13.out.mono HC12.out.size)
      clear zC0 zC1 zC2 zC3 zC4 zC5 zC6 zC7 zC8 zC9 zC10 zC11 zC12 zC13 H13
      go_wp2_with fail
      refine (K11n _).out.mono ?_
      rintro e w14 ⟨rfl, H14⟩
      have HC14 : Hid (Below WC.heap.size WC w14) := HC13.out.trans (H14.out.mono HC13.out.size)
      have hnD := newE_below w14 (.cells #[.slice none 0 0, .int .u16 0, .int .u16 0, .int .u32 0, .slice none 0 0, .slice none 0 0, .slice none 0 0, .slice none 0 0] 37)
      have HCD : Hid (Below WC.heap.size WC (w14.alloc (.cells #[.slice none 0 0, .int .u16 0, .int .u16 0, .int .u32 0, .slice none 0 0, .slice none 0 0, .slice none 0 0, .slice none 0 0] 37))) := HC14.out.trans (hnD.mono HC14.out.size)
      have HBD : Hid (Below WB.heap.size WB (w14.alloc (.cells #[.slice none 0 0, .int .u16 0, .int .u16 0, .int .u32 0, .slice none 0 0, .slice none 0 0, .slice none 0 0, .slice none 0 0] 37))) := HBC.out.trans (HCD.out.mono HBC.out.size)
      have hz := (HBD.out.block _ l13).trans HB13.out
      have zB0 := cell_of_block (i := 0) hz rfl
      have zB1 := cell_of_block (i := 1) hz rfl
      have zB2 := cell_of_block (i := 2) hz rfl
      have zB3 := cell_of_block (i := 3) hz rfl
      have zB4 := cell_of_block (i := 4) hz rfl
      have zB5 := cell_of_block (i := 5) hz rfl
      have zB6 := cell_of_block (i := 6) hz rfl
      have zB7 := cell_of_block (i := 7) hz rfl
      have zB8 := cell_of_block (i := 8) hz rfl
      have zB9 := cell_of_block (i := 9) hz rfl
      have zB10 := cell_of_block (i := 10) hz rfl
      have zB11 := cell_of_block (i := 11) hz rfl
      have zB12 := cell_of_block (i := 12) hz rfl
      have zB13 := cell_of_block (i := 13) hz rfl
      clear hz H14 hnD
      go_wp2_with fail
      refine (K26d _).out.mono ?_
      rintro e w15 ⟨rfl, H15⟩
      have HB15 : Hid (Below WB.heap.size WB w15) := HBD.out.trans (H15.out.mono HBD.out.size)
      clear zB0 zB1 zB2 zB3 zB4 zB5 zB6 zB7 zB8 zB9 zB10 zB11 zB12 zB13 H15
      go_wp2_with fail
      refine (K31 _).out.mono ?_
      rintro e w16 ⟨rfl, H16⟩
      have HB16 : Hid (Below WB.heap.size WB w16) := HB15.out.trans (H16.out.mono HB15.out.size)
      have HW16 : Hid (Below w.heap.size w w16) := HWB.out.trans (HB16.out.mono HWB.out.size)
      clear H16 K26a K26b K26c K26d K11n K31
      go_wp2_with fail
      go_ret
      exact ⟨rfl, HW16.out⟩
end Go.Proofs.Ytgeoadkcmbageaa
