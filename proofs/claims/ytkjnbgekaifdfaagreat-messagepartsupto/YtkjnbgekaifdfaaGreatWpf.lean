/- Texts laid together, in parts: Vf Vg Vh Mpc Sqf Sqk Mra Arg Sqi Sqq Sql0 Sql Sqr Sqb3 Sqm Sqn. -/
import Derived.Test.YtkjnbgekaifdfaaGreatWpe
import Derived.ChangeKeysEq
import Derived.Laws.StructEq
import Derived.RangeFuncNested
import Derived.RangeFuncBox
import Derived.WalkKit
import Derived.ProofKit
import Derived.OpenShut
import Derived.ShutString
import Derived.ChangeOld
import Derived.JoinedCond
import Derived.Deep.Strs
import Derived.SizedLaws
import Derived.RangeFuncBound
import Derived.RangeFuncCalls
import Derived.RangeFuncLeaves
import Derived.Shelf.Abstract
import Derived.Shelf.RegionOpen
import Derived.OwnWalkIn
import Derived.TacticsInMore
import Derived.LoopNIn
import Derived.LoopIn
import Derived.Sort.QuietIn
import Derived.Maps.OwnIn
set_option maxRecDepth 100000
set_option linter.unusedVariables false
set_option linter.unusedSimpArgs false
namespace Go.Proofs.YtkjnbgekaifdfaaGreat
open Go.ChangeShapes Go.WideShapes Go.ChangeAt Go.RowKit
def nv (zs : List Int) (j : Nat) : Nat := (val ((zs.drop (2 * j)).take 2)).toNat
theorem nv_val {zs : List Int} (h : ∀ z ∈ zs, 0 <= z /\ z <= 255) (j : Nat) : val ((zs.drop (2 * j)).take 2) = (nv zs j : Int) /\ nv zs j < 65536 := by
 have hb : ∀ z ∈ (zs.drop (2 * j)).take 2, 0 <= z /\ z <= 255 := fun z hz => h z (List.mem_of_mem_drop (List.mem_of_mem_take hz))
 have h1 := val_bd _ hb
 have h2 : ((zs.drop (2 * j)).take 2).length <= 2 := by simp; omega
 have h3 : (256 : Int) ^ ((zs.drop (2 * j)).take 2).length <= 65536 := by
   generalize ((zs.drop (2 * j)).take 2).length = l at h2 ⊢
   match l, h2 with
   | 0, _ => decide
   | 1, _ => decide
   | 2, _ => decide
   | l + 3, h => omega
 unfold nv
 omega
def rowU (zs : List Int) (k : Nat) : Array Value := #[.int .i64 (if 0 < k then (nv zs 0 : Int) else 0), .int .i64 (if 1 < k then (nv zs 1 : Int) else 0), .int .i64 (if 2 < k then (nv zs 2 : Int) else 0), .int .i64 (if 3 < k then (nv zs 3 : Int) else 0), .int .i64 (if 4 < k then (nv zs 4 : Int) else 0), .int .i64 (if 5 < k then (nv zs 5 : Int) else 0)]
theorem row_step (zs : List Int) (k : Nat) (hk : k < 6) : (rowU zs k).setIfInBounds k (.int .i64 (nv zs k : Int)) = rowU zs (k + 1) := by
 match k, hk with
 | 0, _ => simp [rowU]
 | 1, _ => simp [rowU]
 | 2, _ => simp [rowU]
 | 3, _ => simp [rowU]
 | 4, _ => simp [rowU]
 | 5, _ => simp [rowU]
 | k + 6, h => omega
theorem row_at (zs : List Int) (k : Nat) (hk : k < 6) : ∃ v, (rowU zs k)[k]? = some (.int .i64 v) := by
 match k, hk with
 | 0, _ => exact ⟨_, rfl⟩
 | 1, _ => exact ⟨_, rfl⟩
 | 2, _ => exact ⟨_, rfl⟩
 | 3, _ => exact ⟨_, rfl⟩
 | 4, _ => exact ⟨_, rfl⟩
 | 5, _ => exact ⟨_, rfl⟩
 | k + 6, h => omega
def zeroM : Array Value := #[.int .u16 0, .bool false, .int .i64 0, .bool false, .bool false, .bool false, .bool false, .bool false, .bool false, .int .i64 0, .slice none 0 0, .slice none 0 0, .slice none 0 0, .slice none 0 0]
structure Bx (w wr : World) (zs : List Int) (k : Nat) : Prop where
 m : wr.heap[w.heap.size]? = some (.cells zeroM 26)
 c : wr.heap[w.heap.size + 1]? = some (.cells #[.int .i64 0, .int .i64 0, .int .i64 0, .int .i64 0] 74)
 n : wr.heap[w.heap.size + 1 + 1]? = some (.cells (rowU zs k) 114)
 b : Below w.heap.size w wr
theorem Bx.start (w : World) (zs : List Int) : Bx w (((w.alloc (.cells zeroM 26)).alloc (.cells #[.int .i64 0, .int .i64 0, .int .i64 0, .int .i64 0] 74)).alloc (.cells (rowU zs 0) 114)) zs 0 := by
 obtain ⟨h1, h2, h3⟩ := alloc3 w (.cells zeroM 26) (.cells #[.int .i64 0, .int .i64 0, .int .i64 0, .int .i64 0] 74) (.cells (rowU zs 0) 114)
 exact ⟨h1, h2, h3, (((Below.refl _ _).alloc (Nat.le_refl _) _).alloc (by simp) _).alloc (by simp; omega) _⟩
theorem Bx.step {w wr : World} {zs : List Int} {k : Nat} (h : Bx w wr zs k) (hk : k < 6) : Bx w (wr.setCell ⟨w.heap.size + 1 + 1, k, none⟩ (.int .i64 (nv zs k : Int))) zs (k + 1) :=
 ⟨(Below.heap_setCell wr _ _ _ (by simp; omega)).trans h.m, (Below.heap_setCell wr _ _ _ (by simp)).trans h.c, (upd_block h.n _).trans (by rw [row_step zs k hk]), h.b.setCell (p := ⟨_, _, none⟩) (by simp; omega) _⟩
def msgU (I F : Nat) : Array Value := #[.int .u16 (I : Int), .bool (unfl F 32768), .int .i64 (unop F : Nat), .bool (unfl F 1024), .bool (unfl F 512), .bool (unfl F 256), .bool (unfl F 128), .bool (unfl F 32), .bool (unfl F 16), .int .i64 (unrc F : Nat), .slice none 0 0, .slice none 0 0, .slice none 0 0, .slice none 0 0]
def RdPost (w : World) (zs : List Int) (e : Ending) (w' : World) : Prop :=
 ((zs.length < 12 ∨ unfl (nv zs 1) 64 = true) -> e = .returned (.tuple #[.agg zeroM, .agg #[.int .i64 0, .int .i64 0, .int .i64 0, .int .i64 0], .int .i64 8])) /\
 (¬ (zs.length < 12 ∨ unfl (nv zs 1) 64 = true) -> e = .returned (.tuple #[.agg (msgU (nv zs 0) (nv zs 1)), .agg #[.int .i64 (nv zs 2 : Int), .int .i64 (nv zs 3 : Int), .int .i64 (nv zs 4 : Int), .int .i64 (nv zs 5 : Int)], .int .i64 0])) /\ Below w.heap.size w w'
set_option maxHeartbeats 4000000 in
theorem read18 (a : Option Addr) (len cap : Nat) (zs : List Int) (w : World) (hr : Rd w a zs) (hl : zs.length = len) (hc : len <= cap) (hm : cap <= 9223372036854775807) :
   Calls Tryz.prog 88 #[.slice a len cap] w fun e w' => RdPost w zs e w' := by
 have HL : Hid (zs.length = len) := hl
 have HR : Hid (Rd w a zs) := hr
 clear hl hr
 go_enter Tryz.func88, Tryz.ntmps88
 go_wp2_with fail
 go_loopw [12] (fun y wr => ∃ k : Nat, k <= 6 /\ 2 * k <= len /\ y = .int .i64 (k : Int) /\ Hid (Bx w wr zs k)) (fun y _ => 6 - (intOf y).toNat)
 case atStart => exact ⟨0, by omega, by omega, rfl, Bx.start w zs⟩
 case round =>
   obtain ⟨k, hk, hkl, rfl, HX⟩ := hrel
   have hlt0 : w.heap.size < wr.heap.size := block_lt HX.out.m
   have hlt1 : w.heap.size + 1 < wr.heap.size := block_lt HX.out.c
   have hlt2 : w.heap.size + 1 + 1 < wr.heap.size := block_lt HX.out.n
   by_cases hk6 : k < 6
   · have hlt' : (k : Int) < 6 := by omega
     by_cases h2 : 2 * k + 2 <= len
     · have KU := u16_yes a len cap (2 * k) zs wr (HR.out.below HX.out.b) HL.out hc hm h2
       rw [(nv_val HR.out.2 k).1] at KU
       have KU' : Hid (Calls Tryz.prog 111 _ wr _) := KU
       obtain ⟨v, hv⟩ := row_at zs k (by omega)
       have cc : wr.cell? ⟨w.heap.size + 1 + 1, k, none⟩ = some (.int .i64 v) := cell_of_block HX.out.n hv
       have ff := frozen_of_block (i := k) HX.out.n
       have HN := fun (N : Nat) (h : N = nv zs k) => (h ▸ HX.out.step hk6 : Bx w (wr.setCell ⟨w.heap.size + 1 + 1, k, none⟩ (.int .i64 (N : Int))) zs (k + 1))
       have HN' : ∀ N : Nat, N = nv zs k -> Hid (Bx w (wr.setCell ⟨w.heap.size + 1 + 1, k, none⟩ (.int .i64 (N : Int))) zs (k + 1)) := HN
       clear KU hv HN
       obtain ⟨N, hN⟩ : ∃ N, N = nv zs k := ⟨_, rfl⟩
       rw [<- hN] at KU'
       have HB := HN' N hN
       clear HN' hN
       go_wp2_with fail
       refine KU'.out.mono ?_
       rintro e w3 ⟨rfl, rfl⟩
       go_wp2
       go_round
       case rel => exact ⟨k + 1, by omega, by omega, by go_num, HB⟩
       case measure => simp [intOf]; omega
     · have KU : Hid (Calls Tryz.prog 111 _ wr _) := u16_no a len cap (2 * k : Nat) wr hc hm (by omega)
       have HS : Hid (zs.length < 12) := by show zs.length < 12; rw [HL.out]; omega
       have z0 : wr.cell? ⟨w.heap.size, 0, none⟩ = some (.int .u16 0) := cell_of_block HX.out.m rfl
       have z1 : wr.cell? ⟨w.heap.size, 1, none⟩ = some (.bool false) := cell_of_block HX.out.m rfl
       have z2 : wr.cell? ⟨w.heap.size, 2, none⟩ = some (.int .i64 0) := cell_of_block HX.out.m rfl
       have z3 : wr.cell? ⟨w.heap.size, 3, none⟩ = some (.bool false) := cell_of_block HX.out.m rfl
       have z4 : wr.cell? ⟨w.heap.size, 4, none⟩ = some (.bool false) := cell_of_block HX.out.m rfl
       have z5 : wr.cell? ⟨w.heap.size, 5, none⟩ = some (.bool false) := cell_of_block HX.out.m rfl
       have z6 : wr.cell? ⟨w.heap.size, 6, none⟩ = some (.bool false) := cell_of_block HX.out.m rfl
       have z7 : wr.cell? ⟨w.heap.size, 7, none⟩ = some (.bool false) := cell_of_block HX.out.m rfl
       have z8 : wr.cell? ⟨w.heap.size, 8, none⟩ = some (.bool false) := cell_of_block HX.out.m rfl
       have z9 : wr.cell? ⟨w.heap.size, 9, none⟩ = some (.int .i64 0) := cell_of_block HX.out.m rfl
       have z10 : wr.cell? ⟨w.heap.size, 10, none⟩ = some (.slice none 0 0) := cell_of_block HX.out.m rfl
       have z11 : wr.cell? ⟨w.heap.size, 11, none⟩ = some (.slice none 0 0) := cell_of_block HX.out.m rfl
       have z12 : wr.cell? ⟨w.heap.size, 12, none⟩ = some (.slice none 0 0) := cell_of_block HX.out.m rfl
       have z13 : wr.cell? ⟨w.heap.size, 13, none⟩ = some (.slice none 0 0) := cell_of_block HX.out.m rfl
       have f0 : wr.frozen? ⟨w.heap.size, 0, none⟩ = false := frozen_of_block HX.out.m
       have f1 : wr.frozen? ⟨w.heap.size, 1, none⟩ = false := frozen_of_block HX.out.m
       have f2 : wr.frozen? ⟨w.heap.size, 2, none⟩ = false := frozen_of_block HX.out.m
       have f3 : wr.frozen? ⟨w.heap.size, 3, none⟩ = false := frozen_of_block HX.out.m
       have f4 : wr.frozen? ⟨w.heap.size, 4, none⟩ = false := frozen_of_block HX.out.m
       have f5 : wr.frozen? ⟨w.heap.size, 5, none⟩ = false := frozen_of_block HX.out.m
       have f6 : wr.frozen? ⟨w.heap.size, 6, none⟩ = false := frozen_of_block HX.out.m
       have f7 : wr.frozen? ⟨w.heap.size, 7, none⟩ = false := frozen_of_block HX.out.m
       have f8 : wr.frozen? ⟨w.heap.size, 8, none⟩ = false := frozen_of_block HX.out.m
       have f9 : wr.frozen? ⟨w.heap.size, 9, none⟩ = false := frozen_of_block HX.out.m
       have f10 : wr.frozen? ⟨w.heap.size, 10, none⟩ = false := frozen_of_block HX.out.m
       have f11 : wr.frozen? ⟨w.heap.size, 11, none⟩ = false := frozen_of_block HX.out.m
       have f12 : wr.frozen? ⟨w.heap.size, 12, none⟩ = false := frozen_of_block HX.out.m
       have f13 : wr.frozen? ⟨w.heap.size, 13, none⟩ = false := frozen_of_block HX.out.m
       have y0 : wr.cell? ⟨w.heap.size + 1, 0, none⟩ = some (.int .i64 0) := cell_of_block HX.out.c rfl
       have y1 : wr.cell? ⟨w.heap.size + 1, 1, none⟩ = some (.int .i64 0) := cell_of_block HX.out.c rfl
       have y2 : wr.cell? ⟨w.heap.size + 1, 2, none⟩ = some (.int .i64 0) := cell_of_block HX.out.c rfl
       have y3 : wr.cell? ⟨w.heap.size + 1, 3, none⟩ = some (.int .i64 0) := cell_of_block HX.out.c rfl
       have g0 : wr.frozen? ⟨w.heap.size + 1, 0, none⟩ = false := frozen_of_block HX.out.c
       have g1 : wr.frozen? ⟨w.heap.size + 1, 1, none⟩ = false := frozen_of_block HX.out.c
       have g2 : wr.frozen? ⟨w.heap.size + 1, 2, none⟩ = false := frozen_of_block HX.out.c
       have g3 : wr.frozen? ⟨w.heap.size + 1, 3, none⟩ = false := frozen_of_block HX.out.c
       go_wp2_with fail
       refine KU.out.mono ?_
       rintro e w3 ⟨rfl, rfl⟩
       go_wp2
       refine bodyPost_ret (v := .tuple #[.agg #[.int .u16 0, .bool false, .int .i64 0, .bool false, .bool false, .bool false, .bool false, .bool false, .bool false, .int .i64 0, .slice none 0 0, .slice none 0 0, .slice none 0 0, .slice none 0 0], .agg #[.int .i64 0, .int .i64 0, .int .i64 0, .int .i64 0], .int .i64 8]) ?_ rfl ⟨fun _ => rfl, fun h => absurd (.inl HS.out) h, ?_⟩
       · simp [results, Tryz.results88, go_sem, hlt0, hlt1, z0, z1, z2, z3, z4, z5, z6, z7, z8, z9, z10, z11, z12, z13, y0, y1, y2, y3]
       · iterate 18 refine Below.setCell ?_ (by simp) _
         exact HX.out.b
   · obtain rfl : k = 6 := by omega
     have HE : Hid (¬ zs.length < 12) := by show ¬ zs.length < 12; rw [HL.out]; omega
     have hn := HX.out.n
     have b0 := (nv_val HR.out.2 0).2
     have b1 := (nv_val HR.out.2 1).2
     have b2 := (nv_val HR.out.2 2).2
     have b3 := (nv_val HR.out.2 3).2
     have b4 := (nv_val HR.out.2 4).2
     have b5 := (nv_val HR.out.2 5).2
     have HP : Hid (∀ e w', ((unfl (nv zs 1) 64 = true -> e = .returned (.tuple #[.agg zeroM, .agg #[.int .i64 0, .int .i64 0, .int .i64 0, .int .i64 0], .int .i64 8])) /\ (unfl (nv zs 1) 64 = false -> e = .returned (.tuple #[.agg (msgU (nv zs 0) (nv zs 1)), .agg #[.int .i64 (nv zs 2 : Int), .int .i64 (nv zs 3 : Int), .int .i64 (nv zs 4 : Int), .int .i64 (nv zs 5 : Int)], .int .i64 0])) /\ Below w.heap.size w w') -> RdPost w zs e w') := by
       intro e w' ⟨h1, h2, h3⟩
       refine ⟨fun h => h1 (h.resolve_left HE.out), fun h => h2 ?_, h3⟩
       cases hq : unfl (nv zs 1) 64
       · rfl
       · exact absurd (.inr hq) h
     have HM : Hid (wr.heap[w.heap.size]? = some (.cells zeroM 26) /\ wr.heap[w.heap.size + 1]? = some (.cells #[.int .i64 0, .int .i64 0, .int .i64 0, .int .i64 0] 74) /\ Below w.heap.size w wr) := ⟨HX.out.m, HX.out.c, HX.out.b⟩
     have HN : Hid (wr.heap[w.heap.size + 1 + 1]? = some (.cells #[.int .i64 (nv zs 0 : Int), .int .i64 (nv zs 1 : Int), .int .i64 (nv zs 2 : Int), .int .i64 (nv zs 3 : Int), .int .i64 (nv zs 4 : Int), .int .i64 (nv zs 5 : Int)] 114)) := hn
     clear hn HX
     generalize nv zs 0 = I at *
     generalize nv zs 1 = F at *
     generalize nv zs 2 = C0 at *
     generalize nv zs 3 = C1 at *
     generalize nv zs 4 = C2 at *
     generalize nv zs 5 = C3 at *
     have n0 : wr.cell? ⟨w.heap.size + 1 + 1, 0, none⟩ = some (.int .i64 (I : Int)) := cell_of_block HN.out rfl
     have n1 : wr.cell? ⟨w.heap.size + 1 + 1, 1, none⟩ = some (.int .i64 (F : Int)) := cell_of_block HN.out rfl
     have n2 : wr.cell? ⟨w.heap.size + 1 + 1, 2, none⟩ = some (.int .i64 (C0 : Int)) := cell_of_block HN.out rfl
     have n3 : wr.cell? ⟨w.heap.size + 1 + 1, 3, none⟩ = some (.int .i64 (C1 : Int)) := cell_of_block HN.out rfl
     have n4 : wr.cell? ⟨w.heap.size + 1 + 1, 4, none⟩ = some (.int .i64 (C2 : Int)) := cell_of_block HN.out rfl
     have n5 : wr.cell? ⟨w.heap.size + 1 + 1, 5, none⟩ = some (.int .i64 (C3 : Int)) := cell_of_block HN.out rfl
     cases h6 : unfl F 64
     · have KP : Hid (Calls Tryz.prog 112 #[.int .i64 (F : Int)] wr fun e w' => e = .returned (.tuple #[.agg #[.int .u16 0, .bool (unfl F 32768), .int .i64 (unop F : Nat), .bool (unfl F 1024), .bool (unfl F 512), .bool (unfl F 256), .bool (unfl F 128), .bool (unfl F 32), .bool (unfl F 16), .int .i64 (unrc F : Nat), .slice none 0 0, .slice none 0 0, .slice none 0 0, .slice none 0 0], .int .i64 0]) /\ Below wr.heap.size wr w') := unpack_ok F wr b1 h6
       go_wp2_with fail
       refine KP.out.mono ?_
       rintro e w3 ⟨rfl, hb3⟩
       have hsz := hb3.size
       have g0 := Nat.lt_of_lt_of_le hlt0 hsz
       have g1 := Nat.lt_of_lt_of_le hlt1 hsz
       have g2 := Nat.lt_of_lt_of_le hlt2 hsz
       have n0 : w3.cell? ⟨w.heap.size + 1 + 1, 0, none⟩ = some (.int .i64 (I : Int)) := (hb3.cell (p := ⟨_, _, none⟩) hlt2).trans n0
       have HB3 : Hid (Below wr.heap.size wr w3) := hb3
       have hmod : (I : Int) % 65536 = I := by omega
       have M3 := (hb3.block _ hlt0).trans HM.out.1
       have C3' := (hb3.block _ hlt1).trans HM.out.2.1
       have N3 := (hb3.block _ hlt2).trans HN.out
       have HB4 : Hid (Below w.heap.size w w3) := HM.out.2.2.trans (hb3.mono HM.out.2.2.size)
       obtain ⟨W2, hcopy, hM2, hC2, hR2, hS2, hlt5, hb5⟩ : ∃ W2, (Builtin.copy_ #[43, 43] 3 #[.slice (some ⟨w3.heap.size + 1, 0, none⟩) 4 4, .slice (some ⟨w.heap.size + 1 + 1, 2, none⟩) 4 4]).run Tryz.prog (((w3.alloc (.cells #[.int .u16 (I : Int), .bool (unfl F 32768), .int .i64 (unop F : Nat), .bool (unfl F 1024), .bool (unfl F 512), .bool (unfl F 256), .bool (unfl F 128), .bool (unfl F 32), .bool (unfl F 16), .int .i64 (unrc F : Nat), .slice none 0 0, .slice none 0 0, .slice none 0 0, .slice none 0 0] 26)).alloc (.cells #[.int .i64 0, .int .i64 0, .int .i64 0, .int .i64 0] 74)).drew) = .ok (.int .i64 4) W2 /\
           Hid (W2.heap[w3.heap.size]? = some (.cells #[.int .u16 (I : Int), .bool (unfl F 32768), .int .i64 (unop F : Nat), .bool (unfl F 1024), .bool (unfl F 512), .bool (unfl F 256), .bool (unfl F 128), .bool (unfl F 32), .bool (unfl F 16), .int .i64 (unrc F : Nat), .slice none 0 0, .slice none 0 0, .slice none 0 0, .slice none 0 0] 26)) /\ Hid (W2.heap[w3.heap.size + 1]? = some (.cells #[.int .i64 (C0 : Int), .int .i64 (C1 : Int), .int .i64 (C2 : Int), .int .i64 (C3 : Int)] 74)) /\ Hid (W2.heap[w.heap.size]? = some (.cells zeroM 26)) /\ Hid (W2.heap[w.heap.size + 1]? = some (.cells #[.int .i64 0, .int .i64 0, .int .i64 0, .int .i64 0] 74)) /\ w3.heap.size + 1 < W2.heap.size /\ Hid (Below w.heap.size w W2) := by
         have hbb : Below w3.heap.size w3 (((w3.alloc (.cells #[.int .u16 (I : Int), .bool (unfl F 32768), .int .i64 (unop F : Nat), .bool (unfl F 1024), .bool (unfl F 512), .bool (unfl F 256), .bool (unfl F 128), .bool (unfl F 32), .bool (unfl F 16), .int .i64 (unrc F : Nat), .slice none 0 0, .slice none 0 0, .slice none 0 0, .slice none 0 0] 26)).alloc (.cells #[.int .i64 0, .int .i64 0, .int .i64 0, .int .i64 0] 74)).drew) := (((Below.refl _ _).alloc (Nat.le_refl _) _).alloc (by simp) _).drew
         have hD : (((w3.alloc (.cells #[.int .u16 (I : Int), .bool (unfl F 32768), .int .i64 (unop F : Nat), .bool (unfl F 1024), .bool (unfl F 512), .bool (unfl F 256), .bool (unfl F 128), .bool (unfl F 32), .bool (unfl F 16), .int .i64 (unrc F : Nat), .slice none 0 0, .slice none 0 0, .slice none 0 0, .slice none 0 0] 26)).alloc (.cells #[.int .i64 0, .int .i64 0, .int .i64 0, .int .i64 0] 74)).drew).heap[w3.heap.size + 1]? = some (.cells #[.int .i64 0, .int .i64 0, .int .i64 0, .int .i64 0] 74) := by
           have := alloc_at (w3.alloc (.cells #[.int .u16 (I : Int), .bool (unfl F 32768), .int .i64 (unop F : Nat), .bool (unfl F 1024), .bool (unfl F 512), .bool (unfl F 256), .bool (unfl F 128), .bool (unfl F 32), .bool (unfl F 16), .int .i64 (unrc F : Nat), .slice none 0 0, .slice none 0 0, .slice none 0 0, .slice none 0 0] 26)) (.cells #[.int .i64 0, .int .i64 0, .int .i64 0, .int .i64 0] 74)
           simp only [World.size_alloc] at this
           exact this
         have hN5 := (hbb.block _ g2).trans N3
         refine ⟨_, copy_out _ _ _ 0 0 0 0 C0 C1 C2 C3 hD (cell_of_block hN5 rfl) (cell_of_block hN5 rfl) (cell_of_block hN5 rfl) (cell_of_block hN5 rfl), ?_, setRow_block hD _, ?_, ?_, ?_, ?_⟩
         · show _ = _
           rw [setRow_other _ _ _ _ (by omega)]
           exact block_alloc (alloc_at _ _) _
         · show _ = _
           rw [setRow_other _ _ _ _ (by omega)]
           exact (hbb.block _ g0).trans M3
         · show _ = _
           rw [setRow_other _ _ _ _ (by omega)]
           exact (hbb.block _ g1).trans C3'
         · rw [setRow_size]; exact block_lt hD
         · exact below_setRow (HB4.out.trans (hbb.mono HB4.out.size)) (by have := HB4.out.size; omega) _
       have hlt4 : w3.heap.size < W2.heap.size := by omega
       have k0 : w.heap.size < W2.heap.size := by omega
       have k1 : w.heap.size + 1 < W2.heap.size := by omega
       have x0 : W2.cell? ⟨w3.heap.size, 0, none⟩ = some (.int .u16 (I : Int)) := cell_of_block hM2.out rfl
       have x1 : W2.cell? ⟨w3.heap.size, 1, none⟩ = some (.bool (unfl F 32768)) := cell_of_block hM2.out rfl
       have x2 : W2.cell? ⟨w3.heap.size, 2, none⟩ = some (.int .i64 (unop F : Nat)) := cell_of_block hM2.out rfl
       have x3 : W2.cell? ⟨w3.heap.size, 3, none⟩ = some (.bool (unfl F 1024)) := cell_of_block hM2.out rfl
       have x4 : W2.cell? ⟨w3.heap.size, 4, none⟩ = some (.bool (unfl F 512)) := cell_of_block hM2.out rfl
       have x5 : W2.cell? ⟨w3.heap.size, 5, none⟩ = some (.bool (unfl F 256)) := cell_of_block hM2.out rfl
       have x6 : W2.cell? ⟨w3.heap.size, 6, none⟩ = some (.bool (unfl F 128)) := cell_of_block hM2.out rfl
       have x7 : W2.cell? ⟨w3.heap.size, 7, none⟩ = some (.bool (unfl F 32)) := cell_of_block hM2.out rfl
       have x8 : W2.cell? ⟨w3.heap.size, 8, none⟩ = some (.bool (unfl F 16)) := cell_of_block hM2.out rfl
       have x9 : W2.cell? ⟨w3.heap.size, 9, none⟩ = some (.int .i64 (unrc F : Nat)) := cell_of_block hM2.out rfl
       have x10 : W2.cell? ⟨w3.heap.size, 10, none⟩ = some (.slice none 0 0) := cell_of_block hM2.out rfl
       have x11 : W2.cell? ⟨w3.heap.size, 11, none⟩ = some (.slice none 0 0) := cell_of_block hM2.out rfl
       have x12 : W2.cell? ⟨w3.heap.size, 12, none⟩ = some (.slice none 0 0) := cell_of_block hM2.out rfl
       have x13 : W2.cell? ⟨w3.heap.size, 13, none⟩ = some (.slice none 0 0) := cell_of_block hM2.out rfl
       have t0 : W2.cell? ⟨w3.heap.size + 1, 0, none⟩ = some (.int .i64 (C0 : Int)) := cell_of_block hC2.out rfl
       have t1 : W2.cell? ⟨w3.heap.size + 1, 1, none⟩ = some (.int .i64 (C1 : Int)) := cell_of_block hC2.out rfl
       have t2 : W2.cell? ⟨w3.heap.size + 1, 2, none⟩ = some (.int .i64 (C2 : Int)) := cell_of_block hC2.out rfl
       have t3 : W2.cell? ⟨w3.heap.size + 1, 3, none⟩ = some (.int .i64 (C3 : Int)) := cell_of_block hC2.out rfl
       have z0 : W2.cell? ⟨w.heap.size, 0, none⟩ = some (.int .u16 0) := cell_of_block hR2.out rfl
       have z1 : W2.cell? ⟨w.heap.size, 1, none⟩ = some (.bool false) := cell_of_block hR2.out rfl
       have z2 : W2.cell? ⟨w.heap.size, 2, none⟩ = some (.int .i64 0) := cell_of_block hR2.out rfl
       have z3 : W2.cell? ⟨w.heap.size, 3, none⟩ = some (.bool false) := cell_of_block hR2.out rfl
       have z4 : W2.cell? ⟨w.heap.size, 4, none⟩ = some (.bool false) := cell_of_block hR2.out rfl
       have z5 : W2.cell? ⟨w.heap.size, 5, none⟩ = some (.bool false) := cell_of_block hR2.out rfl
       have z6 : W2.cell? ⟨w.heap.size, 6, none⟩ = some (.bool false) := cell_of_block hR2.out rfl
       have z7 : W2.cell? ⟨w.heap.size, 7, none⟩ = some (.bool false) := cell_of_block hR2.out rfl
       have z8 : W2.cell? ⟨w.heap.size, 8, none⟩ = some (.bool false) := cell_of_block hR2.out rfl
       have z9 : W2.cell? ⟨w.heap.size, 9, none⟩ = some (.int .i64 0) := cell_of_block hR2.out rfl
       have z10 : W2.cell? ⟨w.heap.size, 10, none⟩ = some (.slice none 0 0) := cell_of_block hR2.out rfl
       have z11 : W2.cell? ⟨w.heap.size, 11, none⟩ = some (.slice none 0 0) := cell_of_block hR2.out rfl
       have z12 : W2.cell? ⟨w.heap.size, 12, none⟩ = some (.slice none 0 0) := cell_of_block hR2.out rfl
       have z13 : W2.cell? ⟨w.heap.size, 13, none⟩ = some (.slice none 0 0) := cell_of_block hR2.out rfl
       have f0 : W2.frozen? ⟨w.heap.size, 0, none⟩ = false := frozen_of_block hR2.out
       have f1 : W2.frozen? ⟨w.heap.size, 1, none⟩ = false := frozen_of_block hR2.out
       have f2 : W2.frozen? ⟨w.heap.size, 2, none⟩ = false := frozen_of_block hR2.out
       have f3 : W2.frozen? ⟨w.heap.size, 3, none⟩ = false := frozen_of_block hR2.out
       have f4 : W2.frozen? ⟨w.heap.size, 4, none⟩ = false := frozen_of_block hR2.out
       have f5 : W2.frozen? ⟨w.heap.size, 5, none⟩ = false := frozen_of_block hR2.out
       have f6 : W2.frozen? ⟨w.heap.size, 6, none⟩ = false := frozen_of_block hR2.out
       have f7 : W2.frozen? ⟨w.heap.size, 7, none⟩ = false := frozen_of_block hR2.out
       have f8 : W2.frozen? ⟨w.heap.size, 8, none⟩ = false := frozen_of_block hR2.out
       have f9 : W2.frozen? ⟨w.heap.size, 9, none⟩ = false := frozen_of_block hR2.out
       have f10 : W2.frozen? ⟨w.heap.size, 10, none⟩ = false := frozen_of_block hR2.out
       have f11 : W2.frozen? ⟨w.heap.size, 11, none⟩ = false := frozen_of_block hR2.out
       have f12 : W2.frozen? ⟨w.heap.size, 12, none⟩ = false := frozen_of_block hR2.out
       have f13 : W2.frozen? ⟨w.heap.size, 13, none⟩ = false := frozen_of_block hR2.out
       have y0 : W2.cell? ⟨w.heap.size + 1, 0, none⟩ = some (.int .i64 0) := cell_of_block hS2.out rfl
       have y1 : W2.cell? ⟨w.heap.size + 1, 1, none⟩ = some (.int .i64 0) := cell_of_block hS2.out rfl
       have y2 : W2.cell? ⟨w.heap.size + 1, 2, none⟩ = some (.int .i64 0) := cell_of_block hS2.out rfl
       have y3 : W2.cell? ⟨w.heap.size + 1, 3, none⟩ = some (.int .i64 0) := cell_of_block hS2.out rfl
       have q0 : W2.frozen? ⟨w.heap.size + 1, 0, none⟩ = false := frozen_of_block hS2.out
       have q1 : W2.frozen? ⟨w.heap.size + 1, 1, none⟩ = false := frozen_of_block hS2.out
       have q2 : W2.frozen? ⟨w.heap.size + 1, 2, none⟩ = false := frozen_of_block hS2.out
       have q3 : W2.frozen? ⟨w.heap.size + 1, 3, none⟩ = false := frozen_of_block hS2.out
       clear hb3 hsz M3 C3' N3
       go_wp2_with fail
       go_region
       go_wp2_with fail
       go_region
       all_goals go_wp2_with fail
       refine bodyPost_ret (v := .tuple #[.agg #[.int .u16 (I : Int), .bool (unfl F 32768), .int .i64 (unop F : Nat), .bool (unfl F 1024), .bool (unfl F 512), .bool (unfl F 256), .bool (unfl F 128), .bool (unfl F 32), .bool (unfl F 16), .int .i64 (unrc F : Nat), .slice none 0 0, .slice none 0 0, .slice none 0 0, .slice none 0 0], .agg #[.int .i64 (C0 : Int), .int .i64 (C1 : Int), .int .i64 (C2 : Int), .int .i64 (C3 : Int)], .int .i64 0]) ?_ rfl (HP.out _ _ ⟨(fun h => by rw [h6] at h; cases h), fun _ => rfl, ?_⟩)
       · simp [results, Tryz.results88, go_sem, k0, k1, z0, z1, z2, z3, z4, z5, z6, z7, z8, z9, z10, z11, z12, z13, y0, y1, y2, y3]
       · refine Below.drew ?_
         iterate 18 refine Below.setCell ?_ (by simp) _
         exact hb5.out
     · have KP : Hid (Calls Tryz.prog 112 _ wr _) := unpack_no F wr b1 h6
       go_wp2_with fail
       refine KP.out.mono ?_
       rintro e w3 ⟨rfl, hb3⟩
       have hsz := hb3.size
       have g0 := Nat.lt_of_lt_of_le hlt0 hsz
       have g1 := Nat.lt_of_lt_of_le hlt1 hsz
       have M3 := (hb3.block _ hlt0).trans HM.out.1
       have C3 := (hb3.block _ hlt1).trans HM.out.2.1
       have HB3 : Hid (Below w.heap.size w w3) := HM.out.2.2.trans (hb3.mono HM.out.2.2.size)
       have z0 : w3.cell? ⟨w.heap.size, 0, none⟩ = some (.int .u16 0) := cell_of_block M3 rfl
       have z1 : w3.cell? ⟨w.heap.size, 1, none⟩ = some (.bool false) := cell_of_block M3 rfl
       have z2 : w3.cell? ⟨w.heap.size, 2, none⟩ = some (.int .i64 0) := cell_of_block M3 rfl
       have z3 : w3.cell? ⟨w.heap.size, 3, none⟩ = some (.bool false) := cell_of_block M3 rfl
       have z4 : w3.cell? ⟨w.heap.size, 4, none⟩ = some (.bool false) := cell_of_block M3 rfl
       have z5 : w3.cell? ⟨w.heap.size, 5, none⟩ = some (.bool false) := cell_of_block M3 rfl
       have z6 : w3.cell? ⟨w.heap.size, 6, none⟩ = some (.bool false) := cell_of_block M3 rfl
       have z7 : w3.cell? ⟨w.heap.size, 7, none⟩ = some (.bool false) := cell_of_block M3 rfl
       have z8 : w3.cell? ⟨w.heap.size, 8, none⟩ = some (.bool false) := cell_of_block M3 rfl
       have z9 : w3.cell? ⟨w.heap.size, 9, none⟩ = some (.int .i64 0) := cell_of_block M3 rfl
       have z10 : w3.cell? ⟨w.heap.size, 10, none⟩ = some (.slice none 0 0) := cell_of_block M3 rfl
       have z11 : w3.cell? ⟨w.heap.size, 11, none⟩ = some (.slice none 0 0) := cell_of_block M3 rfl
       have z12 : w3.cell? ⟨w.heap.size, 12, none⟩ = some (.slice none 0 0) := cell_of_block M3 rfl
       have z13 : w3.cell? ⟨w.heap.size, 13, none⟩ = some (.slice none 0 0) := cell_of_block M3 rfl
       have f0 : w3.frozen? ⟨w.heap.size, 0, none⟩ = false := frozen_of_block M3
       have f1 : w3.frozen? ⟨w.heap.size, 1, none⟩ = false := frozen_of_block M3
       have f2 : w3.frozen? ⟨w.heap.size, 2, none⟩ = false := frozen_of_block M3
       have f3 : w3.frozen? ⟨w.heap.size, 3, none⟩ = false := frozen_of_block M3
       have f4 : w3.frozen? ⟨w.heap.size, 4, none⟩ = false := frozen_of_block M3
       have f5 : w3.frozen? ⟨w.heap.size, 5, none⟩ = false := frozen_of_block M3
       have f6 : w3.frozen? ⟨w.heap.size, 6, none⟩ = false := frozen_of_block M3
       have f7 : w3.frozen? ⟨w.heap.size, 7, none⟩ = false := frozen_of_block M3
       have f8 : w3.frozen? ⟨w.heap.size, 8, none⟩ = false := frozen_of_block M3
       have f9 : w3.frozen? ⟨w.heap.size, 9, none⟩ = false := frozen_of_block M3
       have f10 : w3.frozen? ⟨w.heap.size, 10, none⟩ = false := frozen_of_block M3
       have f11 : w3.frozen? ⟨w.heap.size, 11, none⟩ = false := frozen_of_block M3
       have f12 : w3.frozen? ⟨w.heap.size, 12, none⟩ = false := frozen_of_block M3
       have f13 : w3.frozen? ⟨w.heap.size, 13, none⟩ = false := frozen_of_block M3
       have y0 : w3.cell? ⟨w.heap.size + 1, 0, none⟩ = some (.int .i64 0) := cell_of_block C3 rfl
       have y1 : w3.cell? ⟨w.heap.size + 1, 1, none⟩ = some (.int .i64 0) := cell_of_block C3 rfl
       have y2 : w3.cell? ⟨w.heap.size + 1, 2, none⟩ = some (.int .i64 0) := cell_of_block C3 rfl
       have y3 : w3.cell? ⟨w.heap.size + 1, 3, none⟩ = some (.int .i64 0) := cell_of_block C3 rfl
       have q0 : w3.frozen? ⟨w.heap.size + 1, 0, none⟩ = false := frozen_of_block C3
       have q1 : w3.frozen? ⟨w.heap.size + 1, 1, none⟩ = false := frozen_of_block C3
       have q2 : w3.frozen? ⟨w.heap.size + 1, 2, none⟩ = false := frozen_of_block C3
       have q3 : w3.frozen? ⟨w.heap.size + 1, 3, none⟩ = false := frozen_of_block C3
       clear hb3 M3 C3 hsz
       go_wp2
       refine bodyPost_ret (v := .tuple #[.agg #[.int .u16 0, .bool false, .int .i64 0, .bool false, .bool false, .bool false, .bool false, .bool false, .bool false, .int .i64 0, .slice none 0 0, .slice none 0 0, .slice none 0 0, .slice none 0 0], .agg #[.int .i64 0, .int .i64 0, .int .i64 0, .int .i64 0], .int .i64 8]) ?_ rfl (HP.out _ _ ⟨fun _ => rfl, (fun h => by rw [h6] at h; cases h), ?_⟩)
       · simp [results, Tryz.results88, go_sem, g0, g1, z0, z1, z2, z3, z4, z5, z6, z7, z8, z9, z10, z11, z12, z13, y0, y1, y2, y3]
       · refine Below.alloc ?_ (by simp; omega) _
         iterate 18 refine Below.setCell ?_ (by simp) _
         exact HB3.out
end Go.Proofs.YtkjnbgekaifdfaaGreat
namespace Go.Proofs.YtkjnbgekaifdfaaGreat
open Go.ChangeShapes Go.WideShapes Go.ChangeAt Go.RowKit
def Sames (f : Nat) (w : World) (x y : Value) : Prop := ∀ W, Below w.heap.size w W -> Calls Tryz.prog f #[x, y] W fun e w' => e = .returned (.bool true) /\ Below W.heap.size W w'
set_option maxHeartbeats 4000000 in
theorem sameM (id : Int) (rs : Bool) (op : Int) (aa tc rd ra ad cd : Bool) (rc : Int) (a1 a2 a3 a4 d1 d2 d3 d4 : Option Addr) (n1 n2 n3 n4 c1 c2 c3 c4 m1 m2 m3 m4 k1 k2 k3 k4 : Nat) (w : World)
   (h1 : Sames 45 w (.slice a1 n1 c1) (.slice d1 m1 k1)) (h2 : Sames 46 w (.slice a2 n2 c2) (.slice d2 m2 k2)) (h3 : Sames 46 w (.slice a3 n3 c3) (.slice d3 m3 k3)) (h4 : Sames 46 w (.slice a4 n4 c4) (.slice d4 m4 k4)) :
   Calls Tryz.prog 20 #[.agg #[.int .u16 id, .bool rs, .int .i64 op, .bool aa, .bool tc, .bool rd, .bool ra, .bool ad, .bool cd, .int .i64 rc, .slice a1 n1 c1, .slice a2 n2 c2, .slice a3 n3 c3, .slice a4 n4 c4], .agg #[.int .u16 id, .bool rs, .int .i64 op, .bool aa, .bool tc, .bool rd, .bool ra, .bool ad, .bool cd, .int .i64 rc, .slice d1 m1 k1, .slice d2 m2 k2, .slice d3 m3 k3, .slice d4 m4 k4]] w fun e w' => e = .returned (.bool true) /\ Below w.heap.size w w' := by
 have H1 : Hid (Sames 45 w (.slice a1 n1 c1) (.slice d1 m1 k1)) := h1
 have H2 : Hid (Sames 46 w (.slice a2 n2 c2) (.slice d2 m2 k2)) := h2
 have H3 : Hid (Sames 46 w (.slice a3 n3 c3) (.slice d3 m3 k3)) := h3
 have H4 : Hid (Sames 46 w (.slice a4 n4 c4) (.slice d4 m4 k4)) := h4
 clear h1 h2 h3 h4
 go_enter Tryz.func20, Tryz.ntmps20
 go_wp2_with fail
 obtain ⟨W0, hW0⟩ : ∃ W0, W0 = (w.alloc (.cells #[.int .u16 id, .bool rs, .int .i64 op, .bool aa, .bool tc, .bool rd, .bool ra, .bool ad, .bool cd, .int .i64 rc, .slice a1 n1 c1, .slice a2 n2 c2, .slice a3 n3 c3, .slice a4 n4 c4] 26)).alloc (.cells #[.int .u16 id, .bool rs, .int .i64 op, .bool aa, .bool tc, .bool rd, .bool ra, .bool ad, .bool cd, .int .i64 rc, .slice d1 m1 k1, .slice d2 m2 k2, .slice d3 m3 k3, .slice d4 m4 k4] 26) := ⟨_, rfl⟩
 rw [<- hW0]
 have HB0 : Hid (Below w.heap.size w W0 /\ W0.heap[w.heap.size]? = some (.cells #[.int .u16 id, .bool rs, .int .i64 op, .bool aa, .bool tc, .bool rd, .bool ra, .bool ad, .bool cd, .int .i64 rc, .slice a1 n1 c1, .slice a2 n2 c2, .slice a3 n3 c3, .slice a4 n4 c4] 26) /\ W0.heap[w.heap.size + 1]? = some (.cells #[.int .u16 id, .bool rs, .int .i64 op, .bool aa, .bool tc, .bool rd, .bool ra, .bool ad, .bool cd, .int .i64 rc, .slice d1 m1 k1, .slice d2 m2 k2, .slice d3 m3 k3, .slice d4 m4 k4] 26)) := by
   rw [hW0]
   refine ⟨((Below.refl _ _).alloc (Nat.le_refl _) _).alloc (by simp) _, block_alloc (alloc_at _ _) _, ?_⟩
   have := alloc_at (w.alloc (.cells #[.int .u16 id, .bool rs, .int .i64 op, .bool aa, .bool tc, .bool rd, .bool ra, .bool ad, .bool cd, .int .i64 rc, .slice a1 n1 c1, .slice a2 n2 c2, .slice a3 n3 c3, .slice a4 n4 c4] 26)) (.cells #[.int .u16 id, .bool rs, .int .i64 op, .bool aa, .bool tc, .bool rd, .bool ra, .bool ad, .bool cd, .int .i64 rc, .slice d1 m1 k1, .slice d2 m2 k2, .slice d3 m3 k3, .slice d4 m4 k4] 26)
   simp only [World.size_alloc] at this
   exact this
 clear hW0
 refine (H1.out W0 HB0.out.1).mono ?_
 rintro e w1 ⟨rfl, hb1⟩
 have HB1 : Hid (Below w.heap.size w w1 /\ w1.heap[w.heap.size]? = some (.cells #[.int .u16 id, .bool rs, .int .i64 op, .bool aa, .bool tc, .bool rd, .bool ra, .bool ad, .bool cd, .int .i64 rc, .slice a1 n1 c1, .slice a2 n2 c2, .slice a3 n3 c3, .slice a4 n4 c4] 26) /\ w1.heap[w.heap.size + 1]? = some (.cells #[.int .u16 id, .bool rs, .int .i64 op, .bool aa, .bool tc, .bool rd, .bool ra, .bool ad, .bool cd, .int .i64 rc, .slice d1 m1 k1, .slice d2 m2 k2, .slice d3 m3 k3, .slice d4 m4 k4] 26)) := ⟨HB0.out.1.trans (hb1.mono HB0.out.1.size), (hb1.block _ (block_lt HB0.out.2.1)).trans HB0.out.2.1, (hb1.block _ (block_lt HB0.out.2.2)).trans HB0.out.2.2⟩
 clear hb1
 have p1 := block_lt HB1.out.2.1
 have q1 := block_lt HB1.out.2.2
 have x1 : w1.cell? ⟨w.heap.size, 11, none⟩ = some (.slice a2 n2 c2) := cell_of_block HB1.out.2.1 rfl
 have y1 : w1.cell? ⟨w.heap.size + 1, 11, none⟩ = some (.slice d2 m2 k2) := cell_of_block HB1.out.2.2 rfl
 go_wp2_with fail
 refine (H2.out w1 HB1.out.1).mono ?_
 rintro e w2 ⟨rfl, hb2⟩
 have HB2 : Hid (Below w.heap.size w w2 /\ w2.heap[w.heap.size]? = some (.cells #[.int .u16 id, .bool rs, .int .i64 op, .bool aa, .bool tc, .bool rd, .bool ra, .bool ad, .bool cd, .int .i64 rc, .slice a1 n1 c1, .slice a2 n2 c2, .slice a3 n3 c3, .slice a4 n4 c4] 26) /\ w2.heap[w.heap.size + 1]? = some (.cells #[.int .u16 id, .bool rs, .int .i64 op, .bool aa, .bool tc, .bool rd, .bool ra, .bool ad, .bool cd, .int .i64 rc, .slice d1 m1 k1, .slice d2 m2 k2, .slice d3 m3 k3, .slice d4 m4 k4] 26)) := ⟨HB1.out.1.trans (hb2.mono HB1.out.1.size), (hb2.block _ (block_lt HB1.out.2.1)).trans HB1.out.2.1, (hb2.block _ (block_lt HB1.out.2.2)).trans HB1.out.2.2⟩
 clear hb2
 have p2 := block_lt HB2.out.2.1
 have q2 := block_lt HB2.out.2.2
 have x2 : w2.cell? ⟨w.heap.size, 12, none⟩ = some (.slice a3 n3 c3) := cell_of_block HB2.out.2.1 rfl
 have y2 : w2.cell? ⟨w.heap.size + 1, 12, none⟩ = some (.slice d3 m3 k3) := cell_of_block HB2.out.2.2 rfl
 go_wp2_with fail
 refine (H3.out w2 HB2.out.1).mono ?_
 rintro e w3 ⟨rfl, hb3⟩
 have HB3 : Hid (Below w.heap.size w w3 /\ w3.heap[w.heap.size]? = some (.cells #[.int .u16 id, .bool rs, .int .i64 op, .bool aa, .bool tc, .bool rd, .bool ra, .bool ad, .bool cd, .int .i64 rc, .slice a1 n1 c1, .slice a2 n2 c2, .slice a3 n3 c3, .slice a4 n4 c4] 26) /\ w3.heap[w.heap.size + 1]? = some (.cells #[.int .u16 id, .bool rs, .int .i64 op, .bool aa, .bool tc, .bool rd, .bool ra, .bool ad, .bool cd, .int .i64 rc, .slice d1 m1 k1, .slice d2 m2 k2, .slice d3 m3 k3, .slice d4 m4 k4] 26)) := ⟨HB2.out.1.trans (hb3.mono HB2.out.1.size), (hb3.block _ (block_lt HB2.out.2.1)).trans HB2.out.2.1, (hb3.block _ (block_lt HB2.out.2.2)).trans HB2.out.2.2⟩
 clear hb3
 have p3 := block_lt HB3.out.2.1
 have q3 := block_lt HB3.out.2.2
 have x3 : w3.cell? ⟨w.heap.size, 13, none⟩ = some (.slice a4 n4 c4) := cell_of_block HB3.out.2.1 rfl
 have y3 : w3.cell? ⟨w.heap.size + 1, 13, none⟩ = some (.slice d4 m4 k4) := cell_of_block HB3.out.2.2 rfl
 go_wp2_with fail
 refine (H4.out w3 HB3.out.1).mono ?_
 rintro e w4 ⟨rfl, hb4⟩
 have HB4 : Hid (Below w.heap.size w w4 /\ w4.heap[w.heap.size]? = some (.cells #[.int .u16 id, .bool rs, .int .i64 op, .bool aa, .bool tc, .bool rd, .bool ra, .bool ad, .bool cd, .int .i64 rc, .slice a1 n1 c1, .slice a2 n2 c2, .slice a3 n3 c3, .slice a4 n4 c4] 26) /\ w4.heap[w.heap.size + 1]? = some (.cells #[.int .u16 id, .bool rs, .int .i64 op, .bool aa, .bool tc, .bool rd, .bool ra, .bool ad, .bool cd, .int .i64 rc, .slice d1 m1 k1, .slice d2 m2 k2, .slice d3 m3 k3, .slice d4 m4 k4] 26)) := ⟨HB3.out.1.trans (hb4.mono HB3.out.1.size), (hb4.block _ (block_lt HB3.out.2.1)).trans HB3.out.2.1, (hb4.block _ (block_lt HB3.out.2.2)).trans HB3.out.2.2⟩
 clear hb4
 go_wp2
 go_ret
 exact ⟨rfl, HB4.out.1⟩
end Go.Proofs.YtkjnbgekaifdfaaGreat
namespace Go.Proofs.YtkjnbgekaifdfaaGreat
open Go.ChangeShapes Go.WideShapes Go.ChangeAt Go.RowKit
theorem nv_b16s (I F C0 C1 C2 C3 : Nat) (h0 : I < 65536) (h1 : F < 65536) (h2 : C0 < 65536) (h3 : C1 < 65536) (h4 : C2 < 65536) (h5 : C3 < 65536) :
   nv (b16s (nsL I F C0 C1 C2 C3)) 0 = I /\ nv (b16s (nsL I F C0 C1 C2 C3)) 1 = F /\ nv (b16s (nsL I F C0 C1 C2 C3)) 2 = C0 /\ nv (b16s (nsL I F C0 C1 C2 C3)) 3 = C1 /\ nv (b16s (nsL I F C0 C1 C2 C3)) 4 = C2 /\ nv (b16s (nsL I F C0 C1 C2 C3)) 5 = C3 := by
 simp only [nv, b16s, nsL, b16, val, List.flatMap_cons, List.flatMap_nil, List.cons_append, List.nil_append, List.append_nil, Nat.mul_zero, Nat.mul_one, Nat.reduceMul, List.drop_zero, List.drop_succ_cons, List.take_succ_cons, List.take_zero, List.foldl_cons, List.foldl_nil]
 omega
end Go.Proofs.YtkjnbgekaifdfaaGreat
namespace Go.Proofs.YtkjnbgekaifdfaaGreat
open Go.ChangeShapes Go.WideShapes Go.ChangeAt Go.RowKit
structure Mg where
 h : Hd
 qs : List Qn
 l1 : List Rec
 l2 : List Rec
 l3 : List Rec
def Rb (r : Rec) : Prop := r.t <= 65535 /\ r.cl <= 65535 /\ r.tt <= 4294967295
def Qb (q : Qn) : Prop := q.ty <= 65535 /\ q.cl <= 65535
def Mb (m : Mg) : Prop := m.h.id < 65536 /\ (∀ q ∈ m.qs, Qb q) /\ (∀ r ∈ m.l1, Rb r) /\ (∀ r ∈ m.l2, Rb r) /\ (∀ r ∈ m.l3, Rb r)
def hdN (h : Hd) : Nat := packN h.op.toNat h.rc.toNat h.rs h.aa h.tc h.rd h.ra h.ad h.cd
def hdB (h : Hd) (c0 c1 c2 c3 : Nat) : List Int := b16s (nsL h.id (hdN h : Nat) c0 c1 c2 c3)
def pbody (m : Mg) : Pc := psq (pls (m.qs.map pqn)) (psq (pls (m.l1.map prec)) (psq (pls (m.l2.map prec)) (pls (m.l3.map prec))))
def pmsg (m : Mg) : Pc := psq (pby (hdB m.h m.qs.length m.l1.length m.l2.length m.l3.length)) (pbody m)
def hdOk (h : Hd) : Prop := 0 <= h.op /\ h.op <= 15 /\ 0 <= h.rc /\ h.rc <= 15
instance (h : Hd) : Decidable (hdOk h) := inferInstanceAs (Decidable (_ /\ _))
def recE (r : Rec) : Int := if nck r.ow = 0 then checkF r.t r.d else nck r.ow
def recsE : List Rec -> Int
 | [] => 0
 | r :: l => if recE r = 0 then recsE l else recE r
def qnsE : List Qn -> Int
 | [] => 0
 | q :: l => if nck q.nm = 0 then qnsE l else nck q.nm
def tot (m : Mg) : Nat := m.l1.length + m.l2.length + m.l3.length
def chkM (m : Mg) : Int := if hdOk m.h then (if 16 < m.qs.length ∨ 512 < tot m then 3 else (if qnsE m.qs = 0 then recsE (m.l1 ++ (m.l2 ++ m.l3)) else qnsE m.qs)) else 2
theorem recsE_app : ∀ a b : List Rec, recsE (a ++ b) = if recsE a = 0 then recsE b else recsE a
 | [], b => by simp [recsE]
 | r :: a, b => by
   have ih := recsE_app a b
   have e1 : ∀ l, recsE (r :: l) = if recE r = 0 then recsE l else recE r := fun l => rfl
   rw [List.cons_append, e1 (a ++ b)]
   by_cases h : recE r = 0
   · have e2 : recsE (r :: a) = recsE a := by rw [e1, if_pos h]
     rw [if_pos h, e2, ih]
   · have e2 : recsE (r :: a) = recE r := by rw [e1, if_neg h]
     rw [if_neg h, e2, if_neg h]
theorem recsE_zero : ∀ {l : List Rec}, recsE l = 0 ↔ ∀ r ∈ l, nck r.ow = 0 /\ checkF r.t r.d = 0
 | [] => by simp [recsE]
 | r :: l => by
   have ih := recsE_zero (l := l)
   simp only [recsE, List.mem_cons, forall_eq_or_imp]
   constructor
   · intro h
     split at h
     · next h0 =>
       refine ⟨?_, ih.1 h⟩
       unfold recE at h0
       split at h0
       · next h1 => exact ⟨h1, h0⟩
       · next h1 => exact absurd h0 h1
     · next h0 => exact absurd h h0
   · rintro ⟨⟨h1, h2⟩, h3⟩
     have : recE r = 0 := by unfold recE; rw [if_pos h1, h2]
     rw [if_pos this]
     exact ih.2 h3
theorem qnsE_zero : ∀ {l : List Qn}, qnsE l = 0 ↔ ∀ q ∈ l, nck q.nm = 0
 | [] => by simp [qnsE]
 | q :: l => by
   have ih := qnsE_zero (l := l)
   simp only [qnsE, List.mem_cons, forall_eq_or_imp]
   constructor
   · intro h
     split at h
     · next h0 => exact ⟨h0, ih.1 h⟩
     · next h0 => exact absurd h h0
   · rintro ⟨h1, h3⟩
     rw [if_pos h1]
     exact ih.2 h3
structure ChkOk (m : Mg) : Prop where
 hd : hdOk m.h
 nq : m.qs.length <= 16
 nr : tot m <= 512
 qs : ∀ q ∈ m.qs, nck q.nm = 0
 l1 : ∀ r ∈ m.l1, nck r.ow = 0 /\ checkF r.t r.d = 0
 l2 : ∀ r ∈ m.l2, nck r.ow = 0 /\ checkF r.t r.d = 0
 l3 : ∀ r ∈ m.l3, nck r.ow = 0 /\ checkF r.t r.d = 0
theorem chkM_zero {m : Mg} : chkM m = 0 ↔ ChkOk m := by
 unfold chkM
 constructor
 · intro h
   split at h
   · next h1 =>
     split at h
     · cases h
     · next h2 =>
       split at h
       · next h3 =>
         have h4 := recsE_zero.1 h
         exact ⟨h1, by omega, by omega, qnsE_zero.1 h3, fun r hr => h4 r (by simp [hr]), fun r hr => h4 r (by simp [hr]), fun r hr => h4 r (by simp [hr])⟩
       · next h3 => exact absurd h h3
   · cases h
 · intro h
   rw [if_pos h.hd, if_neg (by have := h.nq; have := h.nr; omega), if_pos (qnsE_zero.2 h.qs)]
   refine recsE_zero.2 fun r hr => ?_
   simp only [List.mem_append] at hr
   rcases hr with hr | hr | hr
   · exact h.l1 r hr
   · exact h.l2 r hr
   · exact h.l3 r hr
def rdH (zs : List Int) : Hd := ⟨nv zs 0, unfl (nv zs 1) 32768, (unop (nv zs 1) : Nat), unfl (nv zs 1) 1024, unfl (nv zs 1) 512, unfl (nv zs 1) 256, unfl (nv zs 1) 128, unfl (nv zs 1) 32, unfl (nv zs 1) 16, (unrc (nv zs 1) : Nat)⟩
def gbody (c0 c1 c2 c3 : Nat) (zs : List Int) (p : Nat) : Option ((List Qn × List Rec × List Rec × List Rec) × Nat) :=
 (gmany (gqn zs) c0 p).bind fun q => (gmany (grec zs) c1 q.2).bind fun a => (gmany (grec zs) c2 a.2).bind fun u => (gmany (grec zs) c3 u.2).map fun d => ((q.1, a.1, u.1, d.1), d.2)
def hdBad (zs : List Int) : Prop := (zs.length < 12 ∨ unfl (nv zs 1) 64 = true) ∨ ¬ (nv zs 2 <= 16 /\ nv zs 3 + nv zs 4 + nv zs 5 <= 512)
instance (zs : List Int) : Decidable (hdBad zs) := inferInstanceAs (Decidable (_ ∨ _))
def gmsg (zs : List Int) : Option Mg :=
 if hdBad zs then none
 else (gbody (nv zs 2) (nv zs 3) (nv zs 4) (nv zs 5) zs 12).bind fun x => if x.2 = zs.length then some ⟨rdH zs, x.1.1, x.1.2.1, x.1.2.2.1, x.1.2.2.2⟩ else none
theorem bak_recs {l : List Rec} (h : ∀ r ∈ l, nck r.ow = 0 /\ checkF r.t r.d = 0) (hb : ∀ r ∈ l, Rb r) : Bak (pls (l.map prec)) (fun zs => gmany (grec zs) l.length) l /\ Kps (pls (l.map prec)) := by
 constructor
 · have := bak_many (r := grec) (l.map fun r => (prec r, r)) (by
     intro x hx
     obtain ⟨r, hr, rfl⟩ := List.mem_map.1 hx
     have hbr := hb r hr
     exact ⟨bak_rec (h r hr).1 (h r hr).2 hbr.1 hbr.2.1 hbr.2.2, kps_rec (h r hr).1 (h r hr).2⟩)
   simpa [List.map_map, Function.comp_def] using this
 · refine kps_ls _ fun f hf => ?_
   obtain ⟨r, hr, rfl⟩ := List.mem_map.1 hf
   exact kps_rec (h r hr).1 (h r hr).2
theorem bak_qns {l : List Qn} (h : ∀ r ∈ l, nck r.nm = 0) (hb : ∀ r ∈ l, Qb r) : Bak (pls (l.map pqn)) (fun zs => gmany (gqn zs) l.length) l /\ Kps (pls (l.map pqn)) := by
 constructor
 · have := bak_many (r := gqn) (l.map fun r => (pqn r, r)) (by
     intro x hx
     obtain ⟨r, hr, rfl⟩ := List.mem_map.1 hx
     exact ⟨bak_qn (h r hr) (hb r hr).1 (hb r hr).2, kps_qn (h r hr)⟩)
   simpa [List.map_map, Function.comp_def] using this
 · refine kps_ls _ fun f hf => ?_
   obtain ⟨r, hr, rfl⟩ := List.mem_map.1 hf
   exact kps_qn (h r hr)
theorem bak_body {m : Mg} (h : ChkOk m) (hb : Mb m) : Bak (pbody m) (gbody m.qs.length m.l1.length m.l2.length m.l3.length) (m.qs, m.l1, m.l2, m.l3) := by
 obtain ⟨q1, q2⟩ := bak_qns h.qs hb.2.1
 obtain ⟨a1, a2⟩ := bak_recs h.l1 hb.2.2.1
 obtain ⟨u1, u2⟩ := bak_recs h.l2 hb.2.2.2.1
 obtain ⟨d1, d2⟩ := bak_recs h.l3 hb.2.2.2.2
 exact bak_bind (k := fun q zs p => (gmany (grec zs) m.l1.length p).bind fun a => (gmany (grec zs) m.l2.length a.2).bind fun u => (gmany (grec zs) m.l3.length u.2).map fun d => ((q, a.1, u.1, d.1), d.2)) q1 q2
   (bak_bind (k := fun a zs p => (gmany (grec zs) m.l2.length p).bind fun u => (gmany (grec zs) m.l3.length u.2).map fun d => ((m.qs, a, u.1, d.1), d.2)) a1 a2
     (bak_bind (k := fun u zs p => (gmany (grec zs) m.l3.length p).map fun d => ((m.qs, m.l1, u, d.1), d.2)) u1 u2 (bak_map (fun d => (m.qs, m.l1, m.l2, d)) d1)))
theorem hdB_len (h : Hd) (c0 c1 c2 c3 : Nat) : (hdB h c0 c1 c2 c3).length = 12 := by rw [hdB, b16s_len]; rfl
theorem hdN_lt {h : Hd} (ho : hdOk h) : hdN h < 65536 := packN_lt (by have := ho.2.1; omega) (by have := ho.2.2.2; omega) _ _ _ _ _ _ _
theorem nv_app {zs ms : List Int} {j : Nat} (h : 2 * j + 2 <= zs.length) : nv (zs ++ ms) j = nv zs j := by
 unfold nv
 rw [List.drop_append_of_le_length (by omega), List.take_append_of_le_length (by simp; omega)]
theorem hdB_nv {h : Hd} {c0 c1 c2 c3 : Nat} (ho : hdOk h) (hi : h.id < 65536) (h0 : c0 < 65536) (h1 : c1 < 65536) (h2 : c2 < 65536) (h3 : c3 < 65536) (R : List Int) :
   rdH (hdB h c0 c1 c2 c3 ++ R) = h /\ unfl (nv (hdB h c0 c1 c2 c3 ++ R) 1) 64 = false /\ nv (hdB h c0 c1 c2 c3 ++ R) 2 = c0 /\ nv (hdB h c0 c1 c2 c3 ++ R) 3 = c1 /\ nv (hdB h c0 c1 c2 c3 ++ R) 4 = c2 /\ nv (hdB h c0 c1 c2 c3 ++ R) 5 = c3 := by
 have hl := hdB_len h c0 c1 c2 c3
 obtain ⟨e0, e1, e2, e3, e4, e5⟩ := nv_b16s h.id (hdN h) c0 c1 c2 c3 hi (hdN_lt ho) h0 h1 h2 h3
 unfold rdH
 rw [nv_app (by omega), nv_app (by omega), nv_app (by omega), nv_app (by omega), nv_app (by omega), nv_app (by omega)]
 unfold hdB
 rw [e0, e1, e2, e3, e4, e5]
 have hU := un_pack (op := h.op.toNat) (rc := h.rc.toNat) (by have := ho.2.1; omega) (by have := ho.2.2.2; omega) h.rs h.aa h.tc h.rd h.ra h.ad h.cd (hdN h) rfl
 obtain ⟨u1, u2, u3, u4, u5, u6, u7, u8, u9, u10⟩ := hU
 refine ⟨?_, ?_, rfl, rfl, rfl, rfl⟩
 · obtain ⟨id, rs, op, aa, tc, rd, ra, ad, cd, rc⟩ := h
   simp only [Hd.mk.injEq]
   have a1 := ho.1
   have a2 := ho.2.2.1
   simp only at *
   simp only [*]
   simp
   omega
 · assumption
theorem prun_some {f : Pc} {tx : List Int} {pl : PLs} {s : List Int × PLs} (h : prun f (some (tx, pl)) = some s) : s = (tx ++ (f pl tx.length).1, (f pl tx.length).2) /\ tx.length + (f pl tx.length).1.length <= 65535 := by
 simp only [prun, Option.bind_some] at h
 split at h
 · cases h
 · next hn => cases h; exact ⟨rfl, by omega⟩
theorem msg_back {m : Mg} (h : ChkOk m) (hb : Mb m) {zs : List Int} {pl : PLs} (hr : prun (pmsg m) (some ([], [])) = some (zs, pl)) : gmsg zs = some m /\ zs.length <= 65535 /\ 12 <= zs.length := by
 obtain ⟨e, hl⟩ := prun_some hr
 simp only [List.nil_append, List.length_nil, Nat.zero_add, Prod.mk.injEq] at e hl
 have hH := hdB_len m.h m.qs.length m.l1.length m.l2.length m.l3.length
 have hz : zs = hdB m.h m.qs.length m.l1.length m.l2.length m.l3.length ++ (pbody m [] 12).1 := by
   rw [e.1]; simp only [pmsg, psq, pby, hH, Nat.zero_add]
 have hzl : zs.length = 12 + (pbody m [] 12).1.length := by rw [hz, List.length_append, hH]
 have hzb : zs.length <= 65535 := by rw [e.1]; exact hl
 have hnr := h.nr
 have hnq := h.nq
 unfold tot at hnr
 obtain ⟨n0, n1, n2, n3, n4, n5⟩ := hdB_nv (c0 := m.qs.length) (c1 := m.l1.length) (c2 := m.l2.length) (c3 := m.l3.length) h.hd hb.1 (by omega) (by omega) (by omega) (by omega) (pbody m [] 12).1
 have hB := bak_body h hb (hdB m.h m.qs.length m.l1.length m.l2.length m.l3.length) [] [] (QInv.nil0 _)
 rw [hH, List.append_nil, <- hz] at hB
 have hB := hB (by omega)
 rw [<- hz] at n0 n1 n2 n3 n4 n5
 refine ⟨?_, hzb, by omega⟩
 have hnb : ¬ hdBad zs := by
   unfold hdBad
   rw [n1, n2, n3, n4, n5]
   simp
   omega
 unfold gmsg
 rw [if_neg hnb, n2, n3, n4, n5, hB]
 simp only [Option.bind_some]
 rw [if_pos hzl.symm, n0]
theorem gmany_behind {zs : List Int} : ∀ (k p : Nat) (r : List (List ByteArray) × Nat), p <= zs.length -> gmany (gnm zs) k p = some r -> p <= r.2 /\ r.2 <= zs.length
 | 0, p, r, hp, h => by simp only [gmany, Option.some.injEq] at h; subst h; exact ⟨Nat.le_refl _, hp⟩
 | k + 1, p, r, hp, h => by
   simp only [gmany] at h
   cases e : gnm zs p with
   | none => rw [e] at h; cases h
   | some a =>
     rw [e] at h
     simp only [Option.bind_some] at h
     have hb := qgo_behind (show qgo zs true p p none [] = some (a.1, a.2) from e)
     cases e2 : gmany (gnm zs) k a.2 with
     | none => rw [e2] at h; cases h
     | some y =>
       rw [e2] at h
       simp only [Option.map_some, Option.some.injEq] at h
       subst h
       have := gmany_behind k a.2 y hb.2 e2
       exact ⟨by omega, this.2⟩
theorem gmany_all {α : Type} {f : Nat -> Option (α × Nat)} {P : α -> Prop} (hf : ∀ p r, f p = some r -> P r.1) : ∀ (k p : Nat) (r : List α × Nat), gmany f k p = some r -> r.1.length = k /\ ∀ x ∈ r.1, P x
 | 0, p, r, h => by simp only [gmany, Option.some.injEq] at h; subst h; simp
 | k + 1, p, r, h => by
   simp only [gmany] at h
   cases e : f p with
   | none => rw [e] at h; cases h
   | some a =>
     rw [e] at h
     simp only [Option.bind_some] at h
     cases e2 : gmany f k a.2 with
     | none => rw [e2] at h; cases h
     | some y =>
       rw [e2] at h
       simp only [Option.map_some, Option.some.injEq] at h
       subst h
       obtain ⟨h1, h2⟩ := gmany_all hf k a.2 y e2
       refine ⟨by simp [h1], fun x hx => ?_⟩
       simp only [List.mem_cons] at hx
       rcases hx with rfl | hx
       · exact hf p a e
       · exact h2 x hx
theorem g16_bd {zs : List Int} {p : Nat} {r : Nat × Nat} (hz : ∀ z ∈ zs, 0 <= z /\ z <= 255) (h : g16 zs p = some r) : r.1 <= 65535 := by
 unfold g16 at h
 split at h
 · next hl =>
   cases h
   have hlen : ((zs.drop p).take 2).length = 2 := by simp; omega
   have := (val_bd ((zs.drop p).take 2) (fun z hz' => hz z (List.mem_of_mem_drop (List.mem_of_mem_take hz')))).2
   rw [hlen] at this
   unfold gNum
   omega
 · cases h
theorem g32_bd {zs : List Int} {p : Nat} {r : Nat × Nat} (hz : ∀ z ∈ zs, 0 <= z /\ z <= 255) (h : g32 zs p = some r) : r.1 <= 4294967295 := by
 unfold g32 at h
 split at h
 · next hl =>
   cases h
   have hlen : ((zs.drop p).take 4).length = 4 := by simp; omega
   have := (val_bd ((zs.drop p).take 4) (fun z hz' => hz z (List.mem_of_mem_drop (List.mem_of_mem_take hz')))).2
   rw [hlen] at this
   unfold gNum
   omega
 · cases h
theorem gdat_ok {t size : Nat} {zs : List Int} {p : Nat} {r : Dat × Nat} (h : gdat t size zs p = some r) : checkF t r.1 = 0 := by
 unfold gdat at h
 split at h
 · cases e : gpl t zs p (p + size) with
   | none => rw [e] at h; cases h
   | some b =>
     rw [e] at h
     simp only [Option.bind_some, Option.map_eq_some_iff] at h
     obtain ⟨d, hd, rfl⟩ := h
     unfold gdr at hd
     split at hd
     · exact (write_read hd).1
     · cases hd
 · cases h
theorem grec_ok {zs : List Int} {p : Nat} {r : Rec × Nat} (hz : ∀ z ∈ zs, 0 <= z /\ z <= 255) (h : grec zs p = some r) : (nck r.1.ow = 0 /\ checkF r.1.t r.1.d = 0) /\ Rb r.1 := by
 unfold grec at h
 simp only [Option.bind_eq_some_iff, Option.map_eq_some_iff] at h
 obtain ⟨o, ho, t, ht, c, hc, l, hl, s, hs, d, hd, rfl⟩ := h
 exact ⟨⟨qgo_name (show qgo zs true p p none [] = some (o.1, o.2) from ho) nck_nil, gdat_ok hd⟩, g16_bd hz ht, g16_bd hz hc, g32_bd hz hl⟩
theorem gqn_ok {zs : List Int} {p : Nat} {r : Qn × Nat} (hz : ∀ z ∈ zs, 0 <= z /\ z <= 255) (h : gqn zs p = some r) : nck r.1.nm = 0 /\ Qb r.1 := by
 unfold gqn at h
 simp only [Option.bind_eq_some_iff, Option.map_eq_some_iff] at h
 obtain ⟨o, ho, t, ht, c, hc, rfl⟩ := h
 exact ⟨qgo_name (show qgo zs true p p none [] = some (o.1, o.2) from ho) nck_nil, g16_bd hz ht, g16_bd hz hc⟩
theorem msg_sound {zs : List Int} {m : Mg} (hz : ∀ z ∈ zs, 0 <= z /\ z <= 255) (h : gmsg zs = some m) : ChkOk m /\ Mb m := by
 unfold gmsg at h
 split at h
 · cases h
 · next hb =>
   simp only [Option.bind_eq_some_iff] at h
   obtain ⟨x, hx, h⟩ := h
   split at h
   · cases h
     unfold gbody at hx
     simp only [Option.bind_eq_some_iff, Option.map_eq_some_iff] at hx
     obtain ⟨q, hq, a, ha, u, hu, d, hd, rfl⟩ := hx
     obtain ⟨q1, q2⟩ := gmany_all (P := fun r => nck r.nm = 0 /\ Qb r) (fun p r h => gqn_ok hz h) _ _ _ hq
     obtain ⟨a1, a2⟩ := gmany_all (P := fun r => (nck r.ow = 0 /\ checkF r.t r.d = 0) /\ Rb r) (fun p r h => grec_ok hz h) _ _ _ ha
     obtain ⟨u1, u2⟩ := gmany_all (P := fun r => (nck r.ow = 0 /\ checkF r.t r.d = 0) /\ Rb r) (fun p r h => grec_ok hz h) _ _ _ hu
     obtain ⟨d1, d2⟩ := gmany_all (P := fun r => (nck r.ow = 0 /\ checkF r.t r.d = 0) /\ Rb r) (fun p r h => grec_ok hz h) _ _ _ hd
     unfold hdBad at hb
     have hN := (nv_val hz 0).2
     refine ⟨⟨?_, ?_, ?_, fun r hr => (q2 r hr).1, fun r hr => (a2 r hr).1, fun r hr => (u2 r hr).1, fun r hr => (d2 r hr).1⟩, ?_, fun r hr => (q2 r hr).2, fun r hr => (a2 r hr).2, fun r hr => (u2 r hr).2, fun r hr => (d2 r hr).2⟩
     · simp only [hdOk, rdH, unop, unrc]; omega
     · simp only [q1]; omega
     · simp only [tot, a1, u1, d1]; omega
     · exact hN
   · cases h
end Go.Proofs.YtkjnbgekaifdfaaGreat
namespace Go.Proofs.YtkjnbgekaifdfaaGreat
open Go.ChangeShapes Go.WideShapes Go.ChangeAt Go.RowKit
theorem qread_in (zs : List Int) (d : Nat) (back : Bool) (h : d <= zs.length) : qread zs d back = qres (qgo zs back d d none []) := by
 unfold qread qres
 rw [if_neg (by omega), Int.toNat_natCast]
 cases qgo zs back d d none [] <;> rfl
theorem qread_out (zs : List Int) (d : Int) (back : Bool) (h : d < 0 ∨ (zs.length : Int) < d) : qread zs d back = ([], 0, 2) := by
 unfold qread; rw [if_pos h]
set_option maxHeartbeats 4000000 in
theorem sread_out (a : Option Addr) (len cap : Nat) (d : Int) (back : Bool) (w : World) (hm : len <= 140737488355328) (h : d < 0 ∨ (0 <= d /\ (len : Int) < d)) :
   Calls Tryz.prog 113 #[.slice a len cap, .int .i64 d, .bool back] w (SPost ([], 0, 2) w) := by
 rcases h with h | ⟨h0, h⟩
 all_goals
   go_enter Tryz.func113, Tryz.ntmps113
   go_wp2
   go_step3
   go_wp2
   try rw [Exit.noGoto_ret]
   go_ret3
   exact ⟨.slice none 0 0, [], rfl, OwnT.nil _ _ _, rfl, Below.refl _ _⟩
theorem sread_any (a : Option Addr) (len cap : Nat) (d : Int) (back : Bool) (zs : List Int) (w : World) (hr : Rd w a zs) (hl : zs.length = len) (hm : len <= 140737488355328) (hc : len <= cap) (hc2 : cap <= 9223372036854775807) :
   Calls Tryz.prog 113 #[.slice a len cap, .int .i64 d, .bool back] w (SPost (qread zs d back) w) := by
 by_cases h : d < 0 ∨ (len : Int) < d
 · rw [qread_out zs d back (by rw [hl]; exact h)]
   exact sread_out a len cap d back w hm (by omega)
 · obtain ⟨k, rfl⟩ : ∃ k : Nat, d = k := ⟨d.toNat, by omega⟩
   rw [qread_in zs k back (by omega)]
   exact sread_in a len cap k back zs w hr hl hm hc hc2 (by omega)
end Go.Proofs.YtkjnbgekaifdfaaGreat
namespace Go.Proofs.YtkjnbgekaifdfaaGreat
open Go.ChangeShapes Go.WideShapes Go.ChangeAt Go.RowKit Go.Maps
theorem grown_set (W : World) (b k : Nat) (v : Value) : W.grownBy (W.setCell ⟨b, k, none⟩ v) (some b) :=
 ⟨rfl, rfl, rfl, by simp, fun j hj hne => Below.heap_setCell _ _ _ j (fun e => hne (by rw [e]))⟩
theorem Own.blk5 {B : Nat} {w : World} {v : Value} {n : Nat} {zs : List Int} (h : Own B w v n zs) : ∀ g, v.ownBlock = some g -> B <= g /\ ∃ cs, w.heap[g]? = some (.cells cs 5 (0, 0)) := by
 intro g hg
 rcases h with ⟨rfl, _⟩ | ⟨g', rfl, h2, h3, _⟩
 · cases hg
 · obtain rfl : g' = g := Option.some.inj hg
   exact ⟨h2, h3.type⟩
theorem Wr1.old {B : Nat} {w w1 : World} {g : Nat} {tx : List Int} {pl : List (ByteArray × Nat)} {v : Value} {ys : List Int} {mb : Nat} (h : Wr1 B w g tx pl v ys mb) (hG : w.grownBy w1 v.ownBlock) :
   w1.heap[g]? = some (.cells #[.pointer (some ⟨g, 0, none⟩), v, .map (some mb)] 125) /\ PlM w1 mb pl := by
 constructor
 · refine (hG.block g (box_lt h.box) (fun e => ?_)).trans h.box
   obtain ⟨_, cs, e1⟩ := h.own.blk5 g e.symm
   rw [h.box] at e1; cases e1
 · obtain ⟨es, c, e4⟩ := h.map.isMap
   refine h.map.same (hG.block mb (box_lt e4) (fun e => ?_))
   obtain ⟨_, cs, e1⟩ := h.own.blk5 mb e.symm
   rw [e4] at e1; cases e1
theorem Wr1.stored {B : Nat} {w w1 : World} {g : Nat} {tx tx' : List Int} {pl : List (ByteArray × Nat)} {v v' : Value} {ys ys' : List Int} {mb : Nat} (h : Wr1 B w g tx pl v ys mb) (hG : w.grownBy w1 v.ownBlock) (hO : Own B w1 v' tx'.length ys') (ht : ys'.take tx'.length = tx') (hB : B <= w.heap.size) :
   Wr1 B (w1.setCell ⟨g, 1, none⟩ v') g tx' pl v' ys' mb /\ Fr B w (w1.setCell ⟨g, 1, none⟩ v') := by
 obtain ⟨hb, hm⟩ := h.old hG
 have hg : w1.grownBy (w1.setCell ⟨g, 1, none⟩ v') (some g) := grown_set w1 g 1 v'
 have hne : ∀ k, v'.ownBlock = some k -> k ≠ g := by
   rintro k hk rfl
   obtain ⟨_, cs, e1⟩ := hO.blk5 k hk
   rw [hb] at e1; cases e1
 obtain ⟨es, c, e4⟩ := hm.isMap
 have hmg : mb ≠ g := by rintro rfl; rw [hb] at e4; cases e4
 refine ⟨⟨?_, h.gB, h.mB, ?_, ht, ?_⟩, ?_, ?_⟩
 · have := box_set hb 1 v'
   rw [this]; rfl
 · refine hO.keepAt (fun k hk hl => hg.block k hl (fun e => ?_))
   simp only [Option.some.injEq] at e
   exact hne k hk e
 · refine hm.same (hg.block mb (box_lt e4) (fun e => ?_))
   simp only [Option.some.injEq] at e
   exact hmg e
 · have b1 : Below B w w1 := (Below.refl B w).grown hG hB (fun k e => (h.own.blk5 k e).1)
   exact b1.setCell h.gB _
 · intro j cs t fr hj h5 h50
   have hj1 : w1.heap[j]? = w.heap[j]? := hG.block j (box_lt hj) (fun e => by
     obtain ⟨_, cs', e1⟩ := h.own.blk5 j e.symm
     rw [hj] at e1; cases e1; exact h5 rfl)
   have hj2 : (w1.setCell ⟨g, 1, none⟩ v').heap[j]? = w1.heap[j]? := hg.block j (box_lt (hj1.trans hj)) (fun e => by
     simp only [Option.some.injEq] at e
     subst e
     rw [h.box] at hj; cases hj; exact h50 rfl)
   exact hj2.trans hj1
set_option maxHeartbeats 1000000 in
theorem sqnew_any (w : World) : Calls Tryz.prog 52 #[] w fun e w' => e = .returned (.pointer (some ⟨w.heap.size + 1, 0, none⟩)) /\ Hid (Wr w.heap.size w' (w.heap.size + 1) [] [] /\ Below w.heap.size w w') := by
 have hmm := @run_makeMap Tryz.prog
 go_enter Tryz.func52, Tryz.ntmps52
 go_wp2
 go_ret
 refine ⟨rfl, ?_⟩
 have hb0 : ((w.alloc (.map #[] 0)).alloc (.cells #[.pointer (some ⟨w.heap.size + 1, 0, none⟩), .slice none 0 0, .map (some w.heap.size)] 125)).heap[w.heap.size + 1]? = some (.cells #[.pointer (some ⟨w.heap.size + 1, 0, none⟩), .slice none 0 0, .map (some w.heap.size)] 125) := by
   have := World.alloc_heap_new (w.alloc (.map #[] 0)) (.cells #[.pointer (some ⟨w.heap.size + 1, 0, none⟩), .slice none 0 0, .map (some w.heap.size)] 125)
   simpa using this
 have hm0 : PlM ((w.alloc (.map #[] 0)).alloc (.cells #[.pointer (some ⟨w.heap.size + 1, 0, none⟩), .slice none 0 0, .map (some w.heap.size)] 125)) w.heap.size [] := (PlM.made w).same (Below.heap_alloc _ _ _ (by simp))
 exact ⟨⟨.slice none 0 0, [], w.heap.size, hb0, by omega, Nat.le_refl _, .inl ⟨rfl, rfl, rfl⟩, rfl, hm0⟩, ((Below.refl _ w).alloc (Nat.le_refl _) _).alloc (by simp) _⟩
end Go.Proofs.YtkjnbgekaifdfaaGreat
namespace Go.Proofs.YtkjnbgekaifdfaaGreat
open Go.ChangeShapes Go.WideShapes Go.ChangeAt Go.RowKit Go.Maps
structure Rdr (w : World) (r : Nat) (a : Option Addr) (n c : Nat) (zs : List Int) (p : Nat) : Prop where
 box : w.heap[r]? = some (.cells #[.slice a n c, .int .i64 p] 69)
 rd : Rd w a zs
 len : zs.length = n
 cap : n <= c /\ c <= 9223372036854775807
 big : n <= 140737488355328
 off : zs = [] ∨ ∀ b o sp, a = some ⟨b, o, sp⟩ -> b ≠ r
 nil : a = none -> c = 0
 pn : p <= n
theorem Rdr.go {w w' : World} {r : Nat} {a : Option Addr} {n c : Nat} {zs : List Int} {p p' : Nat} (h : Rdr w r a n c zs p) (hg : w.grownBy w' (some r)) (hb : w'.heap[r]? = some (.cells #[.slice a n c, .int .i64 p'] 69)) (hp : p' <= n) : Rdr w' r a n c zs p' := by
 refine ⟨hb, ?_, h.len, h.cap, h.big, h.off, h.nil, hp⟩
 rcases h.off with hz | hoff
 · exact ⟨.inl hz, h.rd.2⟩
 rcases h.rd.1 with h0 | ⟨b2, o2, e2, hb2, _⟩
 · exact ⟨.inl h0, h.rd.2⟩
 · refine h.rd.of_blocks hg.size (fun b o e => ?_)
   have hbb : b2 = b := by rw [e] at e2; cases e2; rfl
   subst hbb
   exact hg.block b2 hb2 (fun e3 => by injection e3 with e3; exact hoff b2 o none e e3)
theorem below_dn (w : World) (n : Nat) : Below w.heap.size w (w.drewN n) := ⟨rfl, rfl, rfl, Nat.le_refl _, fun _ _ => rfl⟩
theorem Rdr.below {w w' : World} {r : Nat} {a : Option Addr} {n c : Nat} {zs : List Int} {p : Nat} (h : Rdr w r a n c zs p) (hb : Below w.heap.size w w') : Rdr w' r a n c zs p :=
 ⟨(hb.block r (box_lt h.box)).trans h.box, h.rd.below hb, h.len, h.cap, h.big, h.off, h.nil, h.pn⟩
theorem grown_of {w w' : World} {o : Option Nat} (h : Below w.heap.size w w') : w.grownBy w' o := ⟨h.os, h.tape, h.output, h.size, fun k hk _ => h.block k hk⟩
theorem grown_trans {a b c : World} {r : Nat} (h : a.grownBy b (some r)) (k : b.grownBy c (some r)) : a.grownBy c (some r) :=
 ⟨k.os.trans h.os, k.tape.trans h.tape, k.output.trans h.output, Nat.le_trans h.size k.size, fun j hj hne => (k.block j (Nat.lt_of_lt_of_le hj h.size) hne).trans (h.block j hj hne)⟩
theorem Rdr.move {w : World} {r : Nat} {a : Option Addr} {n c : Nat} {zs : List Int} {p : Nat} (h : Rdr w r a n c zs p) (p' : Nat) (hp : p' <= n) : Rdr (w.setCell ⟨r, 1, none⟩ (.int .i64 p')) r a n c zs p' /\ w.grownBy (w.setCell ⟨r, 1, none⟩ (.int .i64 p')) (some r) :=
 ⟨h.go (grown_set w r 1 _) (box_set h.box 1 _) hp, grown_set w r 1 _⟩
theorem val_nat {zs : List Int} (h : ∀ z ∈ zs, 0 <= z /\ z <= 255) (p wd : Nat) : val ((zs.drop p).take wd) = ((gNum zs p wd : Nat) : Int) := by
 have := (val_bd ((zs.drop p).take wd) (fun z hz => h z (List.mem_of_mem_drop (List.mem_of_mem_take hz)))).1
 unfold gNum
 omega
set_option maxHeartbeats 1000000 in
theorem r16_yes (r : Nat) (a : Option Addr) (n c : Nat) (zs : List Int) (p : Nat) (x : Nat × Nat) (w : World) (h : Rdr w r a n c zs p) (hx : g16 zs p = some x) :
   Calls Tryz.prog 93 #[.pointer (some ⟨r, 0, none⟩)] w fun e w' => e = .returned (.int .i64 x.1) /\ Hid (Rdr w' r a n c zs x.2 /\ w.grownBy w' (some r)) := by
 unfold g16 at hx
 split at hx
 case isFalse => cases hx
 case isTrue hl =>
   cases hx
   simp only
   have hl' : p + 2 <= n := by rw [<- h.len]; exact hl
   have K1 : Hid (∀ W, Rd W a zs -> Calls Tryz.prog 111 #[.slice a n c, .int .i64 p] W fun e w' => e = .returned (.tuple #[.int .i64 (gNum zs p 2 : Nat), .bool true]) /\ w' = W) := by
     intro W hW
     have := u16_yes a n c p zs W hW h.len h.cap.1 h.cap.2 hl'
     rw [val_nat hW.2] at this
     exact this
   have HR := Lib.hid h
   have c0 : w.cell? ⟨r, 0, none⟩ = some (.slice a n c) := box_cell h.box 0 _ rfl
   have c1 : w.cell? ⟨r, 1, none⟩ = some (.int .i64 p) := box_cell h.box 1 _ rfl
   have hlt := box_lt h.box
   have hp63 : p <= 140737488355328 := by have := h.big; omega
   generalize gNum zs p 2 = v at *
   have KY := fun W => Lib.hid (need_yes W)
   clear h
   go_enter Tryz.func93, Tryz.ntmps93
   go_wp2_with fail
   go_quiet (first
     | (go_at_call 111; exact Calls.quiet_of_same (K1.out _ HR.out.rd)))
   have HB1 := Lib.hid (below_dn w nq)
   generalize w.drewN nq = w1 at *
   have HR1 := Lib.hid (HR.out.below HB1.out)
   clear c0 c1 hlt K1
   have c1 : w1.cell? ⟨r, 1, none⟩ = some (.int .i64 p) := box_cell HR1.out.box 1 _ rfl
   have hlt := box_lt HR1.out.box
   have hfz := box_frozen HR1.out.box 1
   have HMV := Lib.hid (HR1.out.move (p + 2) hl')
   go_wp2_with fail
   refine (KY w1).out.mono ?_
   rintro e w2 ⟨rfl, hw2⟩
   subst w2
   go_wp2
   go_ret
   exact ⟨rfl, HMV.out.1, grown_trans (grown_of HB1.out) HMV.out.2⟩
set_option maxHeartbeats 1000000 in
theorem r16_no (r : Nat) (a : Option Addr) (n c : Nat) (zs : List Int) (p : Nat) (w : World) (h : Rdr w r a n c zs p) (hx : g16 zs p = none) :
   Calls Tryz.prog 93 #[.pointer (some ⟨r, 0, none⟩)] w fun e w' => e = .panicked thrown /\ Hid (w.grownBy w' (some r)) := by
 unfold g16 at hx
 split at hx
 case isTrue => cases hx
 case isFalse hl =>
   have hl' : n < p + 2 := by rw [<- h.len]; omega
   have K1 : Hid (∀ W, Calls Tryz.prog 111 #[.slice a n c, .int .i64 p] W fun e w' => e = .returned (.tuple #[.int .i64 0, .bool false]) /\ w' = W) := fun W => u16_no a n c p W h.cap.1 h.cap.2 (.inr (by omega))
   have c0 : w.cell? ⟨r, 0, none⟩ = some (.slice a n c) := box_cell h.box 0 _ rfl
   have c1 : w.cell? ⟨r, 1, none⟩ = some (.int .i64 p) := box_cell h.box 1 _ rfl
   have hlt := box_lt h.box
   have KN := fun W => Lib.hid (need_no W)
   clear h
   go_enter Tryz.func93, Tryz.ntmps93
   go_wp2_with fail
   go_quiet (first
     | (go_at_call 111; exact Calls.quiet_of_same (K1.out _)))
   have HB1 := Lib.hid (below_dn w nq)
   generalize w.drewN nq = w1 at *
   go_wp2_with fail
   refine (KN w1).out.mono ?_
   rintro e w2 ⟨rfl, hw2⟩
   subst w2
   go_wp2
   exact ⟨rfl, rfl, grown_of HB1.out⟩
set_option maxHeartbeats 1000000 in
theorem r32_yes (r : Nat) (a : Option Addr) (n c : Nat) (zs : List Int) (p : Nat) (x : Nat × Nat) (w : World) (h : Rdr w r a n c zs p) (hx : g32 zs p = some x) :
   Calls Tryz.prog 91 #[.pointer (some ⟨r, 0, none⟩)] w fun e w' => e = .returned (.int .u32 x.1) /\ Hid (Rdr w' r a n c zs x.2 /\ w.grownBy w' (some r)) := by
 unfold g32 at hx
 split at hx
 case isFalse => cases hx
 case isTrue hl =>
   cases hx
   simp only
   have hl' : p + 4 <= n := by rw [<- h.len]; exact hl
   have K1 : Hid (∀ W, Rd W a zs -> Calls Tryz.prog 114 #[.slice a n c, .int .i64 p] W fun e w' => e = .returned (.tuple #[.int .u32 (gNum zs p 4 : Nat), .bool true]) /\ w' = W) := by
     intro W hW
     have := u32_yes a n c p zs W hW h.len h.cap.1 h.cap.2 hl'
     rw [val_nat hW.2] at this
     exact this
   have HR := Lib.hid h
   have c0 : w.cell? ⟨r, 0, none⟩ = some (.slice a n c) := box_cell h.box 0 _ rfl
   have c1 : w.cell? ⟨r, 1, none⟩ = some (.int .i64 p) := box_cell h.box 1 _ rfl
   have hlt := box_lt h.box
   have hp63 : p <= 140737488355328 := by have := h.big; omega
   generalize gNum zs p 4 = v at *
   have KY := fun W => Lib.hid (need_yes W)
   clear h
   go_enter Tryz.func91, Tryz.ntmps91
   go_wp2_with fail
   go_quiet (first
     | (go_at_call 114; exact Calls.quiet_of_same (K1.out _ HR.out.rd)))
   have HB1 := Lib.hid (below_dn w nq)
   generalize w.drewN nq = w1 at *
   have HR1 := Lib.hid (HR.out.below HB1.out)
   clear c0 c1 hlt K1
   have c1 : w1.cell? ⟨r, 1, none⟩ = some (.int .i64 p) := box_cell HR1.out.box 1 _ rfl
   have hlt := box_lt HR1.out.box
   have hfz := box_frozen HR1.out.box 1
   have HMV := Lib.hid (HR1.out.move (p + 4) hl')
   go_wp2_with fail
   refine (KY w1).out.mono ?_
   rintro e w2 ⟨rfl, hw2⟩
   subst w2
   go_wp2
   go_ret
   exact ⟨rfl, HMV.out.1, grown_trans (grown_of HB1.out) HMV.out.2⟩
set_option maxHeartbeats 1000000 in
theorem r32_no (r : Nat) (a : Option Addr) (n c : Nat) (zs : List Int) (p : Nat) (w : World) (h : Rdr w r a n c zs p) (hx : g32 zs p = none) :
   Calls Tryz.prog 91 #[.pointer (some ⟨r, 0, none⟩)] w fun e w' => e = .panicked thrown /\ Hid (w.grownBy w' (some r)) := by
 unfold g32 at hx
 split at hx
 case isTrue => cases hx
 case isFalse hl =>
   have hl' : n < p + 4 := by rw [<- h.len]; omega
   have K1 : Hid (∀ W, Calls Tryz.prog 114 #[.slice a n c, .int .i64 p] W fun e w' => e = .returned (.tuple #[.int .u32 0, .bool false]) /\ w' = W) := fun W => u32_no a n c p W h.cap.1 h.cap.2 (.inr (by omega))
   have c0 : w.cell? ⟨r, 0, none⟩ = some (.slice a n c) := box_cell h.box 0 _ rfl
   have c1 : w.cell? ⟨r, 1, none⟩ = some (.int .i64 p) := box_cell h.box 1 _ rfl
   have hlt := box_lt h.box
   have KN := fun W => Lib.hid (need_no W)
   clear h
   go_enter Tryz.func91, Tryz.ntmps91
   go_wp2_with fail
   go_quiet (first
     | (go_at_call 114; exact Calls.quiet_of_same (K1.out _)))
   have HB1 := Lib.hid (below_dn w nq)
   generalize w.drewN nq = w1 at *
   go_wp2_with fail
   refine (KN w1).out.mono ?_
   rintro e w2 ⟨rfl, hw2⟩
   subst w2
   go_wp2
   exact ⟨rfl, rfl, grown_of HB1.out⟩
theorem gnm_ok {zs : List Int} {p : Nat} {x : List ByteArray × Nat} (h : gnm zs p = some x) : nck x.1 = 0 /\ p < x.2 /\ x.2 <= zs.length :=
 ⟨qgo_name (show qgo zs true p p none [] = some (x.1, x.2) from h) nck_nil, (qgo_behind (show qgo zs true p p none [] = some (x.1, x.2) from h)).1, (qgo_behind (show qgo zs true p p none [] = some (x.1, x.2) from h)).2⟩
theorem OwnT.x1 {B : Nat} {w : World} {s : Sl} {n M : Nat} {ys nm : List ByteArray} (h : OwnT B w (.slice s.a s.n s.c) n ys M) (hn : n = nm.length) (ht : ys.take n = nm) (hM : M <= 9223372036854775807) : Owx1 B w s nm := by
 subst hn
 exact ⟨ys, ⟨h.1, fun x hx => Nat.le_trans (h.2 x hx) hM⟩, ht⟩
set_option maxHeartbeats 1000000 in
theorem rnm_yes (r : Nat) (a : Option Addr) (n c : Nat) (zs : List Int) (p : Nat) (x : List ByteArray × Nat) (w : World) (h : Rdr w r a n c zs p) (hx : gnm zs p = some x) :
   Calls Tryz.prog 89 #[.pointer (some ⟨r, 0, none⟩)] w fun e w' => ∃ s : Sl, e = .returned (.slice s.a s.n s.c) /\ Hid (Rdr w' r a n c zs x.2 /\ Owx1 w.heap.size w' s x.1 /\ w.grownBy w' (some r)) := by
 obtain ⟨ss, q⟩ := x
 obtain ⟨_, hpq, hqn⟩ := gnm_ok hx
 simp only at hpq hqn
 have hq : q <= n := by rw [<- h.len]; exact hqn
 have K1 : Hid (∀ W, Rd W a zs -> Calls Tryz.prog 113 #[.slice a n c, .int .i64 p, .bool true] W fun e w' => ∃ s : Sl, e = .returned (.tuple #[.slice s.a s.n s.c, .int .i64 q, .int .i64 0]) /\ Hid (Owx1 W.heap.size w' s ss /\ Below W.heap.size W w')) := by
   intro W hW
   refine (sread_any a n c p true zs W hW h.len h.big h.cap.1 h.cap.2).mono ?_
   rintro e w' ⟨v, ys, e1, H1⟩
   rw [qread_in zs p true (by rw [h.len]; exact h.pn)] at e1 H1
   have hg : qgo zs true p p none [] = some (ss, q) := hx
   rw [hg] at e1 H1
   simp only [qres] at e1 H1
   obtain ⟨ao, hv, _⟩ := H1.out.1.shape
   rw [hv] at e1 H1
   exact ⟨⟨ao, ss.length, ys.length⟩, e1, OwnT.x1 (s := ⟨ao, ss.length, ys.length⟩) H1.out.1 rfl H1.out.2.1 (by omega), H1.out.2.2⟩
 have HR := Lib.hid h
 have c0 : w.cell? ⟨r, 0, none⟩ = some (.slice a n c) := box_cell h.box 0 _ rfl
 have c1 : w.cell? ⟨r, 1, none⟩ = some (.int .i64 p) := box_cell h.box 1 _ rfl
 have hlt := box_lt h.box
 have hq63 : q <= 140737488355328 := by have := h.big; omega
 have KY := fun W => Lib.hid (need_yes W)
 have KS : ∀ W, Below w.heap.size w W -> (W.cell? ⟨r, 0, none⟩ = some (.slice a n c) /\ W.cell? ⟨r, 1, none⟩ = some (.int .i64 p)) := fun W hW => ⟨box_cell (h.below hW).box 0 _ rfl, box_cell (h.below hW).box 1 _ rfl⟩
 clear h
 go_enter Tryz.func89, Tryz.ntmps89
 go_wp2_with fail
 go_region_held3 (fun W => W.cell? ⟨r, 0, none⟩ = some (.slice a n c) /\ W.cell? ⟨r, 1, none⟩ = some (.int .i64 p)) (first | exact KS _ HB1.out | exact KS _ (Below.refl w.heap.size w).drew | exact KS _ (Below.refl w.heap.size w)) (first
   | (go_at_call 113; refine Calls.mono (K1.out _ (by first | exact HR.out.rd.drew | exact HR.out.rd)) ?_; rintro e w1 ⟨s1, rfl, H1⟩; have HB1 : Hid (Below w.heap.size w w1) := (by first | exact Below.trans ((Below.refl w.heap.size w).drew) H1.out.2 | exact H1.out.2)))
 have HR1 := Lib.hid (HR.out.below HB1.out)
 have HO1 : Hid (Owx1 w.heap.size w1 s1 ss) := H1.out.1
 clear c0 c1 hlt K1 KS H1
 have c1 : w1.cell? ⟨r, 1, none⟩ = some (.int .i64 p) := box_cell HR1.out.box 1 _ rfl
 have hlt := box_lt HR1.out.box
 have hfz := box_frozen HR1.out.box 1
 have HMV := Lib.hid (HR1.out.move q hq)
 go_wp2_with fail
 refine (KY w1).out.mono ?_
 rintro e w2 ⟨rfl, hw2⟩
 subst w2
 go_wp2
 go_ret
 exact ⟨s1, rfl, HMV.out.1, HO1.out.kept HMV.out.2 (box_lt HR.out.box), grown_trans (grown_of HB1.out) HMV.out.2⟩
set_option maxHeartbeats 1000000 in
theorem rnm_no (r : Nat) (a : Option Addr) (n c : Nat) (zs : List Int) (p : Nat) (w : World) (h : Rdr w r a n c zs p) (hx : gnm zs p = none) :
   Calls Tryz.prog 89 #[.pointer (some ⟨r, 0, none⟩)] w fun e w' => e = .panicked thrown /\ Hid (w.grownBy w' (some r)) := by
 have K1 : Hid (∀ W, Rd W a zs -> Calls Tryz.prog 113 #[.slice a n c, .int .i64 p, .bool true] W fun e w' => ∃ s : Sl, e = .returned (.tuple #[.slice s.a s.n s.c, .int .i64 0, .int .i64 8]) /\ Hid (Below W.heap.size W w')) := by
   intro W hW
   refine (sread_any a n c p true zs W hW h.len h.big h.cap.1 h.cap.2).mono ?_
   rintro e w' ⟨v, ys, e1, H1⟩
   rw [qread_in zs p true (by rw [h.len]; exact h.pn)] at e1 H1
   have hg : qgo zs true p p none [] = none := hx
   rw [hg] at e1 H1
   simp only [qres] at e1 H1
   obtain ⟨ao, hv, _⟩ := H1.out.1.shape
   rw [hv] at e1
   exact ⟨⟨ao, _, _⟩, e1, H1.out.2.2⟩
 have HR := Lib.hid h
 have c0 : w.cell? ⟨r, 0, none⟩ = some (.slice a n c) := box_cell h.box 0 _ rfl
 have c1 : w.cell? ⟨r, 1, none⟩ = some (.int .i64 p) := box_cell h.box 1 _ rfl
 have hlt := box_lt h.box
 have KN := fun W => Lib.hid (need_no W)
 have KS : ∀ W, Below w.heap.size w W -> (W.cell? ⟨r, 0, none⟩ = some (.slice a n c) /\ W.cell? ⟨r, 1, none⟩ = some (.int .i64 p)) := fun W hW => ⟨box_cell (h.below hW).box 0 _ rfl, box_cell (h.below hW).box 1 _ rfl⟩
 clear h
 go_enter Tryz.func89, Tryz.ntmps89
 go_wp2_with fail
 go_region_held3 (fun W => W.cell? ⟨r, 0, none⟩ = some (.slice a n c) /\ W.cell? ⟨r, 1, none⟩ = some (.int .i64 p)) (first | exact KS _ HB1.out | exact KS _ (Below.refl w.heap.size w).drew | exact KS _ (Below.refl w.heap.size w)) (first
   | (go_at_call 113; refine Calls.mono (K1.out _ (by first | exact HR.out.rd.drew | exact HR.out.rd)) ?_; rintro e w1 ⟨s1, rfl, H1⟩; have HB1 : Hid (Below w.heap.size w w1) := (by first | exact Below.trans ((Below.refl w.heap.size w).drew) H1.out | exact H1.out)))
 clear K1 KS H1
 go_wp2_with fail
 refine (KN w1).out.mono ?_
 rintro e w2 ⟨rfl, hw2⟩
 subst w2
 go_wp2
 exact ⟨rfl, rfl, grown_of HB1.out⟩
def gkind (zs : List Int) (p : Nat) : Option ((Nat × Nat) × Nat) := (g16 zs p).bind fun t => (g16 zs t.2).map fun c => ((t.1, c.1), c.2)
set_option maxHeartbeats 1000000 in
theorem rkind_yes (r : Nat) (a : Option Addr) (n c : Nat) (zs : List Int) (p : Nat) (x : (Nat × Nat) × Nat) (w : World) (h : Rdr w r a n c zs p) (hx : gkind zs p = some x) :
   Calls Tryz.prog 90 #[.pointer (some ⟨r, 0, none⟩)] w fun e w' => e = .returned (.tuple #[.int .u16 x.1.1, .int .u16 x.1.2]) /\ Hid (Rdr w' r a n c zs x.2 /\ w.grownBy w' (some r)) := by
 unfold gkind at hx
 simp only [Option.bind_eq_some_iff, Option.map_eq_some_iff] at hx
 obtain ⟨t, ht, cl, hc, rfl⟩ := hx
 have b1 := g16_bd h.rd.2 ht
 have b2 := g16_bd h.rd.2 hc
 have K1 := Lib.hid (r16_yes r a n c zs p t w h ht)
 have K2 : Hid (∀ W, Rdr W r a n c zs t.2 -> Calls Tryz.prog 93 #[.pointer (some ⟨r, 0, none⟩)] W fun e w' => e = .returned (.int .i64 cl.1) /\ Hid (Rdr w' r a n c zs cl.2 /\ W.grownBy w' (some r))) := fun W hW => r16_yes r a n c zs t.2 cl W hW hc
 obtain ⟨t1, t2⟩ := t
 obtain ⟨cl1, cl2⟩ := cl
 simp only at b1 b2 K1 K2 ⊢
 clear h ht hc
 go_enter Tryz.func90, Tryz.ntmps90
 go_wp2_with fail
 refine K1.out.mono ?_
 rintro e w1 ⟨rfl, H1⟩
 go_wp2_with fail
 refine (K2.out w1 H1.out.1).mono ?_
 rintro e w2 ⟨rfl, H2⟩
 go_wp2
 go_ret2
 exact ⟨rfl, H2.out.1, grown_trans H1.out.2 H2.out.2⟩
set_option maxHeartbeats 1000000 in
theorem rkind_no (r : Nat) (a : Option Addr) (n c : Nat) (zs : List Int) (p : Nat) (w : World) (h : Rdr w r a n c zs p) (hx : gkind zs p = none) :
   Calls Tryz.prog 90 #[.pointer (some ⟨r, 0, none⟩)] w fun e w' => e = .panicked thrown /\ Hid (w.grownBy w' (some r)) := by
 unfold gkind at hx
 cases ht : g16 zs p with
 | none =>
   have K1 := Lib.hid (r16_no r a n c zs p w h ht)
   clear h hx
   go_enter Tryz.func90, Tryz.ntmps90
   go_wp2_with fail
   refine K1.out.mono ?_
   rintro e w1 ⟨rfl, H1⟩
   go_wp2
   exact ⟨rfl, rfl, H1⟩
 | some t =>
   rw [ht] at hx
   simp only [Option.bind_some, Option.map_eq_none_iff] at hx
   have K1 := Lib.hid (r16_yes r a n c zs p t w h ht)
   have K2 : Hid (∀ W, Rdr W r a n c zs t.2 -> Calls Tryz.prog 93 #[.pointer (some ⟨r, 0, none⟩)] W fun e w' => e = .panicked thrown /\ Hid (W.grownBy w' (some r))) := fun W hW => r16_no r a n c zs t.2 W hW hx
   clear h ht hx
   go_enter Tryz.func90, Tryz.ntmps90
   go_wp2_with fail
   refine K1.out.mono ?_
   rintro e w1 ⟨rfl, H1⟩
   go_wp2_with fail
   refine (K2.out w1 H1.out.1).mono ?_
   rintro e w2 ⟨rfl, H2⟩
   go_wp2
   exact ⟨rfl, rfl, grown_trans H1.out.2 H2.out⟩
end Go.Proofs.YtkjnbgekaifdfaaGreat
namespace Go.Proofs.YtkjnbgekaifdfaaGreat
open Go.ChangeShapes Go.WideShapes Go.ChangeAt Go.RowKit Go.Deep
structure Arg (w : World) (a : Option Addr) (n : Nat) (ss : List ByteArray) : Prop where
 rd : RdT w a ss
 len : ss.length = n
 n63 : n <= 9223372036854775807
 z63 : ∀ s ∈ ss, s.size <= 9223372036854775807
set_option maxHeartbeats 1000000 in
theorem pcheckA_wide (a : Option Addr) (len cap : Nat) (ss : List ByteArray) (w : World) (hr : RdT w a ss) (hl : ss.length = len) (hm : labsOk ss -> nsz ss <= 1000000000000000) (hlen : len <= 9223372036854775807) (hz : ∀ s ∈ ss, s.size <= 9223372036854775807) :
   Calls Tryz.prog 42 #[.slice a len cap] w fun e w' => e = .returned (.int .i64 (nck ss)) /\ w' = w := by
 have HR : Hid (RdT w a ss /\ ∀ s ∈ ss, s.size <= 9223372036854775807) := ⟨hr, hz⟩
 have HL : Hid (ss.length = len) := hl
 have HS : Hid (labsOk ss -> ∀ W, RdT W a ss -> Calls Tryz.prog 49 #[.slice a len cap] W fun e w' => e = .returned (.int .i64 (nsz ss)) /\ w' = W) := fun ho W hW => psize_eq a len cap ss W hW hl (hm ho)
 obtain ⟨T, hT⟩ : ∃ T, nsz ss = T := ⟨_, rfl⟩
 have HT : Hid (nsz ss = T) := hT
 rw [hT] at HS
 clear hr hl hT hz hm
 go_enter Tryz.func42, Tryz.ntmps42
 go_wp2_with fail
 go_loopw [8] (fun x wr => ∃ k : Nat, k <= len /\ x = .int .i64 k /\ wr = w /\ Hid (∀ i (h : i < ss.length), i < k -> chk ss[i].size = 0)) (fun x _ => len - (intOf x).toNat)
 case atStart => exact ⟨0, Nat.zero_le _, rfl, rfl, fun i _ h => absurd h (by omega)⟩
 case round =>
   obtain ⟨k, hk, rfl, rfl, HK⟩ := hrel
   by_cases hlt : k < len
   · have hlt' : (k : Int) < (len : Int) := by omega
     have hks : k < ss.length := by rw [HL.out]; exact hlt
     obtain ⟨b, o, rfl, hb, hc⟩ := HR.out.1.at k hks
     have HC : Hid (∀ W, Calls Tryz.prog 71 #[.string ss[k]] W fun e w' => e = .returned (.int .i64 (chk ss[k].size)) /\ w' = W) := fun W => chk_any ss[k] W (HR.out.2 _ (List.getElem_mem hks))
     rcases chk_cases ss[k].size with hk0 | hk4
     · have HN : Hid (∀ i (h : i < ss.length), i < k + 1 -> chk ss[i].size = 0) := by
         intro i h hi
         by_cases e : i = k
         · subst e; exact hk0
         · exact HK.out i h (by omega)
       rw [hk0] at HC
       clear hk0 HK
       generalize ss[k] = s at *
       go_wp2_with fail
       refine (HC.out _).mono ?_
       rintro e w1 ⟨rfl, rfl⟩
       go_wp2
       exact ⟨⟨k + 1, by omega, by go_num, trivial, HN⟩, by simp [intOf]; omega⟩
     · have HE : Hid (nck ss = 4) := by
         show nck ss = 4
         unfold nck
         rw [if_neg (fun h => by have := h _ (List.getElem_mem hks); rw [hk4] at this; cases this)]
       rw [hk4] at HC
       clear hk4 HK
       generalize ss[k] = s at *
       go_wp2_with fail
       refine (HC.out _).mono ?_
       rintro e w1 ⟨rfl, rfl⟩
       go_wp2
       go_ret
       exact ⟨by rw [HE.out]; rfl, rfl⟩
   · have hge : (len : Int) <= (k : Int) := by omega
     have HO : Hid (labsOk ss) := by
       intro s hs
       obtain ⟨i, hi, rfl⟩ := List.getElem_of_mem hs
       exact HK.out i hi (by have := HL.out; omega)
     by_cases hb : 255 < T
     · have HE : Hid (nck ss = 5) := by show nck ss = 5; unfold nck; rw [if_pos HO.out, HT.out, if_pos hb]
       have hb' : (255 : Int) < (T : Int) := by omega
       clear HK
       go_wp2_with fail
       refine (HS.out HO.out _ HR.out.1).mono ?_
       rintro e w1 ⟨rfl, rfl⟩
       go_wp2
       go_ret
       exact ⟨by rw [HE.out]; rfl, rfl⟩
     · have HE : Hid (nck ss = 0) := by show nck ss = 0; unfold nck; rw [if_pos HO.out, HT.out, if_neg hb]
       have hb' : ¬ (255 : Int) < (T : Int) := by omega
       clear HK
       go_wp2_with fail
       refine (HS.out HO.out _ HR.out.1).mono ?_
       rintro e w1 ⟨rfl, rfl⟩
       go_wp2
       go_ret
       exact ⟨by rw [HE.out]; rfl, rfl⟩
theorem labs_nsz {ss : List ByteArray} (h : labsOk ss) : nsz ss <= 64 * ss.length + 1 := nsz_bd ss fun s hs => (chk_ok (h s hs)).2
theorem Arg.nm {w : World} {a : Option Addr} {n : Nat} {ss : List ByteArray} (h : Arg w a n ss) (hk : nck ss = 0) : Nm w a n ss := ⟨h.rd, h.len, by have := (nck_small hk).1; omega⟩
end Go.Proofs.YtkjnbgekaifdfaaGreat
namespace Go.Proofs.YtkjnbgekaifdfaaGreat
open Go.ChangeShapes Go.WideShapes Go.ChangeAt Go.RowKit Go.Shelf
attribute [local go_sem] Oper.semAt_some
abbrev Ix (n : Nat) := { k : Nat // k < n }
def iup (n : Nat) : Nat -> List (Ix n)
 | 0 => []
 | k + 1 => if h : k < n then iup n k ++ [⟨k, h⟩] else iup n k
theorem iup_succ {n k : Nat} (h : k < n) : iup n (k + 1) = iup n k ++ [⟨k, h⟩] := by simp [iup, h]
theorem iup_len {n : Nat} : ∀ {k : Nat}, k <= n -> (iup n k).length = k
 | 0, _ => rfl
 | k + 1, h => by rw [iup_succ (by omega), List.length_append, iup_len (by omega)]; rfl
def KpS (Bs : Nat) (A B : World) : Prop := ∀ v, Boxed A Bs 9 v -> Boxed B Bs 9 v
theorem kpS_t {Bs : Nat} {A B C : World} (h : KpS Bs A B) (k : KpS Bs B C) : KpS Bs A C := fun v hv => k v (h v hv)
theorem kpS_b {Bs : Nat} {w : World} (W : World) (l : Nat) (o o' : Obj) (hl : w.heap.size <= l) (h : W.heap[l]? = some o) (hc : o.isCells = false) (hw : o.isWalk = false) : KpS Bs W (W.putObj l o') :=
 fun v hv => hv.kept (grownBy_putObj' W l o') (fun e => by cases e; rw [show W.heap[Bs]? = _ from hv] at h; cases h; cases hc)
theorem tails_any (s : ByteArray) (w : World) : Calls Tryz.prog 134 #[.string s] w fun e w' => e = .returned (.func (.func 148) #[] #[.pointer (some ⟨w.heap.size, 0, none⟩)]) /\ w' = w.alloc (.cells #[.string s] 9) := by
 go_enter Tryz.func134, Tryz.ntmps134
 go_wp2
 go_ret
 exact ⟨rfl, rfl⟩
theorem qkey_byte (ss : List ByteArray) (h : labsOk ss) (p k : Nat) (hp : p < (qkey ss).size) (hk : k < ss.length) (e : p = offs ss k) : ((qkey ss)[p].toNat : Int) = (ss[k].size : Int) := by
 have := qkey_at ss h k hk
 rw [<- e, nums_at _ p hp] at this
 exact this
theorem qkey_byte0 (ss : List ByteArray) (h : labsOk ss) (p : Nat) (hp : p < (qkey ss).size) (e : p = offs ss ss.length) : ((qkey ss)[p].toNat : Int) = 0 := by
 have := qkey_end ss h
 rw [<- e, nums_at _ p hp] at this
 exact this
set_option maxHeartbeats 2000000 in
theorem tails1_in (F : Fence) (n : Nat) (h59 : F.fn 148) (hro : F.round = none) (hn : 1 <= n) (l Bs : Nat) (ss : List ByteArray) (hk : nck ss = 0) (J Jx : List (Ix ss.length) -> World -> Prop)
   (hY : ∀ pre x W, J pre W -> pre.length < ss.length -> YieldAt F (n - 1) Tryz.prog l #[.int .i64 (offs ss x.1 : Nat)] W fun e W' =>
     (e = .returned (.bool true) /\ J (pre ++ [x]) W' /\ KpS Bs W W') ∨ (e = .returned (.bool false) /\ Jx (pre ++ [x]) W'))
   (W : World) (hBs : Boxed W Bs 9 (.string (qkey ss))) (h0 : J [] W) :
   CallsIn F n Tryz.prog 148 #[.func (.yield l) #[] #[], .pointer (some ⟨Bs, 0, none⟩)] W fun e W' => (∃ v, e = .returned v) /\
     ((∃ ys, ys = iup ss.length ss.length /\ J ys W') ∨ (∃ pre, (∃ k, k <= ss.length /\ pre = iup ss.length k) /\ Jx pre W')) := by
 have HO : Hid (labsOk ss /\ nsz ss <= 255) := ⟨labs_of hk, (nck_small hk).1⟩
 obtain ⟨s, hs⟩ : ∃ s, qkey ss = s := ⟨_, rfl⟩
 have HS : Hid (qkey ss = s) := hs
 rw [hs] at hBs
 have hz : s.size <= 255 := by rw [<- hs, qkey_size]; exact HO.out.2
 clear hs
 refine callsIn_of_wp Tryz.func148 rfl h59 ?_ hro
 simp only [Tryz.ntmps148, List.size_toArray, List.length_cons, List.length_nil, Nat.reduceAdd, Nat.reduceSub, Array.replicate_succ, Array.replicate_zero, List.push_toArray, List.append_toArray, List.nil_append, List.cons_append]
 gi_wp2
 gi_loopw [3] (fun i wr => ∃ (k p : Nat), k <= ss.length /\ p <= 255 /\ Hid (p = offs ss k) /\ i = .int .i64 p /\ J (iup ss.length k) wr /\ KpS Bs W wr)
   (fun i _ => 255 - (intOf i).toNat)
 case atStart => exact ⟨0, 0, Nat.zero_le _, by omega, (offs_zero ss).symm, rfl, h0, fun _ h => h⟩
 case round =>
   obtain ⟨k, p, hkl, hp255, HP, rfl, hJs, hnx⟩ := hrel
   have hcB := (hnx _ hBs).cell
   have hps : p < s.size := by rw [<- HS.out, qkey_size, HP.out]; have := offs_le ss k; omega
   have hps' : (p : Int) < (s.size : Int) := by omega
   by_cases hlt : k < ss.length
   · have hby : (s[p].toNat : Int) = (ss[k].size : Int) := by
       have hx : p < (qkey ss).size := by rw [HS.out]; exact hps
       have := qkey_byte ss HO.out.1 p k hx hlt HP.out
       simpa [HS.out] using this
     have hsz := chk_ok (HO.out.1 ss[k] (List.getElem_mem hlt))
     have HP2 : Hid (p + 1 + ss[k].size = offs ss (k + 1)) := (show _ = _ by rw [offs_succ ss k hlt, <- HP.out])
     have hp2 : p + 1 + ss[k].size <= 255 := by rw [HP2.out]; have := offs_le ss (k + 1); have := HO.out.2; omega
     obtain ⟨fn, tmps, assign, body, hy, hRd⟩ := hY _ ⟨k, hlt⟩ wr hJs (by rw [iup_len hkl]; exact hlt)
     dsimp only at hy
     rw [<- HP.out] at hy
     rw [<- iup_succ hlt] at hRd
     generalize ss[k].size = z at *
     have hz0 : ((z : Int) == 0) = false := by simp; omega
     have hz1 : ((z : Int) != 0) = true := by simp; omega
     gi_wp2
     refine hRd.mono ?_
     rintro e W3 (⟨rfl, hJ3, hk3⟩ | ⟨rfl, hJx3⟩)
     · have hcB3 := (hk3 _ (hnx _ hBs)).cell
       gi_wp2
       go_roundw
       case rel => exact ⟨k + 1, p + 1 + z, by omega, hp2, HP2, by go_num, hJ3, kpS_t hnx hk3⟩
       case measure => simp [intOf]; omega
     · gi_wp2
       go_end0
       exact ⟨⟨_, rfl⟩, .inr ⟨_, ⟨k + 1, by omega, rfl⟩, hJx3⟩⟩
   · obtain rfl : k = ss.length := by omega
     have hby : (s[p].toNat : Int) = 0 := by
       have hx : p < (qkey ss).size := by rw [HS.out]; exact hps
       have := qkey_byte0 ss HO.out.1 p hx HP.out
       simpa [HS.out] using this
     gi_wp2
     refine ⟨fun f h => (by cases h), ?_⟩
     gi_wp2
     go_end0
     exact ⟨⟨_, rfl⟩, .inl ⟨_, rfl, hJs⟩⟩
theorem tails_stops (F : Fence) (n : Nat) (h59 : F.fn 148) (hro : F.round = none) (hn : 1 <= n) (Bs : Nat) (ss : List ByteArray) (hk : nck ss = 0) (w0 : World) (hBs : Boxed w0 Bs 9 (.string (qkey ss))) :
   SeqStopsK F n Tryz.prog 148 #[.pointer (some ⟨Bs, 0, none⟩)] (fun x : Ix ss.length => #[Value.int .i64 (offs ss x.1 : Nat)]) (KpS Bs) (fun ys => ys = iup ss.length ss.length) (fun pre => ∃ k, k <= ss.length /\ pre = iup ss.length k) ss.length w0 := fun l J Jx W hW _ _ hY h0 =>
 tails1_in F n h59 hro hn l Bs ss hk J Jx hY W ((hW.block Bs hBs.lt).trans hBs) h0
end Go.Proofs.YtkjnbgekaifdfaaGreat
namespace Go.Proofs.YtkjnbgekaifdfaaGreat
open Go.ChangeShapes Go.WideShapes Go.ChangeAt Go.RowKit Go.Shelf
def noDefer (o : Oper) : Bool := match o.op with
 | .defer _ => false
 | _ => true
theorem noDefer_ne {o : Oper} (h : noDefer o = true) : ∀ c, o.op ≠ .defer c := by
 intro c e
 unfold noDefer at h
 rw [e] at h
 cases h
theorem wpIn_op_round {F : Fence} {n l : Nat} {P : Program} {o : Oper} {a : Act} {w : World} {K : Act -> World -> Prop} {Q : Exit -> Act -> World -> Prop} (hd : noDefer o = true) (h : o.wpIn F n P a w K Q) : o.wpIn (F.inRound l) n P a w K Q := by
 obtain ⟨h1, h2⟩ := h
 refine ⟨h1, ?_⟩
 rw [Oper.semAt_eq _ _ _ (noDefer_ne hd)] at h2 ⊢
 exact h2
theorem wpAny_round {F : Fence} {n l : Nat} {P : Program} {md : Region.Mode} {ops : Array Oper} {Q : Exit -> Act -> World -> Prop} (hd : ∀ (i : Nat) (o : Oper), ops[i]? = some o -> noDefer o = true) :
   ∀ (fuel : Nat) (listed : Array Bool) (a : Act) (w : World), wpAnyIn F n P md ops Q fuel listed a w -> wpAnyIn (F.inRound l) n P md ops Q fuel listed a w
 | 0, _, _, _, h => h
 | fuel + 1, listed, a, w, h => by
   refine ⟨h.1, fun i hi => ?_⟩
   have hx := h.2 i hi
   unfold wpOpIn at hx ⊢
   cases ho : ops[i]? with
   | none => simp only [ho] at hx ⊢; exact wpAny_round hd fuel _ _ _ hx
   | some o =>
     simp only [ho] at hx ⊢
     by_cases hw : Region.wanted o (yielded ops a.tmps) = true
     · rw [if_pos hw] at hx ⊢
       exact wpIn_op_round (hd i o ho) (Oper.wpIn_mono (fun a' w' h' => wpAny_round hd fuel _ a' w' h') hx)
     · rw [if_neg hw] at hx ⊢
       exact ⟨hx.1, wpAny_round hd fuel _ _ _ hx.2⟩
theorem region_round {F : Fence} {n r id : Nat} {P : Program} {Q : Exit -> Act -> World -> Prop} {a : Act} {w : World} {l : List Oper} (hro : F.round = none) (hd : l.all noDefer = true) (hm : P.follows .mixedOrders = true) (hB : Region.lexB .any l.toArray = true)
   (h : wpQuietIn F n P l.toArray (fun w' => ∃ k, w' = w.drewN k) (fun a' => ∀ w', (∃ k, w' = w.drewN k) -> Q .normal a' w') l a) : (Code.region id l.toArray true).wpIn (F.inRound r) n P Q a w := by
 simp only [Region.lexB, Bool.and_eq_true] at hB
 refine wpIn_region_any hm (wpAny_round ?_ _ _ _ _ (wpAnyIn_of_quiet (C := fun w' => ∃ k, w' = w.drewN k) (Q := fun a' => ∀ w', (∃ k, w' = w.drewN k) -> Q .normal a' w') hro (fun _ w' hw' h => h w' hw') _ _ _ _ ⟨1, rfl⟩ ?_))
 · intro i o ho
   have : l[i]? = some o := by simpa using ho
   exact List.all_eq_true.1 hd o (List.mem_of_getElem? this)
 · have := wpAnyQIn_lex (F := F) (n := n) (P := P) (C := fun w' => ∃ k, w' = w.drewN k) (md := .any) (ops := l.toArray) (Q := fun a' => ∀ w', (∃ k, w' = w.drewN k) -> Q .normal a' w') hB.1 l 0 (Array.replicate l.toArray.size false) a (by simp) (by simpa using hB.2) h
   simpa using this
end Go.Proofs.YtkjnbgekaifdfaaGreat
namespace Go.Proofs.YtkjnbgekaifdfaaGreat
open Go.ChangeShapes Go.WideShapes Go.ChangeAt Go.RowKit Go.Maps
theorem run_append_cut (w : World) (ty : TypeId) (x : Addr) (n : Nat) (olds : List Int) (hr : Rd w (some x) olds) (hl : olds.length = n) (ao : Option Addr) (m c : Nat) (news : List Int) (hrn : Rd w ao news) (hln : news.length = m) (h1 : 1 <= m) (hb : n + m <= 100000) :
   ∃ v' w' ys, (Builtin.append_ #[29, 29] ty #[.slice (some x) n n, .slice ao m c]).run Tryz.prog w = .ok v' w' /\ Own w.heap.size w' v' (n + m) ys /\ ys.take (n + m) = olds ++ news /\ Below w.heap.size w w' := by
 obtain ⟨i, hi, hz0, hz1, hz2⟩ := info_parts Tryz.info5
 have hs : Src Tryz.prog i.size 29 (.slice ao m c) m (news.map (Value.int .u8)) w := by rw [hz1]; exact src_bytes hrn hln
 have hold : (Builtin.firstCells i.size n (.slice (some x) n n)).run Tryz.prog w.drew = .ok (olds.map (Value.int .u8)).toArray w.drew := by
   refine run_firstCells_some (P := Tryz.prog) w.drew i.size n x n n (olds.map (Value.int .u8)) (by rw [hz1]; simp [hl]) ?_
   intro j v hv
   have := rd_cells hr j v hv
   exact this
 have hr' := run_append_grow_src (P := Tryz.prog) w 29 29 ty 5 i (.int .u8 0) Tryz.underlying29 hi hz0 (some x) n n (olds.map (Value.int .u8)) hold (.slice ao m c) m (news.map (Value.int .u8)) hs (by omega) (by omega) (growslice_fits (by omega) (by rw [hz2]; omega))
 have hge := grownCap_ge w (n + m) n 5
 have hle := grownCap_le_maxLen w (n + m) n 5 (by unfold maxLen; omega)
 rw [zeros_eq] at hr'
 have e1 : ((olds.map (Value.int .u8) ++ news.map (Value.int .u8)).toArray ++ ((List.replicate (grownCap w (n + m) n 5 - (n + m)) (0 : Int)).map (Value.int .u8)).toArray) = ((olds ++ news ++ List.replicate (grownCap w (n + m) n 5 - (n + m)) 0).map (Value.int .u8)).toArray := by simp
 rw [e1] at hr'
 have hlen : (olds ++ news ++ List.replicate (grownCap w (n + m) n 5 - (n + m)) (0 : Int)).length = grownCap w (n + m) n 5 := by
   simp only [List.length_append, hl, hln, List.length_replicate]; omega
 refine ⟨_, _, olds ++ news ++ List.replicate (grownCap w (n + m) n 5 - (n + m)) 0, hr', .inr ⟨w.heap.size, by rw [hlen], Nat.le_refl _, ⟨heap_alloc_new w.drew _, ?_⟩, by rw [hlen]; exact hge, by rw [hlen]; exact hle⟩, ?_, ⟨rfl, rfl, rfl, by simp, fun k hk => Below.heap_alloc w.drew _ k hk⟩⟩
 · intro z hz
   simp only [List.mem_append, List.mem_replicate] at hz
   rcases hz with (hz | hz) | ⟨_, rfl⟩
   · exact hr.2 z hz
   · exact hrn.2 z hz
   · omega
 · rw [List.take_append_of_le_length (by simp only [List.length_append, hl, hln]; omega)]
   exact List.take_of_length_le (by simp only [List.length_append, hl, hln]; omega)
theorem wpListIn_append_eq {F : Fence} {nF : Nat} {P : Program} (w : World) {ops : Array Oper} {rest : List Oper} {o : Oper} {a : Act} {Q : Exit -> Act -> World -> Prop} (hgd : o.guard = none) (s x : Operand) (t1 t2 : TypeId)
   (ho : o.op = .call { callee := .builtin .append, args := #[s, x], argTypes := #[t1, t2] }) (v y v' : Value) (w' : World) (hs : a.eval s = v) (hx : a.eval x = y) (hr : (Builtin.append_ #[t1, t2] o.type #[v, y]).run P w = .ok v' w')
   (h : wpListIn F nF P ops Q rest (a.put o.dst v') w') : wpListIn F nF P ops Q (o :: rest) a w := by
 refine wpListIn_plain hgd fun K hK => ?_
 unfold Oper.wpIn
 refine ⟨by simp [Oper.about, ho, resolve, Target.leads, Sem.run_pure], ?_⟩
 rw [Oper.semAt_plain F _ _ (by rw [ho]; intro c hc'; cases hc')]
 simp [execOp, ho, resolve, invoke, builtin, hs, hx, hr, Result.andThen]
 exact hK _ _ h
end Go.Proofs.YtkjnbgekaifdfaaGreat
namespace Go.Proofs.YtkjnbgekaifdfaaGreat
open Go.ChangeShapes Go.WideShapes Go.ChangeAt Go.RowKit Go.Maps Go.Shelf
attribute [local go_sem] Oper.semAt_some
theorem PlM.look {W : World} {mb : Nat} {pl : List (ByteArray × Nat)} (h : PlM W mb pl) (t : ByteArray) (ht : t.size <= 255) :
   (Instr.lookup 123 (.map (some mb)) (.string t) true).run Tryz.prog W = .ok (.tuple #[.int .i64 ((qfind pl t).getD 0 : Nat), .bool (qfind pl t).isSome]) W := by
 obtain ⟨M, h1, h2⟩ := h
 have hkey : keyOf Tryz.prog 9 (.string t) = some (.string t.data.toList) := Go.WideMaps.keyOf_string_mk Tryz.underlying9 (by unfold maxLen; omega)
 obtain ⟨v, ps, hrun, hv⟩ := h1.look_ok law9 Tryz.underlying123 (zero3 W) (zd := .lit (.int .i64 0)) (zp := []) (plainElem_int Tryz.underlying3 (by decide)) hkey
 obtain ⟨c, rfl, hc, _⟩ := plainElem_int_inv Tryz.underlying3 hv
 rw [hrun]
 cases hf : qfind pl t with
 | none =>
   have e := (h2 t).1 hf
   rw [e]
   have hat := atKey_of_not_has e (.lit (.int .i64 0))
   rw [hat] at hc
   have := congrArg Prod.fst hc
   simp only at this
   cases this
   rfl
 | some p =>
   obtain ⟨e, hat⟩ := (h2 t).2 p hf
   rw [e]
   rw [hat] at hc
   have := congrArg Prod.fst hc
   simp only at this
   cases this
   rfl
theorem new_rd2 (w : World) (y z : Int) (hy : 0 <= y /\ y <= 255) (hz : 0 <= z /\ z <= 255) : Rd (w.alloc (.cells #[.int .u8 y, .int .u8 z] 5)) (some ⟨w.heap.size, 0, none⟩) [y, z] := by
 refine ⟨.inr ⟨w.heap.size, 0, rfl, by simp, fun i hi => ?_⟩, by simp; omega⟩
 have : i = 0 ∨ i = 1 := by simp at hi; omega
 rcases this with rfl | rfl <;> simp [go_sem]
theorem Own.setOther {B : Nat} {w : World} {v : Value} {n : Nat} {ys : List Int} (h : Own B w v n ys) {j k : Nat} {cs : Array Value} {t : TypeId} {fr : Nat × Nat} (hj : w.heap[j]? = some (.cells cs t fr)) (ht : t ≠ 5) (u : Value) : Own B (w.setCell ⟨j, k, none⟩ u) v n ys :=
 h.keepAt (fun g e hl => (grown_set w j k u).block g hl (fun e2 => by
   obtain ⟨_, cs', e1⟩ := h.blk5 g e
   simp only [Option.some.injEq] at e2
   subst e2
   rw [hj] at e1; cases e1; exact ht rfl))
theorem Own.lower {B B' : Nat} {w : World} {v : Value} {n : Nat} {ys : List Int} (h : Own B w v n ys) (hB : B' <= B) : Own B' w v n ys := by
 rcases h with h | ⟨g, h1, h2, h3⟩
 · exact .inl h
 · exact .inr ⟨g, h1, Nat.le_trans hB h2, h3⟩
theorem iup_mem {n : Nat} : ∀ {k j : Nat}, j < k -> k <= n -> ∀ h : j < n, (⟨j, h⟩ : Ix n) ∈ iup n k
 | 0, _, h, _, _ => by omega
 | k + 1, j, hj, hk, h => by
   rw [iup_succ (by omega)]
   by_cases e : j = k
   · subst e; simp
   · exact List.mem_append_left _ (iup_mem (by omega) (by omega) h)
theorem own_from_own {n₀ B : Nat} {v : Value} {n : Nat} {ys : List Int} {A W : World} {row : Option Nat} (h : Own n₀ A v n ys) (hg : A.grownBy W row) (hr : ∀ r, row = some r -> B <= r /\ ∃ o : Obj, A.heap[r]? = some o /\ o.isCells = false) : Own n₀ W v n ys :=
 h.keepAt (fun g e hl => hg.block g hl (fun e2 => by
   obtain ⟨_, cs, e1⟩ := h.blk5 g e
   obtain ⟨_, o, e3, e4⟩ := hr g e2.symm
   rw [e1] at e3; cases e3; cases e4))
def ShPost (pl : List (ByteArray × Nat)) (ss : List ByteArray) (w : World) (e : Ending) (w' : World) : Prop :=
 ∃ a' n' c', e = .returned (.tuple #[.slice a' n' c', .int .i64 (qob pl ss : Nat)]) /\ Hid (Rd w' a' (qshort pl ss) /\ (qshort pl ss).length = n' /\ (a' = none -> c' = 0) /\ Below w.heap.size w w')
set_option maxHeartbeats 4000000 in
theorem shorten_any (B g : Nat) (tx : List Int) (pl : List (ByteArray × Nat)) (a : Option Addr) (n c : Nat) (ss : List ByteArray) (w : World) (h : Wr B w g tx pl) (hk : nck ss = 0) (hP : ∀ k p, (k, p) ∈ pl -> p < 16384) (hr : Rd w a (nby ss ++ [0])) (hn : (nby ss ++ [0]).length = n) (hnc : n <= c) (hc : c <= 9223372036854775807) :
   Calls Tryz.prog 123 #[.pointer (some ⟨g, 0, none⟩), .slice a n c] w (ShPost pl ss w) := by
 obtain ⟨v, ys, mb, h⟩ := h
 have hg := box_lt h.box
 have c2 : w.cell? ⟨g, 2, none⟩ = some (.map (some mb)) := box_cell h.box 2 _ rfl
 have hcv : ∀ W, Below w.heap.size w W -> (convert 29 9 (.slice a n c)).run Tryz.prog W = .ok (.string (qkey ss)) W := fun W hW => conv_rd a n c _ W (hr.below hW) hn
 have hx : (convert 29 9 (.slice a n c)).run Tryz.prog ((((w.alloc (.cells #[.pointer (some ⟨g, 0, none⟩)] 91)).alloc (.cells #[.slice a n c] 29)).alloc (.cells #[.slice none 0 0] 29)).alloc (.cells #[.int .i64 0] 3)) = .ok (.string (qkey ss)) ((((w.alloc (.cells #[.pointer (some ⟨g, 0, none⟩)] 91)).alloc (.cells #[.slice a n c] 29)).alloc (.cells #[.slice none 0 0] 29)).alloc (.cells #[.int .i64 0] 3)) := hcv _ (((((Below.refl _ w).alloc (Nat.le_refl _) _).alloc (by simp) _).alloc (by simp; omega) _).alloc (by simp; omega) _)
 clear hcv
 have hlo := labs_of hk
 have hsz : (qkey ss).size = n := by rw [qkey_size, <- nby_len, <- hn]; simp
 have hn255 : n <= 255 := by rw [<- hsz, qkey_size]; exact (nck_small hk).1
 have HR : Hid (Rd w a (nby ss ++ [0])) := hr
 have HM : Hid (PlM w mb pl) := h.map
 have hmb : mb < w.heap.size := by obtain ⟨es, cl, e⟩ := h.map.isMap; exact box_lt e
 have ha : ∃ x, a = some x := by
   cases a with
   | none => rcases hr.1 with h1 | ⟨b, o, h1, _⟩
             · simp at h1
             · cases h1
   | some x => exact ⟨x, rfl⟩
 obtain ⟨x, rfl⟩ := ha
 have HST : Hid (∀ (F : Fence) (m Bs : Nat) (W : World), F.fn 148 -> F.round = none -> 1 <= m -> Boxed W Bs 9 (.string (qkey ss)) -> SeqStopsK F m Tryz.prog 148 #[.pointer (some ⟨Bs, 0, none⟩)] (fun x : Ix ss.length => #[Value.int .i64 (offs ss x.1 : Nat)]) (KpS Bs) (fun ys => ys = iup ss.length ss.length) (fun pre => ∃ k, k <= ss.length /\ pre = iup ss.length k) ss.length W) := fun F m Bs W h1 h2 h3 h4 => tails_stops F m h1 h2 h3 Bs ss hk W h4
 have HT : Hid (∀ k, (qkey ss).extract (offs ss k) (qkey ss).size = qkey (ss.drop k) /\ (qkey (ss.drop k)).size <= 255) := fun k => ⟨qkey_tail ss hlo k, by rw [qkey_size]; have := nsz_drop ss k; have := (nck_small hk).1; omega⟩
 clear h hr
 have HS0 : Hid (∃ s, qkey ss = s) := ⟨_, rfl⟩
 obtain ⟨s, hS⟩ : ∃ s, qkey ss = s := ⟨_, rfl⟩
 rw [hS] at hx hsz HST HT
 have HS : Hid (qkey ss = s) := hS
 clear hS HS0
 refine (callsIn_wide (n := 3)).1 ?_
 refine callsIn_of_wp_marks Tryz.func123 rfl trivial ?_ rfl
 simp only [Tryz.ntmps123, List.size_toArray, List.length_cons, List.length_nil, Nat.reduceAdd, Nat.reduceSub, Array.replicate_succ, Array.replicate_zero, List.push_toArray, List.append_toArray, List.nil_append, List.cons_append]
 gi_wp2_with (refine ⟨trivial, ?_⟩; gi_at_call 134; refine (callsIn_wide.2 (tails_any _ _)).mono ?_; rintro e w' ⟨rfl, rfl⟩)
 have b0 := (((((Boxed.new w 91 (.pointer (some ⟨g, 0, none⟩))).alloc (.cells #[.slice (some x) n c] 29)).alloc (.cells #[.slice none 0 0] 29)).alloc (.cells #[.int .i64 0] 3)).alloc (.cells #[.string s] 9)).alloc (.cells #[.string s] 9)
 have b1 := ((((Boxed.new (w.alloc (.cells #[.pointer (some ⟨g, 0, none⟩)] 91)) 29 (.slice (some x) n c)).alloc (.cells #[.slice none 0 0] 29)).alloc (.cells #[.int .i64 0] 3)).alloc (.cells #[.string s] 9)).alloc (.cells #[.string s] 9)
 have b2 := (((Boxed.new ((w.alloc (.cells #[.pointer (some ⟨g, 0, none⟩)] 91)).alloc (.cells #[.slice (some x) n c] 29)) 29 (.slice none 0 0)).alloc (.cells #[.int .i64 0] 3)).alloc (.cells #[.string s] 9)).alloc (.cells #[.string s] 9)
 have b3 := ((Boxed.new (((w.alloc (.cells #[.pointer (some ⟨g, 0, none⟩)] 91)).alloc (.cells #[.slice (some x) n c] 29)).alloc (.cells #[.slice none 0 0] 29)) 3 (.int .i64 0)).alloc (.cells #[.string s] 9)).alloc (.cells #[.string s] 9)
 have b4 := (Boxed.new ((((w.alloc (.cells #[.pointer (some ⟨g, 0, none⟩)] 91)).alloc (.cells #[.slice (some x) n c] 29)).alloc (.cells #[.slice none 0 0] 29)).alloc (.cells #[.int .i64 0] 3)) 9 (.string s)).alloc (.cells #[.string s] 9)
 have b5 := Boxed.new (((((w.alloc (.cells #[.pointer (some ⟨g, 0, none⟩)] 91)).alloc (.cells #[.slice (some x) n c] 29)).alloc (.cells #[.slice none 0 0] 29)).alloc (.cells #[.int .i64 0] 3)).alloc (.cells #[.string s] 9)) 9 (.string s)
 simp only [World.size_alloc] at b1 b2 b3 b4 b5
 have hB0 : Below w.heap.size w ((((((w.alloc (.cells #[.pointer (some ⟨g, 0, none⟩)] 91)).alloc (.cells #[.slice (some x) n c] 29)).alloc (.cells #[.slice none 0 0] 29)).alloc (.cells #[.int .i64 0] 3)).alloc (.cells #[.string s] 9)).alloc (.cells #[.string s] 9)) := ((((((Below.refl _ w).alloc (Nat.le_refl _) _).alloc (by simp) _).alloc (by simp; omega) _).alloc (by simp; omega) _).alloc (by simp; omega) _).alloc (by simp; omega) _
 have hz0 : ((((((w.alloc (.cells #[.pointer (some ⟨g, 0, none⟩)] 91)).alloc (.cells #[.slice (some x) n c] 29)).alloc (.cells #[.slice none 0 0] 29)).alloc (.cells #[.int .i64 0] 3)).alloc (.cells #[.string s] 9)).alloc (.cells #[.string s] 9)).heap.size = w.heap.size + 6 := by simp
 clear hx
 generalize ((((((w.alloc (.cells #[.pointer (some ⟨g, 0, none⟩)] 91)).alloc (.cells #[.slice (some x) n c] 29)).alloc (.cells #[.slice none 0 0] 29)).alloc (.cells #[.int .i64 0] 3)).alloc (.cells #[.string s] 9)).alloc (.cells #[.string s] 9)) = W0 at *
 refine wpIn_rangeFunc_ownG rfl (by omega) (gf := 148) (lb := #[.pointer (some ⟨w.heap.size + 1 + 1 + 1 + 1 + 1, 0, none⟩)]) rfl trivial (enters_of Tryz.func148 (by kernel_rfl) rfl)
   (HST.out Fence.wide _ _ W0 trivial rfl (by omega) b5) kpS_t (kpS_b (w := W0)) (Below.refl _ _) (fun _ => rfl)
   (fun pre W => (((((Boxed W w.heap.size 91 (.pointer (some ⟨g, 0, none⟩)) /\ Boxed W (w.heap.size + 1) 29 (.slice (some x) n c)) /\ Boxed W (w.heap.size + 1 + 1) 29 (.slice none 0 0)) /\ Boxed W (w.heap.size + 1 + 1 + 1) 3 (.int .i64 0)) /\ Boxed W (w.heap.size + 1 + 1 + 1 + 1) 9 (.string s)) /\ Hid (∀ y ∈ pre, qfind pl (qkey (ss.drop y.1)) = none)) /\ Below w.heap.size w W)
   (fun cc pre W => (cc = .ret /\ ∃ (q : List (Ix ss.length)) (y : Ix ss.length) (p : Nat) (ao : Option Addr) (zs : List Int), (Boxed W (w.heap.size + 1 + 1) 29 (.slice ao (offs ss y.1 + 2) zs.length) /\ Boxed W (w.heap.size + 1 + 1 + 1) 3 (.int .i64 (offs ss y.1 : Nat))) /\ Own w.heap.size W (.slice ao (offs ss y.1 + 2) zs.length) (offs ss y.1 + 2) zs /\ Hid (pre = q ++ [y] /\ (∀ z ∈ q, qfind pl (qkey (ss.drop z.1)) = none) /\ qfind pl (qkey (ss.drop y.1)) = some p /\ zs.take (offs ss y.1 + 2) = nby (ss.take y.1) ++ [192 + (p : Int) / 256, (p : Int) % 256])) /\ Below w.heap.size w W)
   (OwnFrom.and (OwnFrom.and (OwnFrom.and (OwnFrom.and (OwnFrom.and (OwnFrom.and ((boxed_own _ _ _).from _) ((boxed_own _ _ _).from _)) ((boxed_own _ _ _).from _)) ((boxed_own _ _ _).from _)) ((boxed_own _ _ _).from _)) (ownFrom_pure _ _)) (ownFrom_below (Nat.le_refl _) (by omega)))
   (fun cc => OwnFrom.and (fun pre A W row hs hg hr => by
     obtain ⟨e1, q, y, p, ao, zs, ⟨e2, e3⟩, e4, e5⟩ := hs
     exact ⟨e1, q, y, p, ao, zs, ⟨((boxed_own (β := Unit) (w.heap.size + 1 + 1) 29 (fun _ => .slice ao (offs ss y.1 + 2) zs.length)).from _) () A W row e2 hg hr, ((boxed_own (β := Unit) (w.heap.size + 1 + 1 + 1) 3 (fun _ => .int .i64 (offs ss y.1 : Nat))).from _) () A W row e3 hg hr⟩, own_from_own e4 hg hr, e5⟩) (ownFrom_below (Nat.le_refl _) (by omega)))
   ⟨⟨⟨⟨⟨⟨b0, b1⟩, b2⟩, b3⟩, b4⟩, fun y hy => nomatch hy⟩, hB0⟩
   (fun y => { tmps := #[.pointer (some ⟨g, 0, none⟩), .slice (some x) n c, .pointer (some ⟨w.heap.size, 0, none⟩), .pointer (some ⟨w.heap.size + 1, 0, none⟩), .pointer (some ⟨w.heap.size + 1 + 1, 0, none⟩), .pointer (some ⟨w.heap.size + 1 + 1 + 1, 0, none⟩), .pointer (some ⟨w.heap.size + 1 + 1 + 1 + 1, 0, none⟩), .int .i64 (offs ss y.1 : Nat), undef, undef, undef, undef, .slice (some x) n c, .string s, .string s, .func (.func 148) #[] #[.pointer (some ⟨w.heap.size + 1 + 1 + 1 + 1 + 1, 0, none⟩)], .int .i64 (offs ss y.1 : Nat), undef, undef, undef, undef, undef, undef, undef, undef, undef, undef, undef, undef, undef, undef, undef, undef, undef, undef, undef, undef, undef, undef, undef, undef, undef, undef, undef, undef, undef, undef, undef], defers := [] }) ?assign ?body ?done ?stop
 case assign =>
   intro l y W K hK
   gi_wp2
   exact hK
 case body =>
   rintro l pre ⟨k, hkl⟩ W ⟨⟨⟨⟨⟨⟨hb0, hb1⟩, hb2⟩, hb3⟩, hb4⟩, HC⟩, hB⟩ _
   have d0 := hb0.cell
   have d1 := hb1.cell
   have d4 := hb4.cell
   have f2 := hb2.frozen
   have f3 := hb3.frozen
   have d2 := hb2.cell
   have d3 := hb3.cell
   have dg := cell_below hB hg c2
   have hgW : g < W.heap.size := Nat.lt_of_lt_of_le hg hB.size
   clear b0 b1 b2 b3 b4 b5
   obtain ⟨t, ht⟩ : ∃ t, qkey (ss.drop k) = t := ⟨_, rfl⟩
   have hext := (HT.out k).1
   have htz := (HT.out k).2
   rw [ht] at hext htz
   have HPl : Hid (PlM W mb pl) := HM.out.same (hB.block mb hmb)
   have hlk : ∀ k, (Instr.lookup 123 (.map (some mb)) (.string t) true).run Tryz.prog (W.drewN k) = .ok (.tuple #[.int .i64 ((qfind pl t).getD 0 : Nat), .bool (qfind pl t).isSome]) (W.drewN k) := fun k => (show PlM (W.drewN k) mb pl from HPl.out.same rfl).look t htz
   rw [hsz] at hext
   have HFT : Hid (qkey (ss.drop k) = t) := ht
   have ho : offs ss k + 1 <= n := by rw [<- hsz, <- HS.out, qkey_size]; exact offs_le ss k
   obtain ⟨P, hPo⟩ : ∃ P, offs ss k = P := ⟨_, rfl⟩
   have HPO : Hid (offs ss k = P) := hPo
   rw [hPo] at ho hext ⊢
   have hP1 : (P : Int) <= (s.size : Int) := by omega
   have hP2 : (0 : Int) <= (P : Int) := by omega
   clear hPo ht
   cases hf : qfind pl t with
   | none =>
     rw [hf] at hlk
     simp only [Option.getD_none, Option.isSome_none] at hlk
     have HN : Hid (∀ y ∈ pre ++ [(⟨k, hkl⟩ : Ix ss.length)], qfind pl (qkey (ss.drop y.1)) = none) := by
       intro y hy
       rcases List.mem_append.1 hy with hy | hy
       · exact HC.out y hy
       · simp at hy; subst hy; rw [HFT.out]; exact hf
     clear hf
     gi_wp2
     refine region_round (F := Fence.wide) rfl (by rfl) (by kernel_rfl) (by kernel_rfl) ?_
     repeat (gi_big_quiet_step (fail))
     refine wpQuietIn_nil ?_
     intro _ hw'
     obtain ⟨nq, hw''⟩ := hw'
     subst hw''
     gi_wp2
     exact ⟨⟨Nat.le_refl _, fun k o _ h _ => h⟩, fun v h => h, ⟨⟨⟨⟨⟨hb0, hb1⟩, hb2⟩, hb3⟩, hb4⟩, HN⟩, ⟨hB.os, hB.tape, hB.output, hB.size, hB.block⟩⟩
   | some p =>
     rw [hf] at hlk
     simp only [Option.getD_some, Option.isSome_some] at hlk
     have hp := hP _ _ (qfind_mem hf)
     have HF : Hid (qfind pl t = some p) := hf
     have e1 : ((49152 : Int) + (p : Int)) / 256 = 192 + (p : Int) / 256 := by omega
     have e2 : ((49152 : Int) + (p : Int)) % 256 = (p : Int) % 256 := by omega
     have KP : Hid (∀ W, Calls Tryz.prog 70 #[.int .i64 (49152 + (p : Int))] W fun e w' => e = .returned (.tuple #[.slice (some ⟨W.heap.size, 0, none⟩) 2 2, .int .i64 0]) /\ w' = W.alloc (.cells #[.int .u8 (192 + (p : Int) / 256), .int .u8 ((p : Int) % 256)] 5)) := fun W => by
       have := put16_yes (49152 + (p : Int)) W (by omega) (by omega)
       rw [e1, e2] at this
       exact this
     have HRT : Hid (∀ W, Below w.heap.size w W -> Rd W (some x) (nby (ss.take k))) := fun W hW => by
       have h1 := (HR.out.below hW).cut (a' := some x) 0 P (by rw [hn]; omega) (fun _ b o e => by cases e; rfl)
       have h2 : ((nby ss ++ [0]).drop 0).take P = nby (ss.take k) := by
         rw [List.drop_zero, nby_split ss k, List.append_assoc, List.take_append_of_le_length (by rw [<- HPO.out]; exact Nat.le_refl _), List.take_of_length_le (by rw [<- HPO.out]; exact Nat.le_refl _)]
       rw [h2] at h1
       exact h1
     have hPc : (P : Int) <= (c : Int) := by omega
     have HKN : Hid ((nby (ss.take k)).length = P) := HPO.out
     have s1 : w.heap.size + 1 < W.heap.size := hb1.lt
     have s2 : w.heap.size + 1 + 1 < W.heap.size := hb2.lt
     have s3 : w.heap.size + 1 + 1 + 1 < W.heap.size := hb3.lt
     clear hf e1 e2 HST HT hP hlo hk
     gi_wp2
     refine region_round (F := Fence.wide) rfl (by rfl) (by kernel_rfl) (by kernel_rfl) ?_
     repeat (gi_big_quiet_step (fail))
     refine wpQuietIn_nil ?_
     intro _ hw'
     obtain ⟨nq, hw''⟩ := hw'
     subst hw''
     have hBn : Below w.heap.size w (W.drewN nq) := ⟨hB.os, hB.tape, hB.output, hB.size, hB.block⟩
     have HALL : Hid (∀ w2, w2 = (W.drewN nq).alloc (.cells #[.int .u8 (192 + (p : Int) / 256), .int .u8 ((p : Int) % 256)] 5) -> w2.cell? ⟨w.heap.size + 1, 0, none⟩ = some (.slice (some x) n c) /\ ∃ ao3 w3 y3, (Builtin.append_ #[29, 29] 29 #[.slice (some x) P P, .slice (some ⟨W.heap.size, 0, none⟩) 2 2]).run Tryz.prog w2 = .ok (.slice ao3 (P + 2) y3.length) w3 /\ (Boxed w3 (w.heap.size + 1 + 1) 29 (.slice none 0 0) /\ Boxed w3 (w.heap.size + 1 + 1 + 1) 3 (.int .i64 0)) /\ Hid (Below w.heap.size w w3 /\ Own w2.heap.size w3 (.slice ao3 (P + 2) y3.length) (P + 2) y3 /\ y3.take (P + 2) = nby (ss.take k) ++ [192 + (p : Int) / 256, (p : Int) % 256] /\ w.heap.size <= w2.heap.size /\ KeepsOthers W w3)) := by
       rintro w2 rfl
       have q1 : Below w.heap.size w ((W.drewN nq).alloc (.cells #[.int .u8 (192 + (p : Int) / 256), .int .u8 ((p : Int) % 256)] 5)) := hBn.alloc hBn.size _
       have q2 := new_rd2 (W.drewN nq) (192 + (p : Int) / 256) ((p : Int) % 256) (by omega) (by omega)
       have q3 := (show Boxed (W.drewN nq) _ _ _ from hb2).alloc (.cells #[.int .u8 (192 + (p : Int) / 256), .int .u8 ((p : Int) % 256)] 5)
       have q4 := (show Boxed (W.drewN nq) _ _ _ from hb3).alloc (.cells #[.int .u8 (192 + (p : Int) / 256), .int .u8 ((p : Int) % 256)] 5)
       have q5 : KeepsOthers W ((W.drewN nq).alloc (.cells #[.int .u8 (192 + (p : Int) / 256), .int .u8 ((p : Int) % 256)] 5)) := (show KeepsOthers W (W.drewN nq) from ⟨Nat.le_refl _, fun k o h _ => h⟩).trans (KeepsOthers.alloc _ _)
       refine ⟨((show Boxed (W.drewN nq) _ _ _ from hb1).alloc _).cell, ?_⟩
       generalize (W.drewN nq).alloc (.cells #[.int .u8 (192 + (p : Int) / 256), .int .u8 ((p : Int) % 256)] 5) = w2 at *
       obtain ⟨v3, w3, y3, hrun, hO3, hT3, hB3⟩ := run_append_cut w2 29 x P (nby (ss.take k)) (HRT.out w2 q1) HKN.out (some ⟨W.heap.size, 0, none⟩) 2 2 [192 + (p : Int) / 256, (p : Int) % 256] q2 rfl (by omega) (by omega)
       obtain ⟨ao3, rfl, _⟩ := hO3.addr
       exact ⟨ao3, w3, y3, hrun, ⟨(hB3.block _ q3.lt).trans q3, (hB3.block _ q4.lt).trans q4⟩, q1.trans (hB3.mono q1.size), hO3, hT3, q1.size, q5.trans ⟨hB3.size, fun k o h _ => (hB3.block k (Array.getElem?_eq_some_iff.1 h).1).trans h⟩⟩
     clear hlk hext
     gi_wp2_with (first
       | (refine ⟨trivial, ?_⟩; gi_at_call 70; refine (CallsIn.inRound l (callsIn_wide.2 (KP.out _))).mono ?_; rintro e w2 ⟨rfl, hw2⟩; obtain ⟨D1, ao3, w3, y3, hrun, hg23, H3⟩ := HALL.out w2 hw2; clear hw2; have HG := Lib.hid hg23; have g2c := hg23.1.cell; have g2f := hg23.1.frozen; have g3c := hg23.2.cell; have g3f := hg23.2.frozen; have hl2 := hg23.1.lt; have hl3 := hg23.2.lt; clear hg23)
       | (gi_at_builtin; refine wpListIn_append_eq _ rfl _ _ 29 29 rfl _ _ _ _ rfl rfl hrun ?_))
     have bx2 : Boxed (w3.setCell ⟨w.heap.size + 1 + 1, 0, none⟩ (.slice ao3 (P + 2) y3.length)) (w.heap.size + 1 + 1) 29 (.slice ao3 (P + 2) y3.length) := HG.out.1.set _
     have bx3 : Boxed (w3.setCell ⟨w.heap.size + 1 + 1, 0, none⟩ (.slice ao3 (P + 2) y3.length)) (w.heap.size + 1 + 1 + 1) 3 (.int .i64 0) := HG.out.2.other (by omega) _
     have ow := ((H3.out.2.1.lower H3.out.2.2.2.1).setOther (k := 0) HG.out.1 (by decide) (.slice ao3 (P + 2) y3.length)).setOther (k := 0) bx3 (by decide) (.int .i64 (P : Int))
     have bl := (H3.out.1.setCell (p := ⟨w.heap.size + 1 + 1, 0, none⟩) (by simp; omega) (.slice ao3 (P + 2) y3.length)).setCell (p := ⟨w.heap.size + 1 + 1 + 1, 0, none⟩) (by simp; omega) (.int .i64 (P : Int))
     have HFIN : Hid (pre ++ [(⟨k, hkl⟩ : Ix ss.length)] = pre ++ [⟨k, hkl⟩] /\ (∀ z ∈ pre, qfind pl (qkey (ss.drop z.1)) = none) /\ qfind pl (qkey (ss.drop k)) = some p /\ y3.take (P + 2) = nby (ss.take k) ++ [192 + (p : Int) / 256, (p : Int) % 256]) := ⟨rfl, HC.out, by rw [HFT.out]; exact HF.out, H3.out.2.2.1⟩
     refine ⟨((H3.out.2.2.2.2.trans (KeepsOthers.setCell _ _ _)).trans (KeepsOthers.setCell _ _ _)).from _, ⟨rfl, pre, ⟨k, hkl⟩, p, ao3, y3, ?_⟩, bl⟩
     rw [HPO.out]
     exact ⟨⟨bx2.other (by omega) _, bx3.set _⟩, ow, HFIN⟩
 case done =>
   rintro D xs W hD rfl ⟨⟨⟨⟨⟨⟨hb0, hb1⟩, hb2⟩, hb3⟩, hb4⟩, HC⟩, hB⟩ hK
   clear b0 b1 b2 b3 b4 b5 HST HT hB0
   have d1 := hb1.cell
   have d2 := hb2.cell
   have d3 := hb3.cell
   have f2 := hb2.frozen
   have f3 := hb3.frozen
   have s2 := hb2.lt
   have s3 := hb3.lt
   gi_wp2
   gi_region
   gi_wp2
   have hK2 : (((W.setCell ⟨w.heap.size + 1 + 1, 0, none⟩ (.slice (some x) n c)).setCell ⟨w.heap.size + 1 + 1 + 1, 0, none⟩ (.int .i64 (n : Int))).drew).heap[D]? = some (.deferred (some [])) := ((KeepsOthers.setCell W ⟨w.heap.size + 1 + 1, 0, none⟩ (.slice (some x) n c)).trans (KeepsOthers.setCell _ ⟨w.heap.size + 1 + 1 + 1, 0, none⟩ (.int .i64 (n : Int)))).same D _ hK rfl
   have hall : ∀ j, j < ss.length -> qfind pl (qkey (ss.drop j)) = none := fun j hj => HC.out ⟨j, hj⟩ (iup_mem hj (Nat.le_refl _) hj)
   have hq := short_none pl ss hall
   have hqob : qob pl ss = n := by unfold qob; rw [hq.1, if_neg (by omega), <- hn, <- nby_len]; simp
   have bl : Below w.heap.size w (((W.setCell ⟨w.heap.size + 1 + 1, 0, none⟩ (.slice (some x) n c)).setCell ⟨w.heap.size + 1 + 1 + 1, 0, none⟩ (.int .i64 (n : Int))).drew) := by
     have := (hB.setCell (p := ⟨w.heap.size + 1 + 1, 0, none⟩) (by simp; omega) (.slice (some x) n c)).setCell (p := ⟨w.heap.size + 1 + 1 + 1, 0, none⟩) (by simp; omega) (.int .i64 (n : Int))
     exact ⟨this.os, this.tape, this.output, this.size, this.block⟩
   have k2 : Boxed (((W.setCell ⟨w.heap.size + 1 + 1, 0, none⟩ (.slice (some x) n c)).setCell ⟨w.heap.size + 1 + 1 + 1, 0, none⟩ (.int .i64 (n : Int))).drew) (w.heap.size + 1 + 1) 29 (.slice (some x) n c) := (hb2.set _).other (by omega) _
   have k3 : Boxed (((W.setCell ⟨w.heap.size + 1 + 1, 0, none⟩ (.slice (some x) n c)).setCell ⟨w.heap.size + 1 + 1 + 1, 0, none⟩ (.int .i64 (n : Int))).drew) (w.heap.size + 1 + 1 + 1) 3 (.int .i64 (n : Int)) := (hb3.other (by omega) _).set _
   generalize (((W.setCell ⟨w.heap.size + 1 + 1, 0, none⟩ (.slice (some x) n c)).setCell ⟨w.heap.size + 1 + 1 + 1, 0, none⟩ (.int .i64 (n : Int))).drew) = W5 at *
   have bl2 := bl.trans (belowK_b (w := w) (Nat.le_refl _) W5 D _ (.deferred none) (by omega) hK2 rfl rfl)
   have k2' := (k2.kept (grownBy_putObj' W5 D (.deferred none)) (by simp; omega)).cell
   have k3' := (k3.kept (grownBy_putObj' W5 D (.deferred none)) (by simp; omega)).cell
   refine ⟨by simp, .inl ⟨_, _, rfl, run_takeDeferred hK2, ?_⟩⟩
   refine ⟨.tuple #[.slice (some x) n c, .int .i64 (n : Int)], by simp [results, Tryz.results123, go_sem, k2', k3'], some x, n, c, by rw [hqob], ?_, ?_, by simp, bl2⟩
   · rw [hq.2]; exact HR.out.below bl2
   · rw [hq.2]; exact hn
 case stop =>
   rintro D cc pre W hD ⟨k, hk9, rfl⟩ ⟨⟨rfl, q, y, p, ao, zs, ⟨hb2, hb3⟩, hO, HC⟩, hB⟩ hK
   clear b0 b1 b2 b3 b4 b5 HST HT hB0
   have k2' := (hb2.kept (grownBy_putObj' W D (.deferred none)) (by simp; omega)).cell
   have k3' := (hb3.kept (grownBy_putObj' W D (.deferred none)) (by simp; omega)).cell
   have bl2 := hB.trans (belowK_b (w := w) (Nat.le_refl _) W D _ (.deferred none) (by omega) hK rfl rfl)
   obtain ⟨e1, e2, e3, e4⟩ := HC.out
   obtain ⟨j, rfl⟩ : ∃ j, k = j + 1 := ⟨k - 1, by cases k with | zero => simp [iup] at e1 | succ k => rfl⟩
   have hjl : j < ss.length := hk9
   rw [iup_succ hjl] at e1
   obtain ⟨rfl, ey⟩ := List.append_inj' e1 rfl
   have ey' : y = ⟨j, hjl⟩ := by simpa using ey.symm
   subst ey'
   have hq := short_at pl ss j p (by omega) (fun i hi => e2 ⟨i, by omega⟩ (iup_mem hi (by omega) (by omega))) e3
   have hqob : qob pl ss = offs ss j := by unfold qob; rw [hq.1, if_pos (by omega)]
   have hO2 := own_from_own (B := 0) hO (grownBy_putObj' W D (.deferred none)) (fun r e => by cases e; exact ⟨Nat.zero_le _, _, hK, rfl⟩)
   obtain ⟨ao', e5, hA⟩ := hO2.addr
   cases e5
   have hrd := hA.rdTake (offs ss j + 2)
   simp only at e4
   rw [e4, <- hq.2] at hrd
   have hle := hA.le
   have hqn : (qshort pl ss).length = offs ss j + 2 := by rw [hq.2]; simp [offs]
   gi_wp2
   refine ⟨by simp, .inl ⟨_, _, rfl, run_takeDeferred hK, ?_⟩⟩
   refine ⟨.tuple #[.slice ao (offs ss j + 2) zs.length, .int .i64 (offs ss j : Nat)], by simp [results, Tryz.results123, go_sem, k2', k3'], ao, _, _, by rw [hqob], hrd, hqn, hA.nil, bl2⟩
end Go.Proofs.YtkjnbgekaifdfaaGreat
namespace Go.Proofs.YtkjnbgekaifdfaaGreat
open Go.ChangeShapes Go.WideShapes Go.ChangeAt Go.RowKit Go.Shelf
def lastB (l : List Oper) (o : Oper) : Bool :=
 ((List.range l.length).all fun j => match l[j]? with
   | some x => x.guard.isNone && x.after.all (fun e => !Region.binds .any e || decide (e.on < j))
   | none => true) && o.guard.isNone && o.after.all (fun e => !Region.binds .any e || decide (e.on < l.length)) &&
 (List.range l.length).all (fun j => o.after.any (fun e => Region.binds .any e && e.on == j))
theorem lastB_spec {l : List Oper} {o : Oper} (h : lastB l o = true) :
   (∀ (j : Nat) (x : Oper), l[j]? = some x -> x.guard = none /\ ∀ e ∈ x.after, Region.binds .any e = true -> e.on < j) /\ o.guard = none /\ (∀ e ∈ o.after, Region.binds .any e = true -> e.on < l.length) /\ (∀ j, j < l.length -> ∃ e ∈ o.after, Region.binds .any e = true /\ e.on = j) := by
 unfold lastB at h
 simp only [Bool.and_eq_true] at h
 obtain ⟨⟨⟨h1, h2⟩, h3⟩, h4⟩ := h
 refine ⟨fun j x hx => ?_, by simpa using h2, fun e he hb => ?_, fun j hj => ?_⟩
 · have hj : j < l.length := (List.getElem?_eq_some_iff.1 hx).1
   have := List.all_eq_true.1 h1 j (List.mem_range.2 hj)
   rw [hx] at this
   simp only [Bool.and_eq_true] at this
   refine ⟨by simpa using this.1, fun e he hb => ?_⟩
   have h5 := (Array.all_eq_true_iff_forall_mem.1 this.2) e he
   simpa [hb] using h5
 · have h5 := (Array.all_eq_true_iff_forall_mem.1 h3) e he
   simpa [hb] using h5
 · have := List.all_eq_true.1 h4 j (List.mem_range.2 hj)
   rw [Array.any_eq_true'] at this
   obtain ⟨e, he, h6⟩ := this
   simp only [Bool.and_eq_true, beq_iff_eq] at h6
   exact ⟨e, he, h6.1, h6.2⟩
theorem set_push_last {listed : Array Bool} {m : Nat} (hs : listed.size = m) : (listed.push false).setIfInBounds m true = listed.push true := by
 subst hs
 cases listed with
 | mk xs => simp [List.set_append]
theorem set_push_pre {listed : Array Bool} {i : Nat} (h : i < listed.size) : (listed.push false).setIfInBounds i true = (listed.setIfInBounds i true).push false := by
 cases listed with
 | mk xs =>
   have h' : i < xs.length := by simpa using h
   simp [List.set_append, h']
variable {l : List Oper} {o : Oper}
theorem at_pre {i : Nat} (hi : i < l.length) : (l ++ [o]).toArray[i]? = l.toArray[i]? := by simp [hi, List.getElem?_append_left]
theorem at_last : (l ++ [o]).toArray[l.length]? = some o := by simp
theorem push_getD {listed : Array Bool} {b d : Bool} {j m : Nat} (hs : listed.size = m) (hj : j < m) : (listed.push b).getD j d = listed.getD j d := by
 have h1 : j < listed.size := by omega
 have h2 : j < listed.size + 1 := by omega
 simp [Array.getD, h1, h2, Array.getElem_push_lt h1]
theorem push_last {listed : Array Bool} {b d : Bool} {m : Nat} (hs : listed.size = m) : (listed.push b).getD m d = b := by
 subst hs
 simp [Array.getD]
theorem ready_pre (hl : lastB l o = true) {listed : Array Bool} {b : Bool} (hs : listed.size = l.length) {i : Nat} (hi : i < l.length) : i ∈ Region.ready .any (l ++ [o]).toArray (listed.push b) ↔ i ∈ Region.ready .any l.toArray listed := by
 obtain ⟨h1, h2, h3, h4⟩ := lastB_spec hl
 rw [mem_ready, mem_ready, push_getD hs hi, at_pre hi]
 constructor
 · rintro ⟨e1, x, hx, e2⟩
   have hx' : l[i]? = some x := by simpa using hx
   exact ⟨e1, x, hx, fun e he hb => by have := e2 e he hb; rwa [push_getD hs (by have := (h1 i x hx').2 e he hb; omega)] at this⟩
 · rintro ⟨e1, x, hx, e2⟩
   have hx' : l[i]? = some x := by simpa using hx
   exact ⟨e1, x, hx, fun e he hb => by have := e2 e he hb; rwa [push_getD hs (by have := (h1 i x hx').2 e he hb; omega)]⟩
theorem ready_last (hl : lastB l o = true) {listed : Array Bool} (hs : listed.size = l.length) : l.length ∈ Region.ready .any (l ++ [o]).toArray (listed.push false) ↔ ∀ j, j < l.length -> listed.getD j false = true := by
 obtain ⟨h1, h2, h3, h4⟩ := lastB_spec hl
 rw [mem_ready, push_last hs, at_last]
 constructor
 · rintro ⟨_, x, hx, e2⟩ j hj
   cases hx
   obtain ⟨e, he, hb, rfl⟩ := h4 j hj
   have := e2 e he hb
   rwa [push_getD hs hj] at this
 · intro h
   exact ⟨rfl, o, rfl, fun e he hb => by rw [push_getD hs (h3 e he hb)]; exact h _ (h3 e he hb)⟩
theorem all_listed (hl : lastB l o = true) {listed : Array Bool} (hs : listed.size = l.length) (h : Region.ready .any l.toArray listed = []) : ∀ j, j < l.length -> listed.getD j false = true := by
 obtain ⟨h1, h2, h3, h4⟩ := lastB_spec hl
 intro j
 induction j using Nat.strongRecOn with
 | ind j ih =>
   intro hj
   by_cases e : listed.getD j false = true
   · exact e
   · have hjs : j < listed.size := by omega
     have e' : listed.getD j true = false := by simp [Array.getD, hjs] at e ⊢; exact e
     have : j ∈ Region.ready .any l.toArray listed := by
       rw [mem_ready]
       have hx : l[j]? = some l[j] := List.getElem?_eq_getElem hj
       exact ⟨e', l[j], by simp [hj], fun e he hb => ih _ ((h1 j _ hx).2 e he hb) (by have := (h1 j _ hx).2 e he hb; omega)⟩
     rw [h] at this
     cases this
theorem none_listed (hl : lastB l o = true) {listed : Array Bool} (hs : listed.size = l.length) (h : ∀ j, j < l.length -> listed.getD j false = true) : Region.ready .any l.toArray listed = [] := by
 cases hr : Region.ready .any l.toArray listed with
 | nil => rfl
 | cons i r =>
   have hi : i ∈ Region.ready .any l.toArray listed := by rw [hr]; simp
   obtain ⟨e1, x, hx, _⟩ := mem_ready.1 hi
   have hil : i < l.length := by
     have : l[i]? = some x := by simpa using hx
     exact (List.getElem?_eq_some_iff.1 this).1
   have := h i hil
   have his : i < listed.size := by omega
   simp [Array.getD, his] at e1 this
   rw [e1] at this; cases this
theorem ready_cases (hl : lastB l o = true) {listed : Array Bool} {b : Bool} (hs : listed.size = l.length) {i : Nat} (hi : i ∈ Region.ready .any (l ++ [o]).toArray (listed.push b)) : (i < l.length /\ i ∈ Region.ready .any l.toArray listed) ∨ (i = l.length /\ b = false) := by
 obtain ⟨e1, x, hx, _⟩ := mem_ready.1 hi
 have hx' : (l ++ [o])[i]? = some x := by simpa using hx
 have hlt := (List.getElem?_eq_some_iff.1 hx').1
 simp at hlt
 by_cases e : i < l.length
 · exact .inl ⟨e, (ready_pre hl hs e).1 hi⟩
 · have : i = l.length := by omega
   subst this
   rw [push_last hs] at e1
   exact .inr ⟨rfl, e1⟩
theorem any_last {F : Fence} {n : Nat} {P : Program} {C : World -> Prop} {Q1 : Act -> Prop} {Q : Exit -> Act -> World -> Prop} (hro : F.round = none) (hl : lastB l o = true)
   (hQ : ∀ a w, C w -> Q1 a -> o.wpIn F n P a w (fun a' w' => Q .normal a' w') Q) :
   ∀ (fuel : Nat) (listed : Array Bool) (a : Act) (w : World), listed.size = l.length -> C w -> wpAnyQIn F n P .any l.toArray C Q1 fuel listed a -> wpAnyIn F n P .any (l ++ [o]).toArray Q (fuel + 1) (listed.push false) a w := by
 obtain ⟨h1, h2, h3, h4⟩ := lastB_spec hl
 have hend : ∀ (fuel : Nat) (listed : Array Bool) (a : Act) (w : World), listed.size = l.length -> (∀ j, j < l.length -> listed.getD j false = true) -> Q .normal a w -> wpAnyIn F n P .any (l ++ [o]).toArray Q fuel (listed.push true) a w := by
   intro fuel listed a w hs hall hq
   have hr : Region.ready .any (l ++ [o]).toArray (listed.push true) = [] := by
     cases hr : Region.ready .any (l ++ [o]).toArray (listed.push true) with
     | nil => rfl
     | cons i r =>
       have hi : i ∈ Region.ready .any (l ++ [o]).toArray (listed.push true) := by rw [hr]; simp
       rcases ready_cases hl hs hi with ⟨_, hi'⟩ | ⟨_, hb⟩
       · rw [none_listed hl hs hall] at hi'; cases hi'
       · cases hb
   cases fuel with
   | zero => exact ⟨hr, hq⟩
   | succ fuel => exact ⟨fun _ => hq, fun i hi => by rw [hr] at hi; cases hi⟩
 have hlast : ∀ (fuel : Nat) (listed : Array Bool) (a : Act) (w : World), listed.size = l.length -> C w -> Q1 a -> (∀ j, j < l.length -> listed.getD j false = true) -> wpOpIn F n P (l ++ [o]).toArray Q l.length (wpAnyIn F n P .any (l ++ [o]).toArray Q fuel ((listed.push false).setIfInBounds l.length true)) a w := by
   intro fuel listed a w hs hC hq hall
   unfold wpOpIn
   rw [at_last]
   have hw : Region.wanted o (yielded (l ++ [o]).toArray a.tmps) = true := by simp [Region.wanted, h2]
   simp only [hw, if_true]
   refine Oper.wpIn_mono (fun a' w' h' => ?_) (hQ a w hC hq)
   have e : (listed.push false).setIfInBounds l.length true = listed.push true := set_push_last hs
   rw [e]
   exact hend fuel listed a' w' hs hall h'
 intro fuel
 induction fuel with
 | zero =>
   intro listed a w hs hC h
   have hall := all_listed hl hs h.1
   refine ⟨fun hr => ?_, fun i hi => ?_⟩
   · have := (ready_last hl hs).2 hall
     rw [hr] at this; cases this
   · rcases ready_cases hl hs hi with ⟨_, hi'⟩ | ⟨rfl, _⟩
     · rw [h.1] at hi'; cases hi'
     · exact hlast 0 listed a w hs hC h.2 hall
 | succ fuel ih =>
   intro listed a w hs hC h
   refine ⟨fun hr => ?_, fun i hi => ?_⟩
   · have hr' : Region.ready .any l.toArray listed = [] := by
       cases hr2 : Region.ready .any l.toArray listed with
       | nil => rfl
       | cons i r =>
         have hi : i ∈ Region.ready .any l.toArray listed := by rw [hr2]; simp
         obtain ⟨_, x, hx, _⟩ := mem_ready.1 hi
         have hil : i < l.length := by
           have : l[i]? = some x := by simpa using hx
           exact (List.getElem?_eq_some_iff.1 this).1
         have := (ready_pre (b := false) hl hs hil).2 hi
         rw [hr] at this; cases this
     have := (ready_last hl hs).2 (all_listed hl hs hr')
     rw [hr] at this; cases this
   · rcases ready_cases hl hs hi with ⟨hil, hi'⟩ | ⟨rfl, _⟩
     · have hx := h.2 i hi'
       unfold qOpIn at hx
       unfold wpOpIn
       rw [at_pre hil]
       have hxo : l.toArray[i]? = some l[i] := by simp [hil]
       rw [hxo] at hx ⊢
       simp only at hx ⊢
       have hgd := (h1 i l[i] (List.getElem?_eq_getElem hil)).1
       have hw1 : Region.wanted l[i] (yielded l.toArray a.tmps) = true := by simp [Region.wanted, hgd]
       have hw2 : Region.wanted l[i] (yielded (l ++ [o]).toArray a.tmps) = true := by simp [Region.wanted, hgd]
       simp only [hw1, if_true] at hx
       simp only [hw2, if_true]
       refine Oper.wpIn_of_quiet hro hC (fun a' w' hC' hK => ?_) hx.1 hx.2
       have e : (listed.push false).setIfInBounds i true = (listed.setIfInBounds i true).push false := set_push_pre (by omega)
       rw [e]
       exact ih (listed.setIfInBounds i true) a' w' (by simpa using hs) hC' hK
     · have hall := (ready_last hl hs).1 hi
       exact hlast (fuel + 1) listed a w hs hC (h.1 (none_listed hl hs hall)) hall
theorem region_round_last {F : Fence} {n r id : Nat} {P : Program} {Q : Exit -> Act -> World -> Prop} {a : Act} {w : World} {l : List Oper} {o : Oper} (hro : F.round = none) (hl : lastB l o = true) (hd : (l ++ [o]).all noDefer = true) (hm : P.follows .mixedOrders = true) (hB : Region.lexB .any l.toArray = true)
   (h : wpQuietIn F n P l.toArray (fun w' => ∃ k, w' = w.drewN k) (fun a' => ∀ w', (∃ k, w' = w.drewN k) -> o.wpIn F n P a' w' (fun a'' w'' => Q .normal a'' w'') Q) l a) : (Code.region id (l ++ [o]).toArray true).wpIn (F.inRound r) n P Q a w := by
 simp only [Region.lexB, Bool.and_eq_true] at hB
 refine wpIn_region_any hm (wpAny_round ?_ _ _ _ _ ?_)
 · intro i x ho
   have : (l ++ [o])[i]? = some x := by simpa using ho
   exact List.all_eq_true.1 hd x (List.mem_of_getElem? this)
 · have h1 := wpAnyQIn_lex (F := F) (n := n) (P := P) (C := fun w' => ∃ k, w' = w.drewN k) (md := .any) (ops := l.toArray) (Q := fun a' => ∀ w', (∃ k, w' = w.drewN k) -> o.wpIn F n P a' w' (fun a'' w'' => Q .normal a'' w'') Q) hB.1 l 0 (Array.replicate l.toArray.size false) a (by simp) (by simpa using hB.2) h
   have h2 := any_last (F := F) (n := n) (P := P) (C := fun w' => ∃ k, w' = w.drewN k) (Q1 := fun a' => ∀ w', (∃ k, w' = w.drewN k) -> o.wpIn F n P a' w' (fun a'' w'' => Q .normal a'' w'') Q) (Q := Q) hro hl (fun a w' hC hq => hq w' hC) l.length (Array.replicate l.length false) a { w with drawn := w.drawn + 1 } (by simp) ⟨1, rfl⟩ (by simpa using h1)
   have e : (Array.replicate l.length false).push false = Array.replicate (l ++ [o]).toArray.size false := by
     simp [Array.replicate_succ]
   rw [e] at h2
   simpa using h2
end Go.Proofs.YtkjnbgekaifdfaaGreat
namespace Go.Proofs.YtkjnbgekaifdfaaGreat
theorem iup_mem0 {n : Nat} : ∀ {k j : Nat}, j < k -> k <= n -> ∀ h : j < n, (⟨j, h⟩ : Ix n) ∈ iup n k
 | 0, _, h, _, _ => by omega
 | k + 1, j, hj, hk, h => by
   rw [iup_succ (by omega)]
   by_cases e : j = k
   · subst e; simp
   · exact List.mem_append_left _ (iup_mem0 (by omega) (by omega) h)
def kstep (start : Nat) (ss : List ByteArray) (P : List (ByteArray × Nat)) (x : Nat) : List (ByteArray × Nat) :=
 if (qfind P (qkey (ss.drop x))).isSome then P else (qkey (ss.drop x), start + offs ss x) :: P
def kf (pl : List (ByteArray × Nat)) (start : Nat) (ss : List ByteArray) (pre : List (Ix ss.length)) : List (ByteArray × Nat) := pre.foldl (fun P x => kstep start ss P x.1) pl
theorem kf_snoc (pl : List (ByteArray × Nat)) (start : Nat) (ss : List ByteArray) (pre : List (Ix ss.length)) (x : Ix ss.length) : kf pl start ss (pre ++ [x]) = kstep start ss (kf pl start ss pre) x.1 := by simp [kf]
theorem kf_len (pl : List (ByteArray × Nat)) (start : Nat) (ss : List ByteArray) (pre : List (Ix ss.length)) : (kf pl start ss pre).length <= pl.length + pre.length := by
 unfold kf
 induction pre generalizing pl with
 | nil => simp
 | cons x r ih =>
   rw [List.foldl_cons]
   refine Nat.le_trans (ih _) ?_
   unfold kstep
   split <;> simp <;> omega
theorem kf_iup (pl : List (ByteArray × Nat)) (start : Nat) (ss : List ByteArray) : ∀ k, k <= ss.length -> (∀ j, j < k -> start + offs ss j < 16384) -> kf pl start ss (iup ss.length k) = qkeep pl start k ss
 | 0, _, _ => by simp [iup, kf, qkeep]
 | k + 1, hk, h => by
   have hkl : k < ss.length := hk
   rw [iup_succ hkl, kf_snoc, kf_iup pl start ss k (by omega) (fun j hj => h j (by omega)), keep_snoc pl start k ss hkl, if_neg (by have := h k (by omega); omega)]
   rfl
theorem keep_stop (pl : List (ByteArray × Nat)) (start : Nat) (ss : List ByteArray) (j : Nat) (h : 16384 <= start + offs ss j) : ∀ d, j + d <= ss.length -> qkeep pl start (j + d) ss = qkeep pl start j ss
 | 0, _ => rfl
 | d + 1, hd => by
   have hlt : offs ss j <= offs ss (j + d) := by
     by_cases e : d = 0
     · subst e; exact Nat.le_refl _
     · exact Nat.le_of_lt (offs_lt (by omega) (by omega))
   rw [<- Nat.add_assoc, keep_snoc pl start (j + d) ss (by omega), if_pos (by omega)]
   exact keep_stop pl start ss j h d (by omega)
theorem kf_all (pl : List (ByteArray × Nat)) (start m own : Nat) (ss : List ByteArray) (hm : m <= ss.length) (hown : ∀ k, k < ss.length -> (k < m ↔ offs ss k < own)) (h : ∀ z ∈ iup ss.length ss.length, offs ss z.1 < own /\ start + offs ss z.1 < 16384) : kf pl start ss (iup ss.length ss.length) = qkeep pl start m ss := by
 have hz : ∀ j, j < ss.length -> offs ss j < own /\ start + offs ss j < 16384 := fun j hj => h ⟨j, hj⟩ (iup_mem0 hj (Nat.le_refl _) hj)
 have e : m = ss.length := by
   by_cases e : m < ss.length
   · have := (hown m e).2 (hz m e).1; omega
   · omega
 rw [kf_iup pl start ss _ (Nat.le_refl _) (fun j hj => (hz j hj).2), e]
theorem kf_part (pl : List (ByteArray × Nat)) (start m own : Nat) (ss : List ByteArray) (hm : m <= ss.length) (hown : ∀ k, k < ss.length -> (k < m ↔ offs ss k < own)) (k : Nat) (hk : k < ss.length) (h : ∀ z ∈ iup ss.length k, offs ss z.1 < own /\ start + offs ss z.1 < 16384) (hx : own <= offs ss k ∨ 16384 <= start + offs ss k) : kf pl start ss (iup ss.length k) = qkeep pl start m ss := by
 have hz : ∀ j, j < k -> offs ss j < own /\ start + offs ss j < 16384 := fun j hj => h ⟨j, by omega⟩ (iup_mem0 hj (by omega) (by omega))
 rw [kf_iup pl start ss k (by omega) (fun j hj => (hz j hj).2)]
 have hkm : k <= m := by
   by_cases e : m < k
   · have := (hown m (by omega)).2 (hz m e).1; omega
   · omega
 rcases hx with hx | hx
 · have : ¬ k < m := fun h' => by have := (hown k hk).1 h'; omega
   have e : k = m := by omega
   rw [e]
 · have := keep_stop pl start ss k hx (m - k) (by omega)
   rw [show k + (m - k) = m by omega] at this
   exact this.symm
end Go.Proofs.YtkjnbgekaifdfaaGreat
namespace Go.Proofs.YtkjnbgekaifdfaaGreat
open Go.ChangeShapes Go.WideShapes Go.ChangeAt Go.RowKit Go.Maps Go.Shelf
attribute [local go_sem] Oper.semAt_some
theorem wpIn_mapUpdate_eq {F : Fence} {n : Nat} {P : Program} {o : Oper} {a : Act} {w w' : World} {K : Act -> World -> Prop} {Q : Exit -> Act -> World -> Prop} (t : TypeId) (m x v : Operand) (hop : o.op = Op.mapUpdate t m x v) (mv xv vv : Value) (hm : a.eval m = mv) (hx : a.eval x = xv) (hv : a.eval v = vv)
   (hrun : (Instr.mapUpdate t mv xv vv).run P w = .ok () w') (hK : K (a.put o.dst undef) w') : o.wpIn F n P a w K Q := by
 unfold Oper.wpIn
 refine ⟨by simp [Oper.about, hop], ?_⟩
 rw [Oper.semAt_plain F _ _ (by rw [hop]; intro c hc'; cases hc')]
 simp [execOp, hop, hm, hx, hv, hrun, Result.andThen]
 exact hK
theorem PlM.store {W : World} {mb : Nat} {pl : List (ByteArray × Nat)} (h : PlM W mb pl) (t : ByteArray) (ht : t.size <= 255) (p : Nat) (hp : p <= 70000) (hf : qfind pl t = none) (hl : pl.length <= 200000) :
   ∃ W', (Instr.mapUpdate 123 (.map (some mb)) (.string t) (.int .i64 (p : Int))).run Tryz.prog W = .ok () W' /\ PlM W' mb ((t, p) :: pl) /\ W.grownBy W' (some mb) := by
 obtain ⟨M, h1, h2⟩ := h
 have hkey : keyOf Tryz.prog 9 (.string t) = some (.string t.data.toList) := Go.WideMaps.keyOf_string_mk Tryz.underlying9 (by unfold maxLen; omega)
 obtain ⟨W', hrun, h3, h4⟩ := h1.store law9 Tryz.underlying123 (by unfold maxLen; omega) hkey (plainElem_int (e := 3) (q := .i64) (a := (p : Int)) Tryz.underlying3 (WalkArith.wf_i64 (by omega)))
 exact ⟨W', hrun, PlM.put t p h1.isMap hf h2 h3, h4.grown⟩
theorem ownFrom_grown {β : Type} {w : World} {mb B : Nat} (hB : w.heap.size <= B) : OwnFrom (β := β) B (fun _ W => w.grownBy W (some mb)) := by
 intro s A W row hs hg hr
 exact ⟨hg.os.trans hs.os, hg.tape.trans hs.tape, hg.output.trans hs.output, Nat.le_trans hs.size hg.size, fun k hk hne => (hg.block k (Nat.lt_of_lt_of_le hk hs.size) (fun e => by have := (hr k e.symm).1; omega)).trans (hs.block k hk hne)⟩
theorem ownFrom_plm {β : Type} {mb B : Nat} {f : β -> List (ByteArray × Nat)} (hB : mb < B) : OwnFrom (β := β) B (fun s W => PlM W mb (f s)) := by
 intro s A W row hs hg hr
 obtain ⟨es, c, e⟩ := hs.isMap
 exact hs.same (hg.block mb (box_lt e) (fun e => by have := (hr mb e.symm).1; omega))
theorem grown_all {w A W : World} {mb : Nat} (h : w.grownBy A (some mb)) (hg : A.grownBy W (some mb)) : w.grownBy W (some mb) :=
 ⟨hg.os.trans h.os, hg.tape.trans h.tape, hg.output.trans h.output, Nat.le_trans h.size hg.size, fun k hk hne => (hg.block k (Nat.lt_of_lt_of_le hk h.size) hne).trans (h.block k hk hne)⟩
theorem grown_far {w A W : World} {mb D : Nat} (h : w.grownBy A (some mb)) (hg : A.grownBy W (some D)) (hD : w.heap.size <= D) : w.grownBy W (some mb) :=
 ⟨hg.os.trans h.os, hg.tape.trans h.tape, hg.output.trans h.output, Nat.le_trans h.size hg.size, fun k hk hne => (hg.block k (Nat.lt_of_lt_of_le hk h.size) (fun e => by simp only [Option.some.injEq] at e; omega)).trans (h.block k hk hne)⟩
end Go.Proofs.YtkjnbgekaifdfaaGreat
namespace Go.Proofs.YtkjnbgekaifdfaaGreat
open Go.ChangeShapes Go.WideShapes Go.ChangeAt Go.RowKit Go.Maps
set_option maxHeartbeats 1000000 in
theorem pbytes_bad (a : Option Addr) (n c : Nat) (ss : List ByteArray) (w : World) (h : Arg w a n ss) (hn : n <= 8796093021952) (hk : ¬ nck ss = 0) :
   Calls Tryz.prog 122 #[.slice a n c] w fun e w' => e = .returned (.tuple #[.slice none 0 0, .int .i64 (nck ss)]) /\ w' = w := by
 have KC := Lib.hid (pcheckA_wide a n c ss w h.rd h.len (fun ho => by have := labs_nsz ho; have := h.len; omega) h.n63 h.z63)
 generalize nck ss = q at *
 have hq : (q != 0) = true := bne_iff_ne.2 hk
 clear h hk
 go_enter Tryz.func122, Tryz.ntmps122
 go_wp2_with fail
 refine KC.out.mono ?_
 rintro e w1 ⟨rfl, rfl⟩
 go_wp2
 go_ret2
 exact ⟨rfl, rfl⟩
def wnm (tx : List Int) (pl : List (ByteArray × Nat)) (ss : List ByteArray) (back : Bool) : Int × List Int × List (ByteArray × Nat) :=
 if nck ss = 0 then
   if 65535 < tx.length + (qshort (if back then pl else []) ss).length then (3, tx, pl)
   else (0, tx ++ qshort (if back then pl else []) ss, qkeep pl tx.length (qown (if back then pl else []) ss) ss)
 else (nck ss, tx, pl)
theorem qob_le (pl : List (ByteArray × Nat)) (ss : List ByteArray) (h : nck ss = 0) : qob pl ss <= 255 := by
 have h1 := (nck_small h).1
 unfold qob
 split
 · have := offs_le ss (qown pl ss); omega
 · exact h1
end Go.Proofs.YtkjnbgekaifdfaaGreat
