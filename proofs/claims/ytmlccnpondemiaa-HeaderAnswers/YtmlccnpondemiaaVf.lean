/- header.Read. -/
import Derived.Test.YtmlccnpondemiaaVe
namespace Go.Proofs.Ytmlccnpondemiaa
open Go.ChangeShapes Go.WideShapes Go.ChangeAt Go.RowKit
set_option linter.unusedVariables false
set_option linter.unusedSimpArgs false

/-- The j-th number of two bytes. -/
def nv (zs : List Int) (j : Nat) : Nat := (val ((zs.drop (2 * j)).take 2)).toNat
theorem nv_val {zs : List Int} (h : ∀ z ∈ zs, 0 ≤ z ∧ z ≤ 255) (j : Nat) : val ((zs.drop (2 * j)).take 2) = (nv zs j : Int) ∧ nv zs j < 65536 := by
  have hb : ∀ z ∈ (zs.drop (2 * j)).take 2, 0 ≤ z ∧ z ≤ 255 := fun z hz => h z (List.mem_of_mem_drop (List.mem_of_mem_take hz))
  have h1 := val_bd _ hb
  have h2 : ((zs.drop (2 * j)).take 2).length ≤ 2 := by simp; omega
  have h3 : (256 : Int) ^ ((zs.drop (2 * j)).take 2).length ≤ 65536 := by
    generalize ((zs.drop (2 * j)).take 2).length = l at h2 ⊢
    match l, h2 with
    | 0, _ => decide
    | 1, _ => decide
    | 2, _ => decide
    | l + 3, h => omega
  unfold nv
  omega
def rowU (zs : List Int) (k : Nat) : Array Value := #[.int .i64 (if 0 < k then (nv zs 0 : Int) else 0), .int .i64 (if 1 < k then (nv zs 1 : Int) else 0), .int .i64 (if 2 < k then (nv zs 2 : Int) else 0), .int .i64 (if 3 < k then (nv zs 3 : Int) else 0), .int .i64 (if 4 < k then (nv zs 4 : Int) else 0), .int .i64 (if 5 < k then (nv zs 5 : Int) else 0)]
theorem row_step (zs : List Int) (k : Nat) (hk : k < 6) : (rowU zs k).setIfInBounds k (.int .i64 (nv zs k : Int)) = rowU zs (k + 1) := by
  match k, hk with
  | 0, _ => simp [rowU]
  | 1, _ => simp [rowU]
  | 2, _ => simp [rowU]
  | 3, _ => simp [rowU]
  | 4, _ => simp [rowU]
  | 5, _ => simp [rowU]
  | k + 6, h => omega
theorem row_at (zs : List Int) (k : Nat) (hk : k < 6) : ∃ v, (rowU zs k)[k]? = some (.int .i64 v) := by
  match k, hk with
  | 0, _ => exact ⟨_, rfl⟩
  | 1, _ => exact ⟨_, rfl⟩
  | 2, _ => exact ⟨_, rfl⟩
  | 3, _ => exact ⟨_, rfl⟩
  | 4, _ => exact ⟨_, rfl⟩
  | 5, _ => exact ⟨_, rfl⟩
  | k + 6, h => omega
def zeroM : Array Value := #[.int .u16 0, .bool false, .int .i64 0, .bool false, .bool false, .bool false, .bool false, .bool false, .bool false, .int .i64 0, .slice none 0 0, .slice none 0 0, .slice none 0 0, .slice none 0 0]
/-- The three blocks that Read makes first. -/
structure Bx (w wr : World) (zs : List Int) (k : Nat) : Prop where
  m : wr.heap[w.heap.size]? = some (.cells zeroM 26)
  c : wr.heap[w.heap.size + 1]? = some (.cells #[.int .i64 0, .int .i64 0, .int .i64 0, .int .i64 0] 27)
  n : wr.heap[w.heap.size + 1 + 1]? = some (.cells (rowU zs k) 56)
  b : Below w.heap.size w wr
theorem Bx.start (w : World) (zs : List Int) : Bx w (((w.alloc (.cells zeroM 26)).alloc (.cells #[.int .i64 0, .int .i64 0, .int .i64 0, .int .i64 0] 27)).alloc (.cells (rowU zs 0) 56)) zs 0 := by
  obtain ⟨h1, h2, h3⟩ := alloc3 w (.cells zeroM 26) (.cells #[.int .i64 0, .int .i64 0, .int .i64 0, .int .i64 0] 27) (.cells (rowU zs 0) 56)
  exact ⟨h1, h2, h3, (((Below.refl _ _).alloc (Nat.le_refl _) _).alloc (by simp) _).alloc (by simp; omega) _⟩
theorem Bx.step {w wr : World} {zs : List Int} {k : Nat} (h : Bx w wr zs k) (hk : k < 6) : Bx w (wr.setCell ⟨w.heap.size + 1 + 1, k, none⟩ (.int .i64 (nv zs k : Int))) zs (k + 1) :=
  ⟨(Below.heap_setCell wr _ _ _ (by simp; omega)).trans h.m, (Below.heap_setCell wr _ _ _ (by simp)).trans h.c, (upd_block h.n _).trans (by rw [row_step zs k hk]), h.b.setCell (p := ⟨_, _, none⟩) (by simp; omega) _⟩

/-- The message with a head's fields alone. -/
def msgU (I F : Nat) : Array Value := #[.int .u16 (I : Int), .bool (unfl F 32768), .int .i64 (unop F : Nat), .bool (unfl F 1024), .bool (unfl F 512), .bool (unfl F 256), .bool (unfl F 128), .bool (unfl F 32), .bool (unfl F 16), .int .i64 (unrc F : Nat), .slice none 0 0, .slice none 0 0, .slice none 0 0, .slice none 0 0]
def RdPost (w : World) (zs : List Int) (e : Ending) (w' : World) : Prop :=
  ((zs.length < 12 ∨ unfl (nv zs 1) 64 = true) → e = .returned (.tuple #[.agg zeroM, .agg #[.int .i64 0, .int .i64 0, .int .i64 0, .int .i64 0], .int .i64 8])) ∧
  (¬ (zs.length < 12 ∨ unfl (nv zs 1) 64 = true) → e = .returned (.tuple #[.agg (msgU (nv zs 0) (nv zs 1)), .agg #[.int .i64 (nv zs 2 : Int), .int .i64 (nv zs 3 : Int), .int .i64 (nv zs 4 : Int), .int .i64 (nv zs 5 : Int)], .int .i64 0])) ∧ Below w.heap.size w w'

set_option maxHeartbeats 4000000 in
theorem read18 (a : Option Addr) (len cap : Nat) (zs : List Int) (w : World) (hr : Rd w a zs) (hl : zs.length = len) (hc : len ≤ cap) (hm : cap ≤ 9223372036854775807) :
    Calls Try.prog 18 #[.slice a len cap] w fun e w' => RdPost w zs e w' := by
  have HL : Hid (zs.length = len) := hl
  have HR : Hid (Rd w a zs) := hr
  clear hl hr
  go_enter Try.func18, Try.ntmps18
  go_wp2_with fail
  go_loopw [12] (fun y wr => ∃ k : Nat, k ≤ 6 ∧ 2 * k ≤ len ∧ y = .int .i64 (k : Int) ∧ Hid (Bx w wr zs k)) (fun y _ => 6 - (intOf y).toNat)
  case atStart => exact ⟨0, by omega, by omega, rfl, Bx.start w zs⟩
  case round =>
    obtain ⟨k, hk, hkl, rfl, HX⟩ := hrel
    have hlt0 : w.heap.size < wr.heap.size := block_lt HX.out.m
    have hlt1 : w.heap.size + 1 < wr.heap.size := block_lt HX.out.c
    have hlt2 : w.heap.size + 1 + 1 < wr.heap.size := block_lt HX.out.n
    by_cases hk6 : k < 6
    · have hlt' : (k : Int) < 6 := by omega
      by_cases h2 : 2 * k + 2 ≤ len
      · have KU := u16_yes a len cap (2 * k) zs wr (HR.out.below HX.out.b) HL.out hc hm h2
        rw [(nv_val HR.out.2 k).1] at KU
        have KU' : Hid (Calls Try.prog 35 _ wr _) := KU
        obtain ⟨v, hv⟩ := row_at zs k (by omega)
        have cc : wr.cell? ⟨w.heap.size + 1 + 1, k, none⟩ = some (.int .i64 v) := cell_of_block HX.out.n hv
        have ff := frozen_of_block (i := k) HX.out.n
        have HN := fun (N : Nat) (h : N = nv zs k) => (h ▸ HX.out.step hk6 : Bx w (wr.setCell ⟨w.heap.size + 1 + 1, k, none⟩ (.int .i64 (N : Int))) zs (k + 1))
        have HN' : ∀ N : Nat, N = nv zs k → Hid (Bx w (wr.setCell ⟨w.heap.size + 1 + 1, k, none⟩ (.int .i64 (N : Int))) zs (k + 1)) := HN
        clear KU hv HN
        obtain ⟨N, hN⟩ : ∃ N, N = nv zs k := ⟨_, rfl⟩
        rw [← hN] at KU'
        have HB := HN' N hN
        clear HN' hN
        go_wp2_with fail
        refine KU'.out.mono ?_
        rintro e w3 ⟨rfl, rfl⟩
        go_wp2
        go_round
        case rel => exact ⟨k + 1, by omega, by omega, by go_num, HB⟩
        case measure => simp [intOf]; omega
      · have KU : Hid (Calls Try.prog 35 _ wr _) := u16_no a len cap (2 * k : Nat) wr hc hm (by omega)
        have HS : Hid (zs.length < 12) := by show zs.length < 12; rw [HL.out]; omega
        have z0 : wr.cell? ⟨w.heap.size, 0, none⟩ = some (.int .u16 0) := cell_of_block HX.out.m rfl
        have z1 : wr.cell? ⟨w.heap.size, 1, none⟩ = some (.bool false) := cell_of_block HX.out.m rfl
        have z2 : wr.cell? ⟨w.heap.size, 2, none⟩ = some (.int .i64 0) := cell_of_block HX.out.m rfl
        have z3 : wr.cell? ⟨w.heap.size, 3, none⟩ = some (.bool false) := cell_of_block HX.out.m rfl
        have z4 : wr.cell? ⟨w.heap.size, 4, none⟩ = some (.bool false) := cell_of_block HX.out.m rfl
        have z5 : wr.cell? ⟨w.heap.size, 5, none⟩ = some (.bool false) := cell_of_block HX.out.m rfl
        have z6 : wr.cell? ⟨w.heap.size, 6, none⟩ = some (.bool false) := cell_of_block HX.out.m rfl
        have z7 : wr.cell? ⟨w.heap.size, 7, none⟩ = some (.bool false) := cell_of_block HX.out.m rfl
        have z8 : wr.cell? ⟨w.heap.size, 8, none⟩ = some (.bool false) := cell_of_block HX.out.m rfl
        have z9 : wr.cell? ⟨w.heap.size, 9, none⟩ = some (.int .i64 0) := cell_of_block HX.out.m rfl
        have z10 : wr.cell? ⟨w.heap.size, 10, none⟩ = some (.slice none 0 0) := cell_of_block HX.out.m rfl
        have z11 : wr.cell? ⟨w.heap.size, 11, none⟩ = some (.slice none 0 0) := cell_of_block HX.out.m rfl
        have z12 : wr.cell? ⟨w.heap.size, 12, none⟩ = some (.slice none 0 0) := cell_of_block HX.out.m rfl
        have z13 : wr.cell? ⟨w.heap.size, 13, none⟩ = some (.slice none 0 0) := cell_of_block HX.out.m rfl
        have f0 : wr.frozen? ⟨w.heap.size, 0, none⟩ = false := frozen_of_block HX.out.m
        have f1 : wr.frozen? ⟨w.heap.size, 1, none⟩ = false := frozen_of_block HX.out.m
        have f2 : wr.frozen? ⟨w.heap.size, 2, none⟩ = false := frozen_of_block HX.out.m
        have f3 : wr.frozen? ⟨w.heap.size, 3, none⟩ = false := frozen_of_block HX.out.m
        have f4 : wr.frozen? ⟨w.heap.size, 4, none⟩ = false := frozen_of_block HX.out.m
        have f5 : wr.frozen? ⟨w.heap.size, 5, none⟩ = false := frozen_of_block HX.out.m
        have f6 : wr.frozen? ⟨w.heap.size, 6, none⟩ = false := frozen_of_block HX.out.m
        have f7 : wr.frozen? ⟨w.heap.size, 7, none⟩ = false := frozen_of_block HX.out.m
        have f8 : wr.frozen? ⟨w.heap.size, 8, none⟩ = false := frozen_of_block HX.out.m
        have f9 : wr.frozen? ⟨w.heap.size, 9, none⟩ = false := frozen_of_block HX.out.m
        have f10 : wr.frozen? ⟨w.heap.size, 10, none⟩ = false := frozen_of_block HX.out.m
        have f11 : wr.frozen? ⟨w.heap.size, 11, none⟩ = false := frozen_of_block HX.out.m
        have f12 : wr.frozen? ⟨w.heap.size, 12, none⟩ = false := frozen_of_block HX.out.m
        have f13 : wr.frozen? ⟨w.heap.size, 13, none⟩ = false := frozen_of_block HX.out.m
        have y0 : wr.cell? ⟨w.heap.size + 1, 0, none⟩ = some (.int .i64 0) := cell_of_block HX.out.c rfl
        have y1 : wr.cell? ⟨w.heap.size + 1, 1, none⟩ = some (.int .i64 0) := cell_of_block HX.out.c rfl
        have y2 : wr.cell? ⟨w.heap.size + 1, 2, none⟩ = some (.int .i64 0) := cell_of_block HX.out.c rfl
        have y3 : wr.cell? ⟨w.heap.size + 1, 3, none⟩ = some (.int .i64 0) := cell_of_block HX.out.c rfl
        have g0 : wr.frozen? ⟨w.heap.size + 1, 0, none⟩ = false := frozen_of_block HX.out.c
        have g1 : wr.frozen? ⟨w.heap.size + 1, 1, none⟩ = false := frozen_of_block HX.out.c
        have g2 : wr.frozen? ⟨w.heap.size + 1, 2, none⟩ = false := frozen_of_block HX.out.c
        have g3 : wr.frozen? ⟨w.heap.size + 1, 3, none⟩ = false := frozen_of_block HX.out.c
        go_wp2_with fail
        refine KU.out.mono ?_
        rintro e w3 ⟨rfl, rfl⟩
        go_wp2
        refine bodyPost_ret (v := .tuple #[.agg #[.int .u16 0, .bool false, .int .i64 0, .bool false, .bool false, .bool false, .bool false, .bool false, .bool false, .int .i64 0, .slice none 0 0, .slice none 0 0, .slice none 0 0, .slice none 0 0], .agg #[.int .i64 0, .int .i64 0, .int .i64 0, .int .i64 0], .int .i64 8]) ?_ rfl ⟨fun _ => rfl, fun h => absurd (.inl HS.out) h, ?_⟩
        · simp [results, Try.results18, go_sem, hlt0, hlt1, z0, z1, z2, z3, z4, z5, z6, z7, z8, z9, z10, z11, z12, z13, y0, y1, y2, y3]
        · iterate 18 refine Below.setCell ?_ (by simp) _
          exact HX.out.b
    · obtain rfl : k = 6 := by omega
      have HE : Hid (¬ zs.length < 12) := by show ¬ zs.length < 12; rw [HL.out]; omega
      have hn := HX.out.n
      have b0 := (nv_val HR.out.2 0).2
      have b1 := (nv_val HR.out.2 1).2
      have b2 := (nv_val HR.out.2 2).2
      have b3 := (nv_val HR.out.2 3).2
      have b4 := (nv_val HR.out.2 4).2
      have b5 := (nv_val HR.out.2 5).2
      have HP : Hid (∀ e w', ((unfl (nv zs 1) 64 = true → e = .returned (.tuple #[.agg zeroM, .agg #[.int .i64 0, .int .i64 0, .int .i64 0, .int .i64 0], .int .i64 8])) ∧ (unfl (nv zs 1) 64 = false → e = .returned (.tuple #[.agg (msgU (nv zs 0) (nv zs 1)), .agg #[.int .i64 (nv zs 2 : Int), .int .i64 (nv zs 3 : Int), .int .i64 (nv zs 4 : Int), .int .i64 (nv zs 5 : Int)], .int .i64 0])) ∧ Below w.heap.size w w') → RdPost w zs e w') := by
        intro e w' ⟨h1, h2, h3⟩
        refine ⟨fun h => h1 (h.resolve_left HE.out), fun h => h2 ?_, h3⟩
        cases hq : unfl (nv zs 1) 64
        · rfl
        · exact absurd (.inr hq) h
      have HM : Hid (wr.heap[w.heap.size]? = some (.cells zeroM 26) ∧ wr.heap[w.heap.size + 1]? = some (.cells #[.int .i64 0, .int .i64 0, .int .i64 0, .int .i64 0] 27) ∧ Below w.heap.size w wr) := ⟨HX.out.m, HX.out.c, HX.out.b⟩
      have HN : Hid (wr.heap[w.heap.size + 1 + 1]? = some (.cells #[.int .i64 (nv zs 0 : Int), .int .i64 (nv zs 1 : Int), .int .i64 (nv zs 2 : Int), .int .i64 (nv zs 3 : Int), .int .i64 (nv zs 4 : Int), .int .i64 (nv zs 5 : Int)] 56)) := hn
      clear hn HX
      generalize nv zs 0 = I at *
      generalize nv zs 1 = F at *
      generalize nv zs 2 = C0 at *
      generalize nv zs 3 = C1 at *
      generalize nv zs 4 = C2 at *
      generalize nv zs 5 = C3 at *
      have n0 : wr.cell? ⟨w.heap.size + 1 + 1, 0, none⟩ = some (.int .i64 (I : Int)) := cell_of_block HN.out rfl
      have n1 : wr.cell? ⟨w.heap.size + 1 + 1, 1, none⟩ = some (.int .i64 (F : Int)) := cell_of_block HN.out rfl
      have n2 : wr.cell? ⟨w.heap.size + 1 + 1, 2, none⟩ = some (.int .i64 (C0 : Int)) := cell_of_block HN.out rfl
      have n3 : wr.cell? ⟨w.heap.size + 1 + 1, 3, none⟩ = some (.int .i64 (C1 : Int)) := cell_of_block HN.out rfl
      have n4 : wr.cell? ⟨w.heap.size + 1 + 1, 4, none⟩ = some (.int .i64 (C2 : Int)) := cell_of_block HN.out rfl
      have n5 : wr.cell? ⟨w.heap.size + 1 + 1, 5, none⟩ = some (.int .i64 (C3 : Int)) := cell_of_block HN.out rfl
      cases h6 : unfl F 64
      · have KP : Hid (Calls Try.prog 36 #[.int .i64 (F : Int)] wr fun e w' => e = .returned (.tuple #[.agg #[.int .u16 0, .bool (unfl F 32768), .int .i64 (unop F : Nat), .bool (unfl F 1024), .bool (unfl F 512), .bool (unfl F 256), .bool (unfl F 128), .bool (unfl F 32), .bool (unfl F 16), .int .i64 (unrc F : Nat), .slice none 0 0, .slice none 0 0, .slice none 0 0, .slice none 0 0], .int .i64 0]) ∧ Below wr.heap.size wr w') := unpack_ok F wr b1 h6
        go_wp2_with fail
        refine KP.out.mono ?_
        rintro e w3 ⟨rfl, hb3⟩
        have hsz := hb3.size
        have g0 := Nat.lt_of_lt_of_le hlt0 hsz
        have g1 := Nat.lt_of_lt_of_le hlt1 hsz
        have g2 := Nat.lt_of_lt_of_le hlt2 hsz
        have n0 : w3.cell? ⟨w.heap.size + 1 + 1, 0, none⟩ = some (.int .i64 (I : Int)) := (hb3.cell (p := ⟨_, _, none⟩) hlt2).trans n0
        have HB3 : Hid (Below wr.heap.size wr w3) := hb3
        have hmod : (I : Int) % 65536 = I := by omega
        have M3 := (hb3.block _ hlt0).trans HM.out.1
        have C3' := (hb3.block _ hlt1).trans HM.out.2.1
        have N3 := (hb3.block _ hlt2).trans HN.out
        have HB4 : Hid (Below w.heap.size w w3) := HM.out.2.2.trans (hb3.mono HM.out.2.2.size)
        obtain ⟨W2, hcopy, hM2, hC2, hR2, hS2, hlt5, hb5⟩ : ∃ W2, (Builtin.copy_ #[70, 70] 3 #[.slice (some ⟨w3.heap.size + 1, 0, none⟩) 4 4, .slice (some ⟨w.heap.size + 1 + 1, 2, none⟩) 4 4]).run Try.prog (((w3.alloc (.cells #[.int .u16 (I : Int), .bool (unfl F 32768), .int .i64 (unop F : Nat), .bool (unfl F 1024), .bool (unfl F 512), .bool (unfl F 256), .bool (unfl F 128), .bool (unfl F 32), .bool (unfl F 16), .int .i64 (unrc F : Nat), .slice none 0 0, .slice none 0 0, .slice none 0 0, .slice none 0 0] 26)).alloc (.cells #[.int .i64 0, .int .i64 0, .int .i64 0, .int .i64 0] 27)).drew) = .ok (.int .i64 4) W2 ∧
            Hid (W2.heap[w3.heap.size]? = some (.cells #[.int .u16 (I : Int), .bool (unfl F 32768), .int .i64 (unop F : Nat), .bool (unfl F 1024), .bool (unfl F 512), .bool (unfl F 256), .bool (unfl F 128), .bool (unfl F 32), .bool (unfl F 16), .int .i64 (unrc F : Nat), .slice none 0 0, .slice none 0 0, .slice none 0 0, .slice none 0 0] 26)) ∧ Hid (W2.heap[w3.heap.size + 1]? = some (.cells #[.int .i64 (C0 : Int), .int .i64 (C1 : Int), .int .i64 (C2 : Int), .int .i64 (C3 : Int)] 27)) ∧ Hid (W2.heap[w.heap.size]? = some (.cells zeroM 26)) ∧ Hid (W2.heap[w.heap.size + 1]? = some (.cells #[.int .i64 0, .int .i64 0, .int .i64 0, .int .i64 0] 27)) ∧ w3.heap.size + 1 < W2.heap.size ∧ Hid (Below w.heap.size w W2) := by
          have hbb : Below w3.heap.size w3 (((w3.alloc (.cells #[.int .u16 (I : Int), .bool (unfl F 32768), .int .i64 (unop F : Nat), .bool (unfl F 1024), .bool (unfl F 512), .bool (unfl F 256), .bool (unfl F 128), .bool (unfl F 32), .bool (unfl F 16), .int .i64 (unrc F : Nat), .slice none 0 0, .slice none 0 0, .slice none 0 0, .slice none 0 0] 26)).alloc (.cells #[.int .i64 0, .int .i64 0, .int .i64 0, .int .i64 0] 27)).drew) := (((Below.refl _ _).alloc (Nat.le_refl _) _).alloc (by simp) _).drew
          have hD : (((w3.alloc (.cells #[.int .u16 (I : Int), .bool (unfl F 32768), .int .i64 (unop F : Nat), .bool (unfl F 1024), .bool (unfl F 512), .bool (unfl F 256), .bool (unfl F 128), .bool (unfl F 32), .bool (unfl F 16), .int .i64 (unrc F : Nat), .slice none 0 0, .slice none 0 0, .slice none 0 0, .slice none 0 0] 26)).alloc (.cells #[.int .i64 0, .int .i64 0, .int .i64 0, .int .i64 0] 27)).drew).heap[w3.heap.size + 1]? = some (.cells #[.int .i64 0, .int .i64 0, .int .i64 0, .int .i64 0] 27) := by
            have := alloc_at (w3.alloc (.cells #[.int .u16 (I : Int), .bool (unfl F 32768), .int .i64 (unop F : Nat), .bool (unfl F 1024), .bool (unfl F 512), .bool (unfl F 256), .bool (unfl F 128), .bool (unfl F 32), .bool (unfl F 16), .int .i64 (unrc F : Nat), .slice none 0 0, .slice none 0 0, .slice none 0 0, .slice none 0 0] 26)) (.cells #[.int .i64 0, .int .i64 0, .int .i64 0, .int .i64 0] 27)
            simp only [World.size_alloc] at this
            exact this
          have hN5 := (hbb.block _ g2).trans N3
          refine ⟨_, copy_out _ _ _ 0 0 0 0 C0 C1 C2 C3 hD (cell_of_block hN5 rfl) (cell_of_block hN5 rfl) (cell_of_block hN5 rfl) (cell_of_block hN5 rfl), ?_, setRow_block hD _, ?_, ?_, ?_, ?_⟩
          · show _ = _
            rw [setRow_other _ _ _ _ (by omega)]
            exact block_alloc (alloc_at _ _) _
          · show _ = _
            rw [setRow_other _ _ _ _ (by omega)]
            exact (hbb.block _ g0).trans M3
          · show _ = _
            rw [setRow_other _ _ _ _ (by omega)]
            exact (hbb.block _ g1).trans C3'
          · rw [setRow_size]; exact block_lt hD
          · exact below_setRow (HB4.out.trans (hbb.mono HB4.out.size)) (by have := HB4.out.size; omega) _
        have hlt4 : w3.heap.size < W2.heap.size := by omega
        have k0 : w.heap.size < W2.heap.size := by omega
        have k1 : w.heap.size + 1 < W2.heap.size := by omega
        have x0 : W2.cell? ⟨w3.heap.size, 0, none⟩ = some (.int .u16 (I : Int)) := cell_of_block hM2.out rfl
        have x1 : W2.cell? ⟨w3.heap.size, 1, none⟩ = some (.bool (unfl F 32768)) := cell_of_block hM2.out rfl
        have x2 : W2.cell? ⟨w3.heap.size, 2, none⟩ = some (.int .i64 (unop F : Nat)) := cell_of_block hM2.out rfl
        have x3 : W2.cell? ⟨w3.heap.size, 3, none⟩ = some (.bool (unfl F 1024)) := cell_of_block hM2.out rfl
        have x4 : W2.cell? ⟨w3.heap.size, 4, none⟩ = some (.bool (unfl F 512)) := cell_of_block hM2.out rfl
        have x5 : W2.cell? ⟨w3.heap.size, 5, none⟩ = some (.bool (unfl F 256)) := cell_of_block hM2.out rfl
        have x6 : W2.cell? ⟨w3.heap.size, 6, none⟩ = some (.bool (unfl F 128)) := cell_of_block hM2.out rfl
        have x7 : W2.cell? ⟨w3.heap.size, 7, none⟩ = some (.bool (unfl F 32)) := cell_of_block hM2.out rfl
        have x8 : W2.cell? ⟨w3.heap.size, 8, none⟩ = some (.bool (unfl F 16)) := cell_of_block hM2.out rfl
        have x9 : W2.cell? ⟨w3.heap.size, 9, none⟩ = some (.int .i64 (unrc F : Nat)) := cell_of_block hM2.out rfl
        have x10 : W2.cell? ⟨w3.heap.size, 10, none⟩ = some (.slice none 0 0) := cell_of_block hM2.out rfl
        have x11 : W2.cell? ⟨w3.heap.size, 11, none⟩ = some (.slice none 0 0) := cell_of_block hM2.out rfl
        have x12 : W2.cell? ⟨w3.heap.size, 12, none⟩ = some (.slice none 0 0) := cell_of_block hM2.out rfl
        have x13 : W2.cell? ⟨w3.heap.size, 13, none⟩ = some (.slice none 0 0) := cell_of_block hM2.out rfl
        have t0 : W2.cell? ⟨w3.heap.size + 1, 0, none⟩ = some (.int .i64 (C0 : Int)) := cell_of_block hC2.out rfl
        have t1 : W2.cell? ⟨w3.heap.size + 1, 1, none⟩ = some (.int .i64 (C1 : Int)) := cell_of_block hC2.out rfl
        have t2 : W2.cell? ⟨w3.heap.size + 1, 2, none⟩ = some (.int .i64 (C2 : Int)) := cell_of_block hC2.out rfl
        have t3 : W2.cell? ⟨w3.heap.size + 1, 3, none⟩ = some (.int .i64 (C3 : Int)) := cell_of_block hC2.out rfl
        have z0 : W2.cell? ⟨w.heap.size, 0, none⟩ = some (.int .u16 0) := cell_of_block hR2.out rfl
        have z1 : W2.cell? ⟨w.heap.size, 1, none⟩ = some (.bool false) := cell_of_block hR2.out rfl
        have z2 : W2.cell? ⟨w.heap.size, 2, none⟩ = some (.int .i64 0) := cell_of_block hR2.out rfl
        have z3 : W2.cell? ⟨w.heap.size, 3, none⟩ = some (.bool false) := cell_of_block hR2.out rfl
        have z4 : W2.cell? ⟨w.heap.size, 4, none⟩ = some (.bool false) := cell_of_block hR2.out rfl
        have z5 : W2.cell? ⟨w.heap.size, 5, none⟩ = some (.bool false) := cell_of_block hR2.out rfl
        have z6 : W2.cell? ⟨w.heap.size, 6, none⟩ = some (.bool false) := cell_of_block hR2.out rfl
        have z7 : W2.cell? ⟨w.heap.size, 7, none⟩ = some (.bool false) := cell_of_block hR2.out rfl
        have z8 : W2.cell? ⟨w.heap.size, 8, none⟩ = some (.bool false) := cell_of_block hR2.out rfl
        have z9 : W2.cell? ⟨w.heap.size, 9, none⟩ = some (.int .i64 0) := cell_of_block hR2.out rfl
        have z10 : W2.cell? ⟨w.heap.size, 10, none⟩ = some (.slice none 0 0) := cell_of_block hR2.out rfl
        have z11 : W2.cell? ⟨w.heap.size, 11, none⟩ = some (.slice none 0 0) := cell_of_block hR2.out rfl
        have z12 : W2.cell? ⟨w.heap.size, 12, none⟩ = some (.slice none 0 0) := cell_of_block hR2.out rfl
        have z13 : W2.cell? ⟨w.heap.size, 13, none⟩ = some (.slice none 0 0) := cell_of_block hR2.out rfl
        have f0 : W2.frozen? ⟨w.heap.size, 0, none⟩ = false := frozen_of_block hR2.out
        have f1 : W2.frozen? ⟨w.heap.size, 1, none⟩ = false := frozen_of_block hR2.out
        have f2 : W2.frozen? ⟨w.heap.size, 2, none⟩ = false := frozen_of_block hR2.out
        have f3 : W2.frozen? ⟨w.heap.size, 3, none⟩ = false := frozen_of_block hR2.out
        have f4 : W2.frozen? ⟨w.heap.size, 4, none⟩ = false := frozen_of_block hR2.out
        have f5 : W2.frozen? ⟨w.heap.size, 5, none⟩ = false := frozen_of_block hR2.out
        have f6 : W2.frozen? ⟨w.heap.size, 6, none⟩ = false := frozen_of_block hR2.out
        have f7 : W2.frozen? ⟨w.heap.size, 7, none⟩ = false := frozen_of_block hR2.out
        have f8 : W2.frozen? ⟨w.heap.size, 8, none⟩ = false := frozen_of_block hR2.out
        have f9 : W2.frozen? ⟨w.heap.size, 9, none⟩ = false := frozen_of_block hR2.out
        have f10 : W2.frozen? ⟨w.heap.size, 10, none⟩ = false := frozen_of_block hR2.out
        have f11 : W2.frozen? ⟨w.heap.size, 11, none⟩ = false := frozen_of_block hR2.out
        have f12 : W2.frozen? ⟨w.heap.size, 12, none⟩ = false := frozen_of_block hR2.out
        have f13 : W2.frozen? ⟨w.heap.size, 13, none⟩ = false := frozen_of_block hR2.out
        have y0 : W2.cell? ⟨w.heap.size + 1, 0, none⟩ = some (.int .i64 0) := cell_of_block hS2.out rfl
        have y1 : W2.cell? ⟨w.heap.size + 1, 1, none⟩ = some (.int .i64 0) := cell_of_block hS2.out rfl
        have y2 : W2.cell? ⟨w.heap.size + 1, 2, none⟩ = some (.int .i64 0) := cell_of_block hS2.out rfl
        have y3 : W2.cell? ⟨w.heap.size + 1, 3, none⟩ = some (.int .i64 0) := cell_of_block hS2.out rfl
        have q0 : W2.frozen? ⟨w.heap.size + 1, 0, none⟩ = false := frozen_of_block hS2.out
        have q1 : W2.frozen? ⟨w.heap.size + 1, 1, none⟩ = false := frozen_of_block hS2.out
        have q2 : W2.frozen? ⟨w.heap.size + 1, 2, none⟩ = false := frozen_of_block hS2.out
        have q3 : W2.frozen? ⟨w.heap.size + 1, 3, none⟩ = false := frozen_of_block hS2.out
        clear hb3 hsz M3 C3' N3
        go_wp2_with fail
        go_region
        go_wp2_with fail
        go_region
        all_goals go_wp2_with fail
        refine bodyPost_ret (v := .tuple #[.agg #[.int .u16 (I : Int), .bool (unfl F 32768), .int .i64 (unop F : Nat), .bool (unfl F 1024), .bool (unfl F 512), .bool (unfl F 256), .bool (unfl F 128), .bool (unfl F 32), .bool (unfl F 16), .int .i64 (unrc F : Nat), .slice none 0 0, .slice none 0 0, .slice none 0 0, .slice none 0 0], .agg #[.int .i64 (C0 : Int), .int .i64 (C1 : Int), .int .i64 (C2 : Int), .int .i64 (C3 : Int)], .int .i64 0]) ?_ rfl (HP.out _ _ ⟨(fun h => by rw [h6] at h; cases h), fun _ => rfl, ?_⟩)
        · simp [results, Try.results18, go_sem, k0, k1, z0, z1, z2, z3, z4, z5, z6, z7, z8, z9, z10, z11, z12, z13, y0, y1, y2, y3]
        · refine Below.drew ?_
          iterate 18 refine Below.setCell ?_ (by simp) _
          exact hb5.out
      · have KP : Hid (Calls Try.prog 36 _ wr _) := unpack_no F wr b1 h6
        go_wp2_with fail
        refine KP.out.mono ?_
        rintro e w3 ⟨rfl, hb3⟩
        have hsz := hb3.size
        have g0 := Nat.lt_of_lt_of_le hlt0 hsz
        have g1 := Nat.lt_of_lt_of_le hlt1 hsz
        have M3 := (hb3.block _ hlt0).trans HM.out.1
        have C3 := (hb3.block _ hlt1).trans HM.out.2.1
        have HB3 : Hid (Below w.heap.size w w3) := HM.out.2.2.trans (hb3.mono HM.out.2.2.size)
        have z0 : w3.cell? ⟨w.heap.size, 0, none⟩ = some (.int .u16 0) := cell_of_block M3 rfl
        have z1 : w3.cell? ⟨w.heap.size, 1, none⟩ = some (.bool false) := cell_of_block M3 rfl
        have z2 : w3.cell? ⟨w.heap.size, 2, none⟩ = some (.int .i64 0) := cell_of_block M3 rfl
        have z3 : w3.cell? ⟨w.heap.size, 3, none⟩ = some (.bool false) := cell_of_block M3 rfl
        have z4 : w3.cell? ⟨w.heap.size, 4, none⟩ = some (.bool false) := cell_of_block M3 rfl
        have z5 : w3.cell? ⟨w.heap.size, 5, none⟩ = some (.bool false) := cell_of_block M3 rfl
        have z6 : w3.cell? ⟨w.heap.size, 6, none⟩ = some (.bool false) := cell_of_block M3 rfl
        have z7 : w3.cell? ⟨w.heap.size, 7, none⟩ = some (.bool false) := cell_of_block M3 rfl
        have z8 : w3.cell? ⟨w.heap.size, 8, none⟩ = some (.bool false) := cell_of_block M3 rfl
        have z9 : w3.cell? ⟨w.heap.size, 9, none⟩ = some (.int .i64 0) := cell_of_block M3 rfl
        have z10 : w3.cell? ⟨w.heap.size, 10, none⟩ = some (.slice none 0 0) := cell_of_block M3 rfl
        have z11 : w3.cell? ⟨w.heap.size, 11, none⟩ = some (.slice none 0 0) := cell_of_block M3 rfl
        have z12 : w3.cell? ⟨w.heap.size, 12, none⟩ = some (.slice none 0 0) := cell_of_block M3 rfl
        have z13 : w3.cell? ⟨w.heap.size, 13, none⟩ = some (.slice none 0 0) := cell_of_block M3 rfl
        have f0 : w3.frozen? ⟨w.heap.size, 0, none⟩ = false := frozen_of_block M3
        have f1 : w3.frozen? ⟨w.heap.size, 1, none⟩ = false := frozen_of_block M3
        have f2 : w3.frozen? ⟨w.heap.size, 2, none⟩ = false := frozen_of_block M3
        have f3 : w3.frozen? ⟨w.heap.size, 3, none⟩ = false := frozen_of_block M3
        have f4 : w3.frozen? ⟨w.heap.size, 4, none⟩ = false := frozen_of_block M3
        have f5 : w3.frozen? ⟨w.heap.size, 5, none⟩ = false := frozen_of_block M3
        have f6 : w3.frozen? ⟨w.heap.size, 6, none⟩ = false := frozen_of_block M3
        have f7 : w3.frozen? ⟨w.heap.size, 7, none⟩ = false := frozen_of_block M3
        have f8 : w3.frozen? ⟨w.heap.size, 8, none⟩ = false := frozen_of_block M3
        have f9 : w3.frozen? ⟨w.heap.size, 9, none⟩ = false := frozen_of_block M3
        have f10 : w3.frozen? ⟨w.heap.size, 10, none⟩ = false := frozen_of_block M3
        have f11 : w3.frozen? ⟨w.heap.size, 11, none⟩ = false := frozen_of_block M3
        have f12 : w3.frozen? ⟨w.heap.size, 12, none⟩ = false := frozen_of_block M3
        have f13 : w3.frozen? ⟨w.heap.size, 13, none⟩ = false := frozen_of_block M3
        have y0 : w3.cell? ⟨w.heap.size + 1, 0, none⟩ = some (.int .i64 0) := cell_of_block C3 rfl
        have y1 : w3.cell? ⟨w.heap.size + 1, 1, none⟩ = some (.int .i64 0) := cell_of_block C3 rfl
        have y2 : w3.cell? ⟨w.heap.size + 1, 2, none⟩ = some (.int .i64 0) := cell_of_block C3 rfl
        have y3 : w3.cell? ⟨w.heap.size + 1, 3, none⟩ = some (.int .i64 0) := cell_of_block C3 rfl
        have q0 : w3.frozen? ⟨w.heap.size + 1, 0, none⟩ = false := frozen_of_block C3
        have q1 : w3.frozen? ⟨w.heap.size + 1, 1, none⟩ = false := frozen_of_block C3
        have q2 : w3.frozen? ⟨w.heap.size + 1, 2, none⟩ = false := frozen_of_block C3
        have q3 : w3.frozen? ⟨w.heap.size + 1, 3, none⟩ = false := frozen_of_block C3
        clear hb3 M3 C3 hsz
        go_wp2
        refine bodyPost_ret (v := .tuple #[.agg #[.int .u16 0, .bool false, .int .i64 0, .bool false, .bool false, .bool false, .bool false, .bool false, .bool false, .int .i64 0, .slice none 0 0, .slice none 0 0, .slice none 0 0, .slice none 0 0], .agg #[.int .i64 0, .int .i64 0, .int .i64 0, .int .i64 0], .int .i64 8]) ?_ rfl (HP.out _ _ ⟨fun _ => rfl, (fun h => by rw [h6] at h; cases h), ?_⟩)
        · simp [results, Try.results18, go_sem, g0, g1, z0, z1, z2, z3, z4, z5, z6, z7, z8, z9, z10, z11, z12, z13, y0, y1, y2, y3]
        · refine Below.alloc ?_ (by simp; omega) _
          iterate 18 refine Below.setCell ?_ (by simp) _
          exact HB3.out
end Go.Proofs.Ytmlccnpondemiaa
