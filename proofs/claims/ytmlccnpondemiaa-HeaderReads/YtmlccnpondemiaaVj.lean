/- nomenclatorref08.has, Read. -/
import Derived.Test.YtmlccnpondemiaaVh
import Derived.Deep.RegionHeld3
import Derived.Deep.CutBlock
import Derived.Deep.CutRange
import Derived.Lib.Hide
namespace Go.Proofs.Ytmlccnpondemiaa
open Go.ChangeShapes Go.WideShapes Go.ChangeAt Go.RowKit
set_option linter.unusedVariables false
set_option linter.unusedSimpArgs false

theorem getD_mem (zs : List Int) (i : Nat) (h : i < zs.length) : zs.getD i 0 ∈ zs := by
  rw [List.getD_eq_getElem?_getD, List.getElem?_eq_getElem h]; exact List.getElem_mem h
theorem unfl_int (z v : Nat) : ((z : Int) / (v : Int) % 2 == 1) = unfl z v := by
  unfold unfl
  have e : ((z : Int) / (v : Int) % 2) = ((z / v % 2 : Nat) : Int) := rfl
  rw [e]
  rcases Nat.mod_two_eq_zero_or_one (z / v) with h | h <;> rw [h] <;> rfl
theorem has128 (z : Nat) (hz : z < 256) (w : World) : Calls Try.prog 37 #[.int .u8 (z : Int), .int .i64 128] w fun e w' => e = .returned (.bool (unfl z 128)) ∧ w' = w := by
  have h : ((z : Int) / 128 % 2 == 1) = unfl z 128 := unfl_int z 128
  go_enter Try.func37, Try.ntmps37
  go_wp2
  go_ret
  exact ⟨rfl, rfl⟩
theorem has64 (z : Nat) (hz : z < 256) (w : World) : Calls Try.prog 37 #[.int .u8 (z : Int), .int .i64 64] w fun e w' => e = .returned (.bool (unfl z 64)) ∧ w' = w := by
  have h : ((z : Int) / 64 % 2 == 1) = unfl z 64 := unfl_int z 64
  go_enter Try.func37, Try.ntmps37
  go_wp2
  go_ret
  exact ⟨rfl, rfl⟩
theorem has32 (z : Nat) (hz : z < 256) (w : World) : Calls Try.prog 37 #[.int .u8 (z : Int), .int .i64 32] w fun e w' => e = .returned (.bool (unfl z 32)) ∧ w' = w := by
  have h : ((z : Int) / 32 % 2 == 1) = unfl z 32 := unfl_int z 32
  go_enter Try.func37, Try.ntmps37
  go_wp2
  go_ret
  exact ⟨rfl, rfl⟩
theorem has16 (z : Nat) (hz : z < 256) (w : World) : Calls Try.prog 37 #[.int .u8 (z : Int), .int .i64 16] w fun e w' => e = .returned (.bool (unfl z 16)) ∧ w' = w := by
  have h : ((z : Int) / 16 % 2 == 1) = unfl z 16 := unfl_int z 16
  go_enter Try.func37, Try.ntmps37
  go_wp2
  go_ret
  exact ⟨rfl, rfl⟩
theorem has4 (z : Nat) (hz : z < 256) (w : World) : Calls Try.prog 37 #[.int .u8 (z : Int), .int .i64 4] w fun e w' => e = .returned (.bool (unfl z 4)) ∧ w' = w := by
  have h : ((z : Int) / 4 % 2 == 1) = unfl z 4 := unfl_int z 4
  go_enter Try.func37, Try.ntmps37
  go_wp2
  go_ret
  exact ⟨rfl, rfl⟩
theorem has2 (z : Nat) (hz : z < 256) (w : World) : Calls Try.prog 37 #[.int .u8 (z : Int), .int .i64 2] w fun e w' => e = .returned (.bool (unfl z 2)) ∧ w' = w := by
  have h : ((z : Int) / 2 % 2 == 1) = unfl z 2 := unfl_int z 2
  go_enter Try.func37, Try.ntmps37
  go_wp2
  go_ret
  exact ⟨rfl, rfl⟩
theorem has1 (z : Nat) (hz : z < 256) (w : World) : Calls Try.prog 37 #[.int .u8 (z : Int), .int .i64 1] w fun e w' => e = .returned (.bool (unfl z 1)) ∧ w' = w := by
  have h : ((z : Int) / 1 % 2 == 1) = unfl z 1 := unfl_int z 1
  rw [Int.ediv_one] at h
  go_enter Try.func37, Try.ntmps37
  go_wp2
  go_ret
  exact ⟨rfl, rfl⟩
def unflI (z : Nat) (v : Int) : Bool := unfl z v.toNat
theorem has_any (z : Nat) (v : Int) (hz : z < 256) (hv : v = 128 ∨ v = 64 ∨ v = 32 ∨ v = 16 ∨ v = 4 ∨ v = 2 ∨ v = 1) (w : World) : Calls Try.prog 37 #[.int .u8 (z : Int), .int .i64 v] w fun e w' => e = .returned (.bool (unflI z v)) ∧ w' = w := by
  rcases hv with rfl | rfl | rfl | rfl | rfl | rfl | rfl
  · exact has128 z hz w
  · exact has64 z hz w
  · exact has32 z hz w
  · exact has16 z hz w
  · exact has4 z hz w
  · exact has2 z hz w
  · exact has1 z hz w
theorem flags_eq (z2 z3 F : Nat) (h2 : z2 < 256) (h3 : z3 < 256) (hF : F = z2 * 256 + z3) : unfl F 32768 = unfl z2 128 ∧ unop F = z2 / 8 % 16 ∧ unfl F 1024 = unfl z2 4 ∧ unfl F 512 = unfl z2 2 ∧ unfl F 256 = unfl z2 1 ∧ unfl F 128 = unfl z3 128 ∧ unfl F 64 = unfl z3 64 ∧ unfl F 32 = unfl z3 32 ∧ unfl F 16 = unfl z3 16 ∧ unrc F = z3 % 16 := by
  refine ⟨unfl_of ?_, ?_, unfl_of ?_, unfl_of ?_, unfl_of ?_, unfl_of ?_, unfl_of ?_, unfl_of ?_, unfl_of ?_, ?_⟩
  all_goals try rw [unfl_nat]
  all_goals (try unfold unop); (try unfold unrc); omega
def row4 (zs : List Int) (k : Nat) : Array Value := #[.int .i64 (if 0 < k then (nv zs 2 : Int) else 0), .int .i64 (if 1 < k then (nv zs 3 : Int) else 0), .int .i64 (if 2 < k then (nv zs 4 : Int) else 0), .int .i64 (if 3 < k then (nv zs 5 : Int) else 0)]
/-- The four blocks that the document's Read makes. -/
structure By (w wr : World) (zs : List Int) (k : Nat) : Prop where
  m : wr.heap[w.heap.size]? = some (.cells zeroM 26)
  c : wr.heap[w.heap.size + 1]? = some (.cells #[.int .i64 0, .int .i64 0, .int .i64 0, .int .i64 0] 27)
  n : wr.heap[w.heap.size + 1 + 1]? = some (.cells (row4 zs k) 27)
  f : wr.heap[w.heap.size + 1 + 1 + 1]? = some (.cells (msgU (nv zs 0) (nv zs 1)) 26)
  b : Below w.heap.size w wr
theorem By.drew {w wr : World} {zs : List Int} {k : Nat} (h : By w wr zs k) : By w wr.drew zs k := ⟨h.m, h.c, h.n, h.f, h.b.drew⟩
theorem By.step {w wr : World} {zs : List Int} {k : Nat} (h : By w wr zs k) (hk : k < 4) (v : Int) (hv : v = (nv zs (k + 2) : Int)) : By w (wr.setCell ⟨w.heap.size + 1 + 1, k, none⟩ (.int .i64 v)) zs (k + 1) := by
  refine ⟨(Below.heap_setCell wr _ _ _ (by simp; omega)).trans h.m, (Below.heap_setCell wr _ _ _ (by simp)).trans h.c, (upd_block h.n _).trans ?_, (Below.heap_setCell wr _ _ _ (by simp)).trans h.f, h.b.setCell (p := ⟨_, _, none⟩) (by simp; omega) _⟩
  subst hv
  match k, hk with
  | 0, _ => simp [row4]
  | 1, _ => simp [row4]
  | 2, _ => simp [row4]
  | 3, _ => simp [row4]
  | k + 4, h => omega
theorem wrap16_sum (Z0 Z1 : Nat) (h0 : Z0 < 256) (h1 : Z1 < 256) : IntKind.u16.wrap (IntKind.u16.wrap (IntKind.u16.wrap (Z0 : Int) * 256) + IntKind.u16.wrap (Z1 : Int)) = ((Z0 * 256 + Z1 : Nat) : Int) := by
  simp only [IntKind.wrap_u16]; omega
theorem msg_eq (zs : List Int) (Z0 Z1 Z2 Z3 : Nat) (b0 : Z0 < 256) (b1 : Z1 < 256) (b2 : Z2 < 256) (b3 : Z3 < 256) (h0 : nv zs 0 = Z0 * 256 + Z1) (h1 : nv zs 1 = Z2 * 256 + Z3) : (#[.int .u16 (IntKind.u16.wrap (IntKind.u16.wrap (IntKind.u16.wrap (Z0 : Int) * 256) + IntKind.u16.wrap (Z1 : Int))), .bool (unflI Z2 128), .int .i64 ((IntKind.i64.wrap ((IntKind.i64.wrap (Z2 : Int)).tdiv 8)).tmod 16), .bool (unflI Z2 4), .bool (unflI Z2 2), .bool (unflI Z2 1), .bool (unflI Z3 128), .bool (unflI Z3 32), .bool (unflI Z3 16), .int .i64 ((IntKind.i64.wrap (Z3 : Int)).tmod 16), .slice none 0 0, .slice none 0 0, .slice none 0 0, .slice none 0 0] : Array Value) = msgU (nv zs 0) (nv zs 1) := by
  obtain ⟨f1, f2, f3, f4, f5, f6, f7, f8, f9, f10⟩ := flags_eq Z2 Z3 _ b2 b3 h1
  have e1 : (IntKind.i64.wrap ((IntKind.i64.wrap (Z2 : Int)).tdiv 8)).tmod 16 = ((Z2 / 8 % 16 : Nat) : Int) := by
    rw [wrap_i64_nat Z2 (by omega), Int.tdiv_eq_ediv_of_nonneg (by omega)]
    have e : ((Z2 : Int) / 8) = ((Z2 / 8 : Nat) : Int) := rfl
    rw [e, wrap_i64_nat _ (by omega), Int.tmod_eq_emod_of_nonneg (by omega)]
    rfl
  have e2 : (IntKind.i64.wrap (Z3 : Int)).tmod 16 = ((Z3 % 16 : Nat) : Int) := by
    rw [wrap_i64_nat Z3 (by omega), Int.tmod_eq_emod_of_nonneg (by omega)]
    rfl
  rw [wrap16_sum Z0 Z1 b0 b1, e1, e2]
  simp only [msgU, f1, f2, f3, f4, f5, f6, f8, f9, f10, h0]
  rfl

set_option maxRecDepth 100000 in
set_option maxHeartbeats 8000000 in
theorem ref19 (a : Option Addr) (len cap : Nat) (zs : List Int) (w : World) (hr : Rd w a zs) (hl : zs.length = len) (hc : len ≤ cap) (hm : cap ≤ 9223372036854775807) :
    Calls Try.prog 19 #[.slice a len cap] w fun e w' => RdPost w zs e w' := by
  rcases Nat.lt_or_ge len 12 with h12 | h12
  · have HS : Hid (zs.length < 12) := by show zs.length < 12; omega
    have h12' : (len : Int) < 12 := by omega
    clear hr hl
    go_enter Try.func19, Try.ntmps19
    go_wp2_with fail
    go_region
    all_goals go_wp2_with fail
    refine bodyPost_ret (v := .tuple #[.agg #[.int .u16 0, .bool false, .int .i64 0, .bool false, .bool false, .bool false, .bool false, .bool false, .bool false, .int .i64 0, .slice none 0 0, .slice none 0 0, .slice none 0 0, .slice none 0 0], .agg #[.int .i64 0, .int .i64 0, .int .i64 0, .int .i64 0], .int .i64 8]) ?_ rfl ⟨fun _ => rfl, fun h => absurd (.inl HS.out) h, ?_⟩
    · simp [results, Try.results19, go_sem]
    · refine Below.drew ?_
      exact (((Below.refl _ _).alloc (Nat.le_refl _) _).alloc (by simp) _).alloc (by simp; omega) _
  · have h12' : ¬ (len : Int) < 12 := by omega
    have h12z : 12 ≤ zs.length := by omega
    have hz := hr.2
    obtain ⟨b, o, rfl, hbl, hcl⟩ : ∃ b o, a = some ⟨b, o, none⟩ ∧ b < w.heap.size ∧ ∀ i, i < zs.length → w.cell? ⟨b, o + i, none⟩ = some (.int .u8 (zs.getD i 0)) := by
      rcases hr.1 with h | ⟨b, o, h1, h2, h3⟩
      · subst h; simp at h12z
      · exact ⟨b, o, h1, h2, h3⟩
    have HF : Hid (∀ e w', ((unfl (nv zs 1) 64 = true → e = .returned (.tuple #[.agg zeroM, .agg #[.int .i64 0, .int .i64 0, .int .i64 0, .int .i64 0], .int .i64 8])) ∧ (unfl (nv zs 1) 64 = false → e = .returned (.tuple #[.agg (msgU (nv zs 0) (nv zs 1)), .agg #[.int .i64 (nv zs 2 : Int), .int .i64 (nv zs 3 : Int), .int .i64 (nv zs 4 : Int), .int .i64 (nv zs 5 : Int)], .int .i64 0])) ∧ Below w.heap.size w w') → RdPost w zs e w') := by
      intro e w' ⟨h1, h2, h3⟩
      refine ⟨fun h => h1 (h.resolve_left (by omega)), fun h => h2 ?_, h3⟩
      cases hq : unfl (nv zs 1) 64
      · rfl
      · exact absurd (.inr hq) h
    have c0 := hcl 0 (by omega)
    obtain ⟨Z0, e0, b0⟩ : ∃ Z : Nat, zs.getD 0 0 = (Z : Int) ∧ Z < 256 := by
      have : zs.getD 0 0 ∈ zs := getD_mem zs 0 (by omega)
      have := hz _ this
      exact ⟨(zs.getD 0 0).toNat, by omega, by omega⟩
    rw [e0] at c0
    have c1 := hcl 1 (by omega)
    obtain ⟨Z1, e1, b1⟩ : ∃ Z : Nat, zs.getD 1 0 = (Z : Int) ∧ Z < 256 := by
      have : zs.getD 1 0 ∈ zs := getD_mem zs 1 (by omega)
      have := hz _ this
      exact ⟨(zs.getD 1 0).toNat, by omega, by omega⟩
    rw [e1] at c1
    have c2 := hcl 2 (by omega)
    obtain ⟨Z2, e2, b2⟩ : ∃ Z : Nat, zs.getD 2 0 = (Z : Int) ∧ Z < 256 := by
      have : zs.getD 2 0 ∈ zs := getD_mem zs 2 (by omega)
      have := hz _ this
      exact ⟨(zs.getD 2 0).toNat, by omega, by omega⟩
    rw [e2] at c2
    have c3 := hcl 3 (by omega)
    obtain ⟨Z3, e3, b3⟩ : ∃ Z : Nat, zs.getD 3 0 = (Z : Int) ∧ Z < 256 := by
      have : zs.getD 3 0 ∈ zs := getD_mem zs 3 (by omega)
      have := hz _ this
      exact ⟨(zs.getD 3 0).toNat, by omega, by omega⟩
    rw [e3] at c3
    have c4 := hcl 4 (by omega)
    obtain ⟨Z4, e4, b4⟩ : ∃ Z : Nat, zs.getD 4 0 = (Z : Int) ∧ Z < 256 := by
      have : zs.getD 4 0 ∈ zs := getD_mem zs 4 (by omega)
      have := hz _ this
      exact ⟨(zs.getD 4 0).toNat, by omega, by omega⟩
    rw [e4] at c4
    have c5 := hcl 5 (by omega)
    obtain ⟨Z5, e5, b5⟩ : ∃ Z : Nat, zs.getD 5 0 = (Z : Int) ∧ Z < 256 := by
      have : zs.getD 5 0 ∈ zs := getD_mem zs 5 (by omega)
      have := hz _ this
      exact ⟨(zs.getD 5 0).toNat, by omega, by omega⟩
    rw [e5] at c5
    have c6 := hcl 6 (by omega)
    obtain ⟨Z6, e6, b6⟩ : ∃ Z : Nat, zs.getD 6 0 = (Z : Int) ∧ Z < 256 := by
      have : zs.getD 6 0 ∈ zs := getD_mem zs 6 (by omega)
      have := hz _ this
      exact ⟨(zs.getD 6 0).toNat, by omega, by omega⟩
    rw [e6] at c6
    have c7 := hcl 7 (by omega)
    obtain ⟨Z7, e7, b7⟩ : ∃ Z : Nat, zs.getD 7 0 = (Z : Int) ∧ Z < 256 := by
      have : zs.getD 7 0 ∈ zs := getD_mem zs 7 (by omega)
      have := hz _ this
      exact ⟨(zs.getD 7 0).toNat, by omega, by omega⟩
    rw [e7] at c7
    have c8 := hcl 8 (by omega)
    obtain ⟨Z8, e8, b8⟩ : ∃ Z : Nat, zs.getD 8 0 = (Z : Int) ∧ Z < 256 := by
      have : zs.getD 8 0 ∈ zs := getD_mem zs 8 (by omega)
      have := hz _ this
      exact ⟨(zs.getD 8 0).toNat, by omega, by omega⟩
    rw [e8] at c8
    have c9 := hcl 9 (by omega)
    obtain ⟨Z9, e9, b9⟩ : ∃ Z : Nat, zs.getD 9 0 = (Z : Int) ∧ Z < 256 := by
      have : zs.getD 9 0 ∈ zs := getD_mem zs 9 (by omega)
      have := hz _ this
      exact ⟨(zs.getD 9 0).toNat, by omega, by omega⟩
    rw [e9] at c9
    have c10 := hcl 10 (by omega)
    obtain ⟨Z10, e10, b10⟩ : ∃ Z : Nat, zs.getD 10 0 = (Z : Int) ∧ Z < 256 := by
      have : zs.getD 10 0 ∈ zs := getD_mem zs 10 (by omega)
      have := hz _ this
      exact ⟨(zs.getD 10 0).toNat, by omega, by omega⟩
    rw [e10] at c10
    have c11 := hcl 11 (by omega)
    obtain ⟨Z11, e11, b11⟩ : ∃ Z : Nat, zs.getD 11 0 = (Z : Int) ∧ Z < 256 := by
      have : zs.getD 11 0 ∈ zs := getD_mem zs 11 (by omega)
      have := hz _ this
      exact ⟨(zs.getD 11 0).toNat, by omega, by omega⟩
    rw [e11] at c11
    have HNV : Hid (nv zs 0 = Z0 * 256 + Z1 ∧ nv zs 1 = Z2 * 256 + Z3 ∧ nv zs 2 = Z4 * 256 + Z5 ∧ nv zs 3 = Z6 * 256 + Z7 ∧ nv zs 4 = Z8 * 256 + Z9 ∧ nv zs 5 = Z10 * 256 + Z11) := by
      obtain ⟨z0, z1, z2, z3, z4, z5, z6, z7, z8, z9, z10, z11, r, rfl⟩ := twelve h12z
      simp only [List.getD_cons_succ, List.getD_cons_zero] at e0 e1 e2 e3 e4 e5 e6 e7 e8 e9 e10 e11
      simp only [nv, val, List.drop_succ_cons, List.drop_zero, List.take_succ_cons, List.take_zero, List.foldl_cons, List.foldl_nil, Nat.mul_one, Nat.mul_zero, Nat.reduceMul]
      refine ⟨?_, ?_, ?_, ?_, ?_, ?_⟩ <;> omega
    clear hcl hz hr e0 e1 e2 e3 e4 e5 e6 e7 e8 e9 e10 e11
    have HFL := Lib.hid (flags_eq Z2 Z3 _ b2 b3 HNV.out.2.1)
    have hb1 : b < w.heap.size + 1 := by omega
    have hb2 : b < w.heap.size + 1 + 1 := by omega
    have hb3 : b < w.heap.size + 1 + 1 + 1 := by omega
    have hl0' : 0 < len := by omega
    have hl1' : 1 < len := by omega
    have hl2' : 2 < len := by omega
    have hl3' : 3 < len := by omega
    have hl0 : (0 : Int) < (len : Int) := by omega
    have hl1 : (1 : Int) < (len : Int) := by omega
    have hl2 : (2 : Int) < (len : Int) := by omega
    have hl3 : (3 : Int) < (len : Int) := by omega
    cases h6 : unfl Z3 64
    · have K64 := fun W => Lib.hid (has64 Z3 b3 W)
      have HMS : Hid (msgU (nv zs 0) (nv zs 1) = #[.int .u16 ((Z0 : Int) * 256 + (Z1 : Int)), .bool (unfl Z2 128), .int .i64 ((Z2 : Int) / 8 % 16), .bool (unfl Z2 4), .bool (unfl Z2 2), .bool (unfl Z2 1), .bool (unfl Z3 128), .bool (unfl Z3 32), .bool (unfl Z3 16), .int .i64 ((Z3 : Int) % 16), .slice none 0 0, .slice none 0 0, .slice none 0 0, .slice none 0 0]) := by
        obtain ⟨f1, f2, f3, f4, f5, f6, f7, f8, f9, f10⟩ := HFL.out
        show msgU _ _ = _
        simp only [msgU, f1, f2, f3, f4, f5, f6, f8, f9, f10]
        rw [HNV.out.1]
        rfl
      go_enter Try.func19, Try.ntmps19
      go_wp2_with fail
      refine (K64 _).out.mono ?_
      rintro e w1 ⟨rfl, rfl⟩
      rw [h6]
      go_wp2_with fail
      obtain ⟨W0, hW0⟩ : ∃ W0, W0 = ((w.alloc (.cells #[.int .u16 0, .bool false, .int .i64 0, .bool false, .bool false, .bool false, .bool false, .bool false, .bool false, .int .i64 0, .slice none 0 0, .slice none 0 0, .slice none 0 0, .slice none 0 0] 26)).alloc (.cells #[.int .i64 0, .int .i64 0, .int .i64 0, .int .i64 0] 27)).alloc (.cells #[.int .i64 0, .int .i64 0, .int .i64 0, .int .i64 0] 27) := ⟨_, rfl⟩
      rw [← hW0]
      have HW0 : Hid (W0.heap[w.heap.size]? = some (.cells zeroM 26) ∧ W0.heap[w.heap.size + 1]? = some (.cells #[.int .i64 0, .int .i64 0, .int .i64 0, .int .i64 0] 27) ∧ W0.heap[w.heap.size + 1 + 1]? = some (.cells #[.int .i64 0, .int .i64 0, .int .i64 0, .int .i64 0] 27) ∧ W0.heap.size = w.heap.size + 1 + 1 + 1 ∧ Below w.heap.size w W0) := by
        rw [hW0]
        obtain ⟨f1, f2, f3⟩ := alloc3 w (.cells #[.int .u16 0, .bool false, .int .i64 0, .bool false, .bool false, .bool false, .bool false, .bool false, .bool false, .int .i64 0, .slice none 0 0, .slice none 0 0, .slice none 0 0, .slice none 0 0] 26) (.cells #[.int .i64 0, .int .i64 0, .int .i64 0, .int .i64 0] 27) (.cells #[.int .i64 0, .int .i64 0, .int .i64 0, .int .i64 0] 27)
        exact ⟨f1, f2, f3, by simp, (((Below.refl _ _).alloc (Nat.le_refl _) _).alloc (by simp) _).alloc (by simp; omega) _⟩
      clear hW0
      have g0 : W0.cell? ⟨b, o, none⟩ = some (.int .u8 (Z0 : Int)) := (HW0.out.2.2.2.2.cell (p := ⟨b, o, none⟩) hbl).trans c0
      have g1 : W0.cell? ⟨b, o + 1, none⟩ = some (.int .u8 (Z1 : Int)) := (HW0.out.2.2.2.2.cell (p := ⟨b, o + 1, none⟩) hbl).trans c1
      have g2 : W0.cell? ⟨b, o + 2, none⟩ = some (.int .u8 (Z2 : Int)) := (HW0.out.2.2.2.2.cell (p := ⟨b, o + 2, none⟩) hbl).trans c2
      have g3 : W0.cell? ⟨b, o + 3, none⟩ = some (.int .u8 (Z3 : Int)) := (HW0.out.2.2.2.2.cell (p := ⟨b, o + 3, none⟩) hbl).trans c3
      have hbW : b < W0.heap.size := by rw [HW0.out.2.2.2.1]; omega
      have HMSG : Hid ((#[.int .u16 (IntKind.u16.wrap (IntKind.u16.wrap (IntKind.u16.wrap (Z0 : Int) * 256) + IntKind.u16.wrap (Z1 : Int))), .bool (unflI Z2 128), .int .i64 ((IntKind.i64.wrap ((IntKind.i64.wrap (Z2 : Int)).tdiv 8)).tmod 16), .bool (unflI Z2 4), .bool (unflI Z2 2), .bool (unflI Z2 1), .bool (unflI Z3 128), .bool (unflI Z3 32), .bool (unflI Z3 16), .int .i64 ((IntKind.i64.wrap (Z3 : Int)).tmod 16), .slice none 0 0, .slice none 0 0, .slice none 0 0, .slice none 0 0] : Array Value) = msgU (nv zs 0) (nv zs 1)) := msg_eq zs Z0 Z1 Z2 Z3 b0 b1 b2 b3 HNV.out.1 HNV.out.2.1
      go_cut [6] from 19 to 68 (fun s6 wx => s6 = .pointer (some ⟨w.heap.size + 1 + 1 + 1, 0, none⟩) ∧ Hid (By w wx zs 0))
      case first =>
        go_region_held3 (fun W => W.cell? ⟨b, o, none⟩ = some (.int .u8 (Z0 : Int)) ∧ W.cell? ⟨b, o + 1, none⟩ = some (.int .u8 (Z1 : Int)) ∧ W.cell? ⟨b, o + 2, none⟩ = some (.int .u8 (Z2 : Int)) ∧ W.cell? ⟨b, o + 3, none⟩ = some (.int .u8 (Z3 : Int))) (exact ⟨by go_keep, by go_keep, by go_keep, by go_keep⟩) (first
          | (go_at_call 37; refine (has_any _ _ (by omega) (by omega) _).mono ?_; rintro e w2 ⟨rfl, rfl⟩)
          | fail)
        all_goals
          go_wp2_with fail
          go_meet
          case rel =>
            refine ⟨by rw [HW0.out.2.2.2.1], ?_⟩
            show By _ _ _ _
            rw [HMSG.out]
            refine By.drew ⟨block_alloc HW0.out.1 _, block_alloc HW0.out.2.1 _, block_alloc HW0.out.2.2.1 _, ?_, HW0.out.2.2.2.2.alloc HW0.out.2.2.2.2.size _⟩
            rw [← HW0.out.2.2.2.1]
            exact alloc_at _ _
      case rest =>
        obtain ⟨rfl, HBY⟩ := hcut
        clear HMSG HW0 g0 g1 g2 g3 hbW HMS K64
        go_wp2_with fail
        go_loopw [7] (fun y wr => ∃ k : Nat, k ≤ 4 ∧ y = .int .i64 (k : Int) ∧ Hid (By w wr zs k)) (fun y _ => 4 - (intOf y).toNat)
        case atStart => exact ⟨0, by omega, rfl, HBY⟩
        case round =>
          obtain ⟨k, hk, rfl, HX⟩ := hrel
          have q0 := block_lt HX.out.m
          have q1 := block_lt HX.out.c
          have q2 := block_lt HX.out.n
          have q3 := block_lt HX.out.f
          have qb := Nat.lt_of_lt_of_le hbl HX.out.b.size
          by_cases hlt : k < 4
          · have hlt' : (k : Int) < 4 := by omega
            rcases Nat.lt_or_ge k 1 with hk' | hk'
            · obtain rfl : k = 0 := by omega
              have cc : wr.cell? ⟨w.heap.size + 1 + 1, 0, none⟩ = some (.int .i64 0) := cell_of_block HX.out.n rfl
              have ff : wr.frozen? ⟨w.heap.size + 1 + 1, 0, none⟩ = false := frozen_of_block HX.out.n
              have ra : wr.cell? ⟨b, o + 4, none⟩ = some (.int .u8 (Z4 : Int)) := (HX.out.b.cell (p := ⟨b, o + 4, none⟩) hbl).trans c4
              have rb : wr.cell? ⟨b, o + 5, none⟩ = some (.int .u8 (Z5 : Int)) := (HX.out.b.cell (p := ⟨b, o + 5, none⟩) hbl).trans c5
              have la : (4 : Int) < (len : Int) := by omega
              have lb : (5 : Int) < (len : Int) := by omega
              have la' : 4 < len := by omega
              have lb' : 5 < len := by omega
              go_wp2_with fail
              go_region
              all_goals go_wp2_with fail
              refine ⟨⟨0 + 1, by omega, rfl, By.drew (HX.out.step (by omega) _ ?_)⟩, by simp [intOf]⟩
              have := HNV.out.2.2.1
              simp only [Nat.reduceAdd] at *
              omega
            rcases Nat.lt_or_ge k 2 with hk' | hk'
            · obtain rfl : k = 1 := by omega
              have cc : wr.cell? ⟨w.heap.size + 1 + 1, 1, none⟩ = some (.int .i64 0) := cell_of_block HX.out.n rfl
              have ff : wr.frozen? ⟨w.heap.size + 1 + 1, 1, none⟩ = false := frozen_of_block HX.out.n
              have ra : wr.cell? ⟨b, o + 6, none⟩ = some (.int .u8 (Z6 : Int)) := (HX.out.b.cell (p := ⟨b, o + 6, none⟩) hbl).trans c6
              have rb : wr.cell? ⟨b, o + 7, none⟩ = some (.int .u8 (Z7 : Int)) := (HX.out.b.cell (p := ⟨b, o + 7, none⟩) hbl).trans c7
              have la : (6 : Int) < (len : Int) := by omega
              have lb : (7 : Int) < (len : Int) := by omega
              have la' : 6 < len := by omega
              have lb' : 7 < len := by omega
              go_wp2_with fail
              go_region
              all_goals go_wp2_with fail
              refine ⟨⟨1 + 1, by omega, rfl, By.drew (HX.out.step (by omega) _ ?_)⟩, by simp [intOf]⟩
              have := HNV.out.2.2.2.1
              simp only [Nat.reduceAdd] at *
              omega
            rcases Nat.lt_or_ge k 3 with hk' | hk'
            · obtain rfl : k = 2 := by omega
              have cc : wr.cell? ⟨w.heap.size + 1 + 1, 2, none⟩ = some (.int .i64 0) := cell_of_block HX.out.n rfl
              have ff : wr.frozen? ⟨w.heap.size + 1 + 1, 2, none⟩ = false := frozen_of_block HX.out.n
              have ra : wr.cell? ⟨b, o + 8, none⟩ = some (.int .u8 (Z8 : Int)) := (HX.out.b.cell (p := ⟨b, o + 8, none⟩) hbl).trans c8
              have rb : wr.cell? ⟨b, o + 9, none⟩ = some (.int .u8 (Z9 : Int)) := (HX.out.b.cell (p := ⟨b, o + 9, none⟩) hbl).trans c9
              have la : (8 : Int) < (len : Int) := by omega
              have lb : (9 : Int) < (len : Int) := by omega
              have la' : 8 < len := by omega
              have lb' : 9 < len := by omega
              go_wp2_with fail
              go_region
              all_goals go_wp2_with fail
              refine ⟨⟨2 + 1, by omega, rfl, By.drew (HX.out.step (by omega) _ ?_)⟩, by simp [intOf]⟩
              have := HNV.out.2.2.2.2.1
              simp only [Nat.reduceAdd] at *
              omega
            rcases Nat.lt_or_ge k 4 with hk' | hk'
            · obtain rfl : k = 3 := by omega
              have cc : wr.cell? ⟨w.heap.size + 1 + 1, 3, none⟩ = some (.int .i64 0) := cell_of_block HX.out.n rfl
              have ff : wr.frozen? ⟨w.heap.size + 1 + 1, 3, none⟩ = false := frozen_of_block HX.out.n
              have ra : wr.cell? ⟨b, o + 10, none⟩ = some (.int .u8 (Z10 : Int)) := (HX.out.b.cell (p := ⟨b, o + 10, none⟩) hbl).trans c10
              have rb : wr.cell? ⟨b, o + 11, none⟩ = some (.int .u8 (Z11 : Int)) := (HX.out.b.cell (p := ⟨b, o + 11, none⟩) hbl).trans c11
              have la : (10 : Int) < (len : Int) := by omega
              have lb : (11 : Int) < (len : Int) := by omega
              have la' : 10 < len := by omega
              have lb' : 11 < len := by omega
              go_wp2_with fail
              go_region
              all_goals go_wp2_with fail
              refine ⟨⟨3 + 1, by omega, rfl, By.drew (HX.out.step (by omega) _ ?_)⟩, by simp [intOf]⟩
              have := HNV.out.2.2.2.2.2
              simp only [Nat.reduceAdd] at *
              omega
            · omega
          · obtain rfl : k = 4 := by omega
            have HU : Hid (unfl (nv zs 1) 64 = false) := by show _ = _; rw [HFL.out.2.2.2.2.2.2.1, h6]
            have HM := Lib.hid HX.out.m
            have HC := Lib.hid HX.out.c
            have HN : Hid (wr.heap[w.heap.size + 1 + 1]? = some (.cells #[.int .i64 (nv zs 2 : Int), .int .i64 (nv zs 3 : Int), .int .i64 (nv zs 4 : Int), .int .i64 (nv zs 5 : Int)] 27)) := HX.out.n
            have HG := Lib.hid HX.out.f
            have HB := Lib.hid HX.out.b
            clear HX HFL HNV HBY
            generalize nv zs 0 = I at *
            generalize nv zs 1 = F at *
            generalize nv zs 2 = C0 at *
            generalize nv zs 3 = C1 at *
            generalize nv zs 4 = C2 at *
            generalize nv zs 5 = C3 at *
            have z0 : wr.cell? ⟨w.heap.size, 0, none⟩ = some (.int .u16 0) := cell_of_block HM.out rfl
            have z1 : wr.cell? ⟨w.heap.size, 1, none⟩ = some (.bool false) := cell_of_block HM.out rfl
            have z2 : wr.cell? ⟨w.heap.size, 2, none⟩ = some (.int .i64 0) := cell_of_block HM.out rfl
            have z3 : wr.cell? ⟨w.heap.size, 3, none⟩ = some (.bool false) := cell_of_block HM.out rfl
            have z4 : wr.cell? ⟨w.heap.size, 4, none⟩ = some (.bool false) := cell_of_block HM.out rfl
            have z5 : wr.cell? ⟨w.heap.size, 5, none⟩ = some (.bool false) := cell_of_block HM.out rfl
            have z6 : wr.cell? ⟨w.heap.size, 6, none⟩ = some (.bool false) := cell_of_block HM.out rfl
            have z7 : wr.cell? ⟨w.heap.size, 7, none⟩ = some (.bool false) := cell_of_block HM.out rfl
            have z8 : wr.cell? ⟨w.heap.size, 8, none⟩ = some (.bool false) := cell_of_block HM.out rfl
            have z9 : wr.cell? ⟨w.heap.size, 9, none⟩ = some (.int .i64 0) := cell_of_block HM.out rfl
            have z10 : wr.cell? ⟨w.heap.size, 10, none⟩ = some (.slice none 0 0) := cell_of_block HM.out rfl
            have z11 : wr.cell? ⟨w.heap.size, 11, none⟩ = some (.slice none 0 0) := cell_of_block HM.out rfl
            have z12 : wr.cell? ⟨w.heap.size, 12, none⟩ = some (.slice none 0 0) := cell_of_block HM.out rfl
            have z13 : wr.cell? ⟨w.heap.size, 13, none⟩ = some (.slice none 0 0) := cell_of_block HM.out rfl
            have f0 : wr.frozen? ⟨w.heap.size, 0, none⟩ = false := frozen_of_block HM.out
            have f1 : wr.frozen? ⟨w.heap.size, 1, none⟩ = false := frozen_of_block HM.out
            have f2 : wr.frozen? ⟨w.heap.size, 2, none⟩ = false := frozen_of_block HM.out
            have f3 : wr.frozen? ⟨w.heap.size, 3, none⟩ = false := frozen_of_block HM.out
            have f4 : wr.frozen? ⟨w.heap.size, 4, none⟩ = false := frozen_of_block HM.out
            have f5 : wr.frozen? ⟨w.heap.size, 5, none⟩ = false := frozen_of_block HM.out
            have f6 : wr.frozen? ⟨w.heap.size, 6, none⟩ = false := frozen_of_block HM.out
            have f7 : wr.frozen? ⟨w.heap.size, 7, none⟩ = false := frozen_of_block HM.out
            have f8 : wr.frozen? ⟨w.heap.size, 8, none⟩ = false := frozen_of_block HM.out
            have f9 : wr.frozen? ⟨w.heap.size, 9, none⟩ = false := frozen_of_block HM.out
            have f10 : wr.frozen? ⟨w.heap.size, 10, none⟩ = false := frozen_of_block HM.out
            have f11 : wr.frozen? ⟨w.heap.size, 11, none⟩ = false := frozen_of_block HM.out
            have f12 : wr.frozen? ⟨w.heap.size, 12, none⟩ = false := frozen_of_block HM.out
            have f13 : wr.frozen? ⟨w.heap.size, 13, none⟩ = false := frozen_of_block HM.out
            have y0 : wr.cell? ⟨w.heap.size + 1, 0, none⟩ = some (.int .i64 0) := cell_of_block HC.out rfl
            have y1 : wr.cell? ⟨w.heap.size + 1, 1, none⟩ = some (.int .i64 0) := cell_of_block HC.out rfl
            have y2 : wr.cell? ⟨w.heap.size + 1, 2, none⟩ = some (.int .i64 0) := cell_of_block HC.out rfl
            have y3 : wr.cell? ⟨w.heap.size + 1, 3, none⟩ = some (.int .i64 0) := cell_of_block HC.out rfl
            have s0 : wr.frozen? ⟨w.heap.size + 1, 0, none⟩ = false := frozen_of_block HC.out
            have s1 : wr.frozen? ⟨w.heap.size + 1, 1, none⟩ = false := frozen_of_block HC.out
            have s2 : wr.frozen? ⟨w.heap.size + 1, 2, none⟩ = false := frozen_of_block HC.out
            have s3 : wr.frozen? ⟨w.heap.size + 1, 3, none⟩ = false := frozen_of_block HC.out
            have x0 : wr.cell? ⟨w.heap.size + 1 + 1 + 1, 0, none⟩ = some (.int .u16 (I : Int)) := cell_of_block HG.out rfl
            have x1 : wr.cell? ⟨w.heap.size + 1 + 1 + 1, 1, none⟩ = some (.bool (unfl F 32768)) := cell_of_block HG.out rfl
            have x2 : wr.cell? ⟨w.heap.size + 1 + 1 + 1, 2, none⟩ = some (.int .i64 (unop F : Nat)) := cell_of_block HG.out rfl
            have x3 : wr.cell? ⟨w.heap.size + 1 + 1 + 1, 3, none⟩ = some (.bool (unfl F 1024)) := cell_of_block HG.out rfl
            have x4 : wr.cell? ⟨w.heap.size + 1 + 1 + 1, 4, none⟩ = some (.bool (unfl F 512)) := cell_of_block HG.out rfl
            have x5 : wr.cell? ⟨w.heap.size + 1 + 1 + 1, 5, none⟩ = some (.bool (unfl F 256)) := cell_of_block HG.out rfl
            have x6 : wr.cell? ⟨w.heap.size + 1 + 1 + 1, 6, none⟩ = some (.bool (unfl F 128)) := cell_of_block HG.out rfl
            have x7 : wr.cell? ⟨w.heap.size + 1 + 1 + 1, 7, none⟩ = some (.bool (unfl F 32)) := cell_of_block HG.out rfl
            have x8 : wr.cell? ⟨w.heap.size + 1 + 1 + 1, 8, none⟩ = some (.bool (unfl F 16)) := cell_of_block HG.out rfl
            have x9 : wr.cell? ⟨w.heap.size + 1 + 1 + 1, 9, none⟩ = some (.int .i64 (unrc F : Nat)) := cell_of_block HG.out rfl
            have x10 : wr.cell? ⟨w.heap.size + 1 + 1 + 1, 10, none⟩ = some (.slice none 0 0) := cell_of_block HG.out rfl
            have x11 : wr.cell? ⟨w.heap.size + 1 + 1 + 1, 11, none⟩ = some (.slice none 0 0) := cell_of_block HG.out rfl
            have x12 : wr.cell? ⟨w.heap.size + 1 + 1 + 1, 12, none⟩ = some (.slice none 0 0) := cell_of_block HG.out rfl
            have x13 : wr.cell? ⟨w.heap.size + 1 + 1 + 1, 13, none⟩ = some (.slice none 0 0) := cell_of_block HG.out rfl
            have t0 : wr.cell? ⟨w.heap.size + 1 + 1, 0, none⟩ = some (.int .i64 (C0 : Int)) := cell_of_block HN.out rfl
            have t1 : wr.cell? ⟨w.heap.size + 1 + 1, 1, none⟩ = some (.int .i64 (C1 : Int)) := cell_of_block HN.out rfl
            have t2 : wr.cell? ⟨w.heap.size + 1 + 1, 2, none⟩ = some (.int .i64 (C2 : Int)) := cell_of_block HN.out rfl
            have t3 : wr.cell? ⟨w.heap.size + 1 + 1, 3, none⟩ = some (.int .i64 (C3 : Int)) := cell_of_block HN.out rfl
            go_wp2_with fail
            go_region
            all_goals go_wp2_with fail
            refine bodyPost_ret (v := .tuple #[.agg #[.int .u16 (I : Int), .bool (unfl F 32768), .int .i64 (unop F : Nat), .bool (unfl F 1024), .bool (unfl F 512), .bool (unfl F 256), .bool (unfl F 128), .bool (unfl F 32), .bool (unfl F 16), .int .i64 (unrc F : Nat), .slice none 0 0, .slice none 0 0, .slice none 0 0, .slice none 0 0], .agg #[.int .i64 (C0 : Int), .int .i64 (C1 : Int), .int .i64 (C2 : Int), .int .i64 (C3 : Int)], .int .i64 0]) ?_ rfl (HF.out _ _ ⟨(fun h => by rw [HU.out] at h; cases h), fun _ => rfl, ?_⟩)
            · simp [results, Try.results19, go_sem, q0, q1, z0, z1, z2, z3, z4, z5, z6, z7, z8, z9, z10, z11, z12, z13, y0, y1, y2, y3]
            · refine Below.drew ?_
              iterate 18 refine Below.setCell ?_ (by simp) _
              exact HB.out
    · have K64 := fun W => Lib.hid (has64 Z3 b3 W)
      go_enter Try.func19, Try.ntmps19
      go_wp2_with fail
      refine (K64 _).out.mono ?_
      rintro e w1 ⟨rfl, rfl⟩
      rw [h6]
      go_wp2_with fail
      go_region
      all_goals go_wp2_with fail
      refine bodyPost_ret (v := .tuple #[.agg #[.int .u16 0, .bool false, .int .i64 0, .bool false, .bool false, .bool false, .bool false, .bool false, .bool false, .int .i64 0, .slice none 0 0, .slice none 0 0, .slice none 0 0, .slice none 0 0], .agg #[.int .i64 0, .int .i64 0, .int .i64 0, .int .i64 0], .int .i64 8]) ?_ rfl (HF.out _ _ ⟨fun _ => rfl, (fun h => by rw [HFL.out.2.2.2.2.2.2.1, h6] at h; cases h), ?_⟩)
      · simp [results, Try.results19, go_sem]
      · refine Below.drew ?_
        exact (((Below.refl _ _).alloc (Nat.le_refl _) _).alloc (by simp) _).alloc (by simp; omega) _
end Go.Proofs.Ytmlccnpondemiaa
