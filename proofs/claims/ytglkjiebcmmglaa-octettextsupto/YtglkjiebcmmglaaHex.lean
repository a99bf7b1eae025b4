/- Which digits bytes have, as the program tells them. -/
import Derived.Test.YtglkjiebcmmglaaBld
namespace Go.Proofs.Ytglkjiebcmmglaa
open Go.ChangeShapes Go.WideShapes Go.ChangeAt Go.RowKit
set_option linter.unusedVariables false
set_option linter.unusedSimpArgs false

theorem dig_at (d : Int) (h0 : 0 ≤ d) (h1 : d < 16) (w : World) : (Instr.index 9 (.string ⟨#[48, 49, 50, 51, 52, 53, 54, 55, 56, 57, 97, 98, 99, 100, 101, 102]⟩) (.int .u8 d)).run Try.prog w = .ok (.int .u8 (dg d)) w := by
  have : d = 0 ∨ d = 1 ∨ d = 2 ∨ d = 3 ∨ d = 4 ∨ d = 5 ∨ d = 6 ∨ d = 7 ∨ d = 8 ∨ d = 9 ∨ d = 10 ∨ d = 11 ∨ d = 12 ∨ d = 13 ∨ d = 14 ∨ d = 15 := by omega
  rcases this with rfl | rfl | rfl | rfl | rfl | rfl | rfl | rfl | rfl | rfl | rfl | rfl | rfl | rfl | rfl | rfl <;> (clear h0 h1; show Sem.run _ _ _ = Result.ok _ _; kernel_rfl)
theorem and15 (c : Int) (h : 0 ≤ c ∧ c ≤ 255) : bits .and .u8 c 15 = c % 16 := by
  obtain ⟨n, rfl⟩ := Int.eq_ofNat_of_zero_le h.1
  have : ∀ m : Nat, m < 256 → bits .and .u8 (m : Int) 15 = (m : Int) % 16 := by decide +kernel
  exact this n (by omega)
/-- The digits of bytes, as bytes. -/
def ub (z : Int) : UInt8 := UInt8.ofNat z.toNat
theorem ub_nat (z : Int) (h : 0 ≤ z ∧ z ≤ 255) : ((ub z).toNat : Int) = z := by simp [ub]; omega
def hexl (zs : List Int) : List UInt8 := zs.flatMap fun z => [ub (dg (z / 16)), ub (dg (z % 16))]
theorem hexl_snoc (zs : List Int) (z : Int) : hexl (zs ++ [z]) = hexl zs ++ [ub (dg (z / 16)), ub (dg (z % 16))] := by simp [hexl]
theorem hexl_len (zs : List Int) : (hexl zs).length = 2 * zs.length := by
  induction zs with
  | nil => rfl
  | cons z zs ih => simp only [hexl, List.flatMap_cons, List.length_append, List.length_cons, List.length_nil] at ih ⊢; omega
theorem cells_snoc (zs : List Int) (z : Int) (h : 0 ≤ z ∧ z ≤ 255) : Lib.byteCells (hexl (zs ++ [z])) = Lib.byteCells (hexl zs) ++ [.int .u8 (dg (z / 16))] ++ [.int .u8 (dg (z % 16))] := by
  have d1 := dg_bd (z / 16) (by omega)
  have d2 := dg_bd (z % 16) (by omega)
  rw [hexl_snoc, Lib.byteCells_append]
  simp [Lib.byteCells, ub_nat _ (show 0 ≤ dg (z / 16) ∧ dg (z / 16) ≤ 255 by omega), ub_nat _ (show 0 ≤ dg (z % 16) ∧ dg (z % 16) ≤ 255 by omega)]

set_option maxHeartbeats 1000000 in
theorem hex_any (a : Option Addr) (len cap : Nat) (zs : List Int) (w : World) (hr : Rd w a zs) (hl : zs.length = len) (hm : len ≤ 140737488351232) :
    Calls Try.prog 24 #[.slice a len cap] w fun e w' => e = .returned (.string ⟨(hexl zs).toArray⟩) ∧ Hid (Below w.heap.size w w') := by
  have HR : Hid (Rd w a zs) := hr
  have HL : Hid (zs.length = len) := hl
  have H0 : Hid (BB (w.alloc (.cells #[.pointer none, .slice none 0 0] 75)) w.heap.size (.pointer none) (.slice none 0 0) ∧ Below w.heap.size w (w.alloc (.cells #[.pointer none, .slice none 0 0] 75))) := ⟨heap_alloc_new _ _, (Below.refl _ _).alloc (Nat.le_refl _) _⟩
  have HG : Hid (∀ W, BB W w.heap.size (.pointer none) (.slice none 0 0) → Calls Try.prog 44 #[.pointer (some ⟨w.heap.size, 0, none⟩), .int .i64 (2 * (len : Int))] W fun e w' => e = .returned (.tuple #[]) ∧ Hid (BSt w.heap.size w' w.heap.size (2 * len) [] ∧ Below w.heap.size W w')) := by
    intro W hW
    have := bgrow w.heap.size w.heap.size (2 * len) W hW (by omega) (Nat.le_refl _)
    rw [show ((2 * len : Nat) : Int) = 2 * (len : Int) by omega] at this
    exact this
  clear hr hl
  go_enter Try.func24, Try.ntmps24
  go_wp2_with fail
  refine (HG.out _ H0.out.1).mono ?_
  rintro e w1 ⟨rfl, H1⟩
  have HS : Hid (BSt w.heap.size w1 w.heap.size (2 * len) (Lib.byteCells (hexl (zs.take 0))) ∧ Below w.heap.size w w1) := ⟨H1.out.1, H0.out.2.trans H1.out.2⟩
  clear H0 H1 HG
  go_wp2_with fail
  go_loopw [12] (fun x wr => ∃ k : Nat, k ≤ len ∧ x = .int .i64 k ∧ Hid (BSt w.heap.size wr w.heap.size (2 * len) (Lib.byteCells (hexl (zs.take k))) ∧ Below w.heap.size w wr)) (fun x _ => len - (intOf x).toNat)
  case atStart => exact ⟨0, Nat.zero_le _, rfl, HS⟩
  case round =>
    obtain ⟨k, hk, rfl, HW⟩ := hrel
    clear HS
    by_cases hlt : k < len
    · have hlt' : (k : Int) < (len : Int) := by omega
      have HRw : Hid (Rd wr a zs) := HR.out.below HW.out.2
      rcases HRw.out.1 with e1 | ⟨b, o, rfl, e1, e2⟩
      · have := HL.out; subst e1; simp at this; omega
      have hc := e2 k (by rw [HL.out]; exact hlt)
      have hb := HRw.out.bd k
      clear e2
      have hzk : zs.take (k + 1) = zs.take k ++ [zs.getD k 0] := take_snoc zs k (by rw [HL.out]; exact hlt)
      rw [List.getD_eq_getElem?_getD] at hb hc hzk
      have HZ : Hid (zs.take (k + 1) = zs.take k ++ [zs[k]?.getD 0] ∧ (zs.take k).length = k) := ⟨hzk, by rw [List.length_take, HL.out]; omega⟩
      clear hzk
      generalize zs[k]?.getD 0 = c at *
      have ha := and15 c hb
      have g1 := dig_at (c / 16) (by omega) (by omega)
      have g2 := dig_at (c % 16) (by omega) (by omega)
      have HC : Hid (Lib.byteCells (hexl (zs.take (k + 1))) = Lib.byteCells (hexl (zs.take k)) ++ [.int .u8 (dg (c / 16))] ++ [.int .u8 (dg (c % 16))] ∧ (Lib.byteCells (hexl (zs.take k))).length = 2 * k) := by
        refine ⟨by rw [HZ.out.1]; exact cells_snoc _ _ hb, ?_⟩
        rw [Lib.byteCells_length, hexl_len, HZ.out.2]
      go_wp2_with fail
      refine (bwrite w.heap.size w.heap.size (2 * len) _ (dg (c / 16)) _ HW.out.1 (by rw [HC.out.2]; omega) (Nat.le_refl _)).mono ?_
      rintro e w2 ⟨rfl, H2⟩
      go_wp2_with fail
      refine (bwrite w.heap.size w.heap.size (2 * len) _ (dg (c % 16)) _ H2.out.1 (by rw [List.length_append, HC.out.2, List.length_singleton]; omega) (Nat.le_refl _)).mono ?_
      rintro e w3 ⟨rfl, H3⟩
      clear g1 g2 ha hc
      go_wp2
      refine ⟨⟨k + 1, by omega, by go_num, ?_, ?_⟩, by simp [intOf]; omega⟩
      · rw [HC.out.1]; exact H3.out.1
      · exact (HW.out.2.trans H2.out.2).trans H3.out.2
    · have HB : Hid (BSt w.heap.size wr w.heap.size (2 * len) (Lib.byteCells (hexl zs)) ∧ (hexl zs).length = 2 * len) := by
        have e : zs.take k = zs := List.take_of_length_le (by rw [HL.out]; omega)
        have := HW.out.1
        rw [e] at this
        exact ⟨this, by rw [hexl_len, HL.out]⟩
      have hge : (len : Int) ≤ (k : Int) := by omega
      generalize hLL : hexl zs = L at *
      have HLL : Hid (hexl zs = L) := hLL
      clear hLL
      go_wp2_with fail
      refine (bstring w.heap.size w.heap.size (2 * len) L _ HB.out.1 HB.out.2 (by have := HB.out.2; omega)).mono ?_
      rintro e w2 ⟨rfl, H2⟩
      go_wp2
      go_ret
      exact ⟨by rw [HLL.out]; rfl, HW.out.2.trans H2.out⟩
end Go.Proofs.Ytglkjiebcmmglaa
