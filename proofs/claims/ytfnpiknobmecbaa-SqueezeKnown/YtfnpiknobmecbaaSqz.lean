/- SqueezeKnown's walk. -/
import Derived.Test.YtfnpiknobmecbaaSqz1
namespace Go.Proofs.Ytfnpiknobmecbaa
open Go.ChangeShapes Go.WideShapes Go.ChangeAt Go.RowKit Go.Maps
set_option linter.unusedVariables false
set_option linter.unusedSimpArgs false

theorem conv_back (s : ByteArray) (w : World) (hs : s.size ≤ 1000) : ∃ (C : Nat) (W' : World), (convert 9 27 (.string s)).run Try.prog w = .ok (.slice (some ⟨w.heap.size, 0, none⟩) s.size C) W' ∧ Hid (Rd W' (some ⟨w.heap.size, 0, none⟩) (nums s) ∧ s.size ≤ C ∧ C ≤ 9223372036854775807 ∧ Below w.heap.size w W') := by
  obtain ⟨zs, h, hb, ht, hl⟩ := conv_new s w
  have h2 := run_bytes_of_string (P := Try.prog) w 9 27 5 s Try.underlying9 Try.underlying27 Try.underlying5
  have hle := grownCap_le_maxLen w s.size 0 5 (by unfold maxLen; omega)
  have hC : zs.length = grownCap w s.size 0 5 := by
    rw [h] at h2
    injection h2 with h3 h4
    injection h3
  have hr := hb.rd s.size
  rw [ht] at hr
  exact ⟨zs.length, _, h, hr, hl, by rw [hC]; unfold maxLen at hle; omega, (Below.refl _ _).drew.alloc (Nat.le_refl _) _⟩
def txs : Nat → List Int
  | 0 => []
  | 1 => wx1
  | 2 => wx2
  | 3 => wx3
  | _ => wx4
def pls : Nat → List (ByteArray × Nat)
  | 0 => []
  | 1 => wp1
  | 2 => wp2
  | _ => wp3
set_option maxRecDepth 100000 in
set_option maxHeartbeats 16000000 in
theorem knownL (w : World) : Calls Try.prog 8 #[] w fun e w' => e = .returned (.bool true) ∧ Below w.heap.size w w' := by
  have KN := Lib.hid (new_any w)
  go_enter Try.func8, Try.ntmps8
  go_wp2_with fail
  refine KN.out.mono ?_
  rintro e w1 ⟨rfl, H1⟩
  obtain ⟨B, hB⟩ : ∃ B, w.heap.size = B := ⟨_, rfl⟩
  have HBB : Hid (w.heap.size = B) := hB
  rw [hB] at H1 ⊢
  obtain ⟨g, hgg⟩ : ∃ g, B + 1 = g := ⟨_, rfl⟩
  rw [hgg] at H1 ⊢
  clear hgg hB KN
  have HW1 : Hid (Wr B w1 g [] [] ∧ Below B w w1 ∧ B ≤ w1.heap.size) := ⟨H1.out.1, H1.out.2, by have := H1.out.2.size; rw [← HBB.out]; exact this⟩
  clear H1
  have HQ0 : Hid (Below w1.heap.size w1 (((((w1.alloc (.cells #[.string ⟨#[97]⟩, .string ⟨#[98]⟩] 9)).alloc (.cells #[.string ⟨#[99]⟩, .string ⟨#[98]⟩] 9)).alloc (.cells #[.string ⟨#[66]⟩] 9)).alloc (.cells #[.string ⟨#[97]⟩, .string ⟨#[98]⟩] 9)).alloc (.cells #[.slice (some ⟨w1.heap.size, 0, none⟩) 2 2, .slice (some ⟨w1.heap.size + 1, 0, none⟩) 2 2, .slice (some ⟨w1.heap.size + 1 + 1, 0, none⟩) 1 1, .slice (some ⟨w1.heap.size + 1 + 1 + 1, 0, none⟩) 2 2] 33)) ∧ (((((w1.alloc (.cells #[.string ⟨#[97]⟩, .string ⟨#[98]⟩] 9)).alloc (.cells #[.string ⟨#[99]⟩, .string ⟨#[98]⟩] 9)).alloc (.cells #[.string ⟨#[66]⟩] 9)).alloc (.cells #[.string ⟨#[97]⟩, .string ⟨#[98]⟩] 9)).alloc (.cells #[.slice (some ⟨w1.heap.size, 0, none⟩) 2 2, .slice (some ⟨w1.heap.size + 1, 0, none⟩) 2 2, .slice (some ⟨w1.heap.size + 1 + 1, 0, none⟩) 1 1, .slice (some ⟨w1.heap.size + 1 + 1 + 1, 0, none⟩) 2 2] 33)).heap[w1.heap.size]? = some (.cells #[.string ⟨#[97]⟩, .string ⟨#[98]⟩] 9) ∧ (((((w1.alloc (.cells #[.string ⟨#[97]⟩, .string ⟨#[98]⟩] 9)).alloc (.cells #[.string ⟨#[99]⟩, .string ⟨#[98]⟩] 9)).alloc (.cells #[.string ⟨#[66]⟩] 9)).alloc (.cells #[.string ⟨#[97]⟩, .string ⟨#[98]⟩] 9)).alloc (.cells #[.slice (some ⟨w1.heap.size, 0, none⟩) 2 2, .slice (some ⟨w1.heap.size + 1, 0, none⟩) 2 2, .slice (some ⟨w1.heap.size + 1 + 1, 0, none⟩) 1 1, .slice (some ⟨w1.heap.size + 1 + 1 + 1, 0, none⟩) 2 2] 33)).heap[w1.heap.size + 1]? = some (.cells #[.string ⟨#[99]⟩, .string ⟨#[98]⟩] 9) ∧ (((((w1.alloc (.cells #[.string ⟨#[97]⟩, .string ⟨#[98]⟩] 9)).alloc (.cells #[.string ⟨#[99]⟩, .string ⟨#[98]⟩] 9)).alloc (.cells #[.string ⟨#[66]⟩] 9)).alloc (.cells #[.string ⟨#[97]⟩, .string ⟨#[98]⟩] 9)).alloc (.cells #[.slice (some ⟨w1.heap.size, 0, none⟩) 2 2, .slice (some ⟨w1.heap.size + 1, 0, none⟩) 2 2, .slice (some ⟨w1.heap.size + 1 + 1, 0, none⟩) 1 1, .slice (some ⟨w1.heap.size + 1 + 1 + 1, 0, none⟩) 2 2] 33)).heap[w1.heap.size + 1 + 1]? = some (.cells #[.string ⟨#[66]⟩] 9) ∧ (((((w1.alloc (.cells #[.string ⟨#[97]⟩, .string ⟨#[98]⟩] 9)).alloc (.cells #[.string ⟨#[99]⟩, .string ⟨#[98]⟩] 9)).alloc (.cells #[.string ⟨#[66]⟩] 9)).alloc (.cells #[.string ⟨#[97]⟩, .string ⟨#[98]⟩] 9)).alloc (.cells #[.slice (some ⟨w1.heap.size, 0, none⟩) 2 2, .slice (some ⟨w1.heap.size + 1, 0, none⟩) 2 2, .slice (some ⟨w1.heap.size + 1 + 1, 0, none⟩) 1 1, .slice (some ⟨w1.heap.size + 1 + 1 + 1, 0, none⟩) 2 2] 33)).heap[w1.heap.size + 1 + 1 + 1]? = some (.cells #[.string ⟨#[97]⟩, .string ⟨#[98]⟩] 9) ∧ (((((w1.alloc (.cells #[.string ⟨#[97]⟩, .string ⟨#[98]⟩] 9)).alloc (.cells #[.string ⟨#[99]⟩, .string ⟨#[98]⟩] 9)).alloc (.cells #[.string ⟨#[66]⟩] 9)).alloc (.cells #[.string ⟨#[97]⟩, .string ⟨#[98]⟩] 9)).alloc (.cells #[.slice (some ⟨w1.heap.size, 0, none⟩) 2 2, .slice (some ⟨w1.heap.size + 1, 0, none⟩) 2 2, .slice (some ⟨w1.heap.size + 1 + 1, 0, none⟩) 1 1, .slice (some ⟨w1.heap.size + 1 + 1 + 1, 0, none⟩) 2 2] 33)).heap[w1.heap.size + 1 + 1 + 1 + 1]? = some (.cells #[.slice (some ⟨w1.heap.size, 0, none⟩) 2 2, .slice (some ⟨w1.heap.size + 1, 0, none⟩) 2 2, .slice (some ⟨w1.heap.size + 1 + 1, 0, none⟩) 1 1, .slice (some ⟨w1.heap.size + 1 + 1 + 1, 0, none⟩) 2 2] 33)) := five_below w1 _ _ _ _ _
  go_wp2_with fail
  generalize (((((w1.alloc (.cells #[.string ⟨#[97]⟩, .string ⟨#[98]⟩] 9)).alloc (.cells #[.string ⟨#[99]⟩, .string ⟨#[98]⟩] 9)).alloc (.cells #[.string ⟨#[66]⟩] 9)).alloc (.cells #[.string ⟨#[97]⟩, .string ⟨#[98]⟩] 9)).alloc (.cells #[.slice (some ⟨w1.heap.size, 0, none⟩) 2 2, .slice (some ⟨w1.heap.size + 1, 0, none⟩) 2 2, .slice (some ⟨w1.heap.size + 1 + 1, 0, none⟩) 1 1, .slice (some ⟨w1.heap.size + 1 + 1 + 1, 0, none⟩) 2 2] 33)) = W0 at *
  obtain ⟨N, hN⟩ : ∃ N, w1.heap.size = N := ⟨_, rfl⟩
  rw [hN] at HQ0 ⊢
  have HNN : Hid (w1.heap.size = N) := hN
  have HW0 : Hid (Wr B W0 g [] [] ∧ Below B w W0 ∧ B ≤ W0.heap.size) := by
    have hb : Below w1.heap.size w1 W0 := by rw [hN]; exact HQ0.out.1
    exact ⟨HW1.out.1.below hb, HW1.out.2.1.trans (hb.mono HW1.out.2.2), Nat.le_trans HW1.out.2.2 hb.size⟩
  clear hN
  go_loopw [35] (fun i wr => ∃ k : Nat, k ≤ 4 ∧ i = .int .i64 k ∧ Hid (Wr B wr g (txs k) (pls k) ∧ Fr B W0 wr)) (fun i _ => 4 - (intOf i).toNat)
  case atStart => exact ⟨0, by omega, rfl, HW0.out.1, Fr.refl _ _⟩
  case round =>
    obtain ⟨k, hk, rfl, HR⟩ := hrel
    have r4 : wr.heap[N + 1 + 1 + 1 + 1]? = some (.cells #[.slice (some ⟨N, 0, none⟩) 2 2, .slice (some ⟨N + 1, 0, none⟩) 2 2, .slice (some ⟨N + 1 + 1, 0, none⟩) 1 1, .slice (some ⟨N + 1 + 1 + 1, 0, none⟩) 2 2] 33) := (HR.out.2.oth _ _ _ _ HQ0.out.2.2.2.2.2 (by decide) (by decide)).trans HQ0.out.2.2.2.2.2
    have hl4 := box_lt r4
    have hBr : B ≤ wr.heap.size := Nat.le_trans HW0.out.2.2 HR.out.2.below.size
    have hcase : k = 0 ∨ k = 1 ∨ k = 2 ∨ k = 3 ∨ k = 4 := by omega
    rcases hcase with rfl | rfl | rfl | rfl | rfl
    · have c4 : wr.cell? ⟨N + 1 + 1 + 1 + 1, 0, none⟩ = some (.slice (some ⟨N, 0, none⟩) 2 2) := box_cell r4 0 _ rfl
      have K1 : Hid (Calls Try.prog 22 #[.pointer (some ⟨g, 0, none⟩), .slice (some ⟨N, 0, none⟩) 2 2, .bool true] wr (NmPost B g (0, txs 1, pls 1) wr)) := by
        have := wname_any B g (txs 0) (pls 0) (some ⟨N, 0, none⟩) 2 2 [⟨#[97]⟩, ⟨#[98]⟩] true wr HR.out.1 (arg2at ((HR.out.2.oth _ _ _ _ HQ0.out.2.1 (by decide) (by decide)).trans HQ0.out.2.1) (by decide) (by decide)) (by omega) hBr (by decide) (by simp [pls]) (by decide)
        rw [show wnm (txs 0) (pls 0) [⟨#[97]⟩, ⟨#[98]⟩] true = (0, txs 1, pls 1) from wn1] at this
        exact this
      clear r4
      go_wp2_with fail
      refine K1.out.mono ?_
      rintro e w2 ⟨rfl, H2⟩
      go_wp2_with fail
      refine ⟨⟨1, by omega, by go_num, H2.out.1, HR.out.2.trans H2.out.2⟩, by simp [intOf]⟩
    · have c4 : wr.cell? ⟨N + 1 + 1 + 1 + 1, 1, none⟩ = some (.slice (some ⟨N + 1, 0, none⟩) 2 2) := box_cell r4 1 _ rfl
      have K1 : Hid (Calls Try.prog 22 #[.pointer (some ⟨g, 0, none⟩), .slice (some ⟨N + 1, 0, none⟩) 2 2, .bool true] wr (NmPost B g (0, txs 2, pls 2) wr)) := by
        have := wname_any B g (txs 1) (pls 1) (some ⟨N + 1, 0, none⟩) 2 2 [⟨#[99]⟩, ⟨#[98]⟩] true wr HR.out.1 (arg2at ((HR.out.2.oth _ _ _ _ HQ0.out.2.2.1 (by decide) (by decide)).trans HQ0.out.2.2.1) (by decide) (by decide)) (by omega) hBr (by decide) (wp1_lt) (by decide)
        rw [show wnm (txs 1) (pls 1) [⟨#[99]⟩, ⟨#[98]⟩] true = (0, txs 2, pls 2) from wn2] at this
        exact this
      clear r4
      go_wp2_with fail
      refine K1.out.mono ?_
      rintro e w2 ⟨rfl, H2⟩
      go_wp2_with fail
      refine ⟨⟨2, by omega, by go_num, H2.out.1, HR.out.2.trans H2.out.2⟩, by simp [intOf]⟩
    · have c4 : wr.cell? ⟨N + 1 + 1 + 1 + 1, 2, none⟩ = some (.slice (some ⟨N + 1 + 1, 0, none⟩) 1 1) := box_cell r4 2 _ rfl
      have K1 : Hid (Calls Try.prog 22 #[.pointer (some ⟨g, 0, none⟩), .slice (some ⟨N + 1 + 1, 0, none⟩) 1 1, .bool true] wr (NmPost B g (0, txs 3, pls 3) wr)) := by
        have := wname_any B g (txs 2) (pls 2) (some ⟨N + 1 + 1, 0, none⟩) 1 1 [⟨#[66]⟩] true wr HR.out.1 (arg1at ((HR.out.2.oth _ _ _ _ HQ0.out.2.2.2.1 (by decide) (by decide)).trans HQ0.out.2.2.2.1) (by decide)) (by omega) hBr (by decide) (wp2_lt) (by decide)
        rw [show wnm (txs 2) (pls 2) [⟨#[66]⟩] true = (0, txs 3, pls 3) from wn3] at this
        exact this
      clear r4
      go_wp2_with fail
      refine K1.out.mono ?_
      rintro e w2 ⟨rfl, H2⟩
      go_wp2_with fail
      refine ⟨⟨3, by omega, by go_num, H2.out.1, HR.out.2.trans H2.out.2⟩, by simp [intOf]⟩
    · have c4 : wr.cell? ⟨N + 1 + 1 + 1 + 1, 3, none⟩ = some (.slice (some ⟨N + 1 + 1 + 1, 0, none⟩) 2 2) := box_cell r4 3 _ rfl
      have K1 : Hid (Calls Try.prog 22 #[.pointer (some ⟨g, 0, none⟩), .slice (some ⟨N + 1 + 1 + 1, 0, none⟩) 2 2, .bool true] wr (NmPost B g (0, txs 4, pls 4) wr)) := by
        have := wname_any B g (txs 3) (pls 3) (some ⟨N + 1 + 1 + 1, 0, none⟩) 2 2 [⟨#[97]⟩, ⟨#[98]⟩] true wr HR.out.1 (arg2at ((HR.out.2.oth _ _ _ _ HQ0.out.2.2.2.2.1 (by decide) (by decide)).trans HQ0.out.2.2.2.2.1) (by decide) (by decide)) (by omega) hBr (by decide) (wp3_lt) (by decide)
        rw [show wnm (txs 3) (pls 3) [⟨#[97]⟩, ⟨#[98]⟩] true = (0, txs 4, pls 4) from wn4] at this
        exact this
      clear r4
      go_wp2_with fail
      refine K1.out.mono ?_
      rintro e w2 ⟨rfl, H2⟩
      go_wp2_with fail
      refine ⟨⟨4, by omega, by go_num, H2.out.1, HR.out.2.trans H2.out.2⟩, by simp [intOf]⟩
    · clear r4
      obtain ⟨wz, hwz⟩ : ∃ x, x = wr := ⟨_, rfl⟩
      subst hwz
      have HX : Hid (Wr B (wz.alloc (.cells #[.string ⟨#[97]⟩, .string ⟨#[98]⟩] 9)) g wx4 wp3 ∧ Below B w (wz.alloc (.cells #[.string ⟨#[97]⟩, .string ⟨#[98]⟩] 9)) ∧ B ≤ (wz.alloc (.cells #[.string ⟨#[97]⟩, .string ⟨#[98]⟩] 9)).heap.size) := ⟨HR.out.1.below (new_below _ _), (HW0.out.2.1.trans HR.out.2.below).alloc hBr _, by simp; omega⟩
      have K5 := Lib.hid (wname_any B g wx4 wp3 (some ⟨wz.heap.size, 0, none⟩) 2 2 [⟨#[97]⟩, ⟨#[98]⟩] false _ HX.out.1 (arg2 wz ⟨#[97]⟩ ⟨#[98]⟩ (by decide) (by decide)) (by omega) HX.out.2.2 (by decide) wp3_lt (by decide))
      rw [wn5] at K5
      go_wp2_with fail
      refine K5.out.mono ?_
      rintro e w2 ⟨rfl, H2⟩
      have HB2 : Hid (Below B w w2 ∧ B ≤ w2.heap.size) := ⟨HX.out.2.1.trans H2.out.2.below, Nat.le_trans HX.out.2.2 H2.out.2.below.size⟩
      have HW2 : Hid (Wr B w2 g wx5 wp3) := H2.out.1
      clear K5 H2 HX HR HW0 HQ0 HW1
      have KA : Hid (∀ W, Below w2.heap.size w2 W → Calls Try.prog 12 #[.pointer (some ⟨g, 0, none⟩)] W fun e w' => ∃ a' c', e = .returned (.slice a' 19 c') ∧ Hid (Rd w' a' wx5 ∧ 19 ≤ c' ∧ c' ≤ 9223372036854775807 ∧ Below W.heap.size W w')) := fun W hW => all_rd B g 19 wx5 wp3 W (HW2.out.below hW) rfl (by omega)
      go_wp2_with fail
      refine (KA.out w2 (Below.refl _ _)).mono ?_
      rintro e w3 ⟨a3, c3, rfl, H3⟩
      have hcv : (convert 27 9 (.slice a3 19 c3)).run Try.prog w3 = .ok (.string ⟨#[1, 97, 1, 98, 0, 1, 99, 192, 2, 1, 66, 0, 192, 0, 1, 97, 1, 98, 0]⟩) w3 := by
        have := conv_rd a3 19 c3 wx5 w3 H3.out.1 rfl
        rw [str5] at this
        exact this
      go_wp2_with fail
      refine (KA.out w3 H3.out.2.2.2).mono ?_
      rintro e w4 ⟨a4, c4, rfl, H4⟩
      have HB4 : Hid (Below B w w4 ∧ B ≤ w4.heap.size) := by
        have q := H3.out.2.2.2.trans (H4.out.2.2.2.mono H3.out.2.2.2.size)
        exact ⟨HB2.out.1.trans (q.mono HB2.out.2), Nat.le_trans HB2.out.2 q.size⟩
      have KR : Hid (Calls Try.prog 17 #[.slice a4 19 c4, .int .i64 5, .bool false] w4 (SPo 0 [] 0 8 w4)) := (sread_any a4 19 c4 (5 : Nat) false wx5 w4 H4.out.1 rfl (by omega) H4.out.2.1 H4.out.2.2.1).mono fun e w' h => by rw [qr5] at h; exact SPost.po h rfl
      clear hcv KA
      go_wp2_with fail
      refine KR.out.mono ?_
      rintro e w5 ⟨v5, y5, rfl, H5⟩
      obtain ⟨o5, rfl, _⟩ := H5.out.1.shape
      have HB5 : Hid (Below B w w5 ∧ B ≤ w5.heap.size) := ⟨HB4.out.1.trans (H5.out.2.2.mono HB4.out.2), Nat.le_trans HB4.out.2 H5.out.2.2.size⟩
      have HL6 : Hid (Below B w (w5.alloc (.cells #[.string ⟨#[192, 0]⟩, .string ⟨#[1, 97, 192, 0]⟩, .string ⟨#[64]⟩, .string ⟨#[]⟩, .string ⟨#[1]⟩, .string ⟨#[192]⟩] 9)) ∧ B ≤ (w5.alloc (.cells #[.string ⟨#[192, 0]⟩, .string ⟨#[1, 97, 192, 0]⟩, .string ⟨#[64]⟩, .string ⟨#[]⟩, .string ⟨#[1]⟩, .string ⟨#[192]⟩] 9)).heap.size ∧ ∀ k, k < 6 → ∃ s, s ∈ bads ∧ s.size ≤ 1000 ∧ (w5.alloc (.cells #[.string ⟨#[192, 0]⟩, .string ⟨#[1, 97, 192, 0]⟩, .string ⟨#[64]⟩, .string ⟨#[]⟩, .string ⟨#[1]⟩, .string ⟨#[192]⟩] 9)).cell? ⟨w5.heap.size, k, none⟩ = some (.string s) ∧ w5.heap.size < (w5.alloc (.cells #[.string ⟨#[192, 0]⟩, .string ⟨#[1, 97, 192, 0]⟩, .string ⟨#[64]⟩, .string ⟨#[]⟩, .string ⟨#[1]⟩, .string ⟨#[192]⟩] 9)).heap.size) := by
        refine ⟨HB5.out.1.alloc HB5.out.2 _, by have := HB5.out.2; simp; omega, fun k hk => ?_⟩
        have hb := World.alloc_heap_new w5 (.cells #[.string ⟨#[192, 0]⟩, .string ⟨#[1, 97, 192, 0]⟩, .string ⟨#[64]⟩, .string ⟨#[]⟩, .string ⟨#[1]⟩, .string ⟨#[192]⟩] 9)
        have hc : k = 0 ∨ k = 1 ∨ k = 2 ∨ k = 3 ∨ k = 4 ∨ k = 5 := by omega
        rcases hc with rfl | rfl | rfl | rfl | rfl | rfl
        · exact ⟨⟨#[192, 0]⟩, by simp [bads], by decide, box_cell hb 0 _ rfl, by simp⟩
        · exact ⟨⟨#[1, 97, 192, 0]⟩, by simp [bads], by decide, box_cell hb 1 _ rfl, by simp⟩
        · exact ⟨⟨#[64]⟩, by simp [bads], by decide, box_cell hb 2 _ rfl, by simp⟩
        · exact ⟨⟨#[]⟩, by simp [bads], by decide, box_cell hb 3 _ rfl, by simp⟩
        · exact ⟨⟨#[1]⟩, by simp [bads], by decide, box_cell hb 4 _ rfl, by simp⟩
        · exact ⟨⟨#[192]⟩, by simp [bads], by decide, box_cell hb 5 _ rfl, by simp⟩
      clear KR H5 H4 H3
      go_wp2_with fail
      generalize w5.alloc (.cells #[.string ⟨#[192, 0]⟩, .string ⟨#[1, 97, 192, 0]⟩, .string ⟨#[64]⟩, .string ⟨#[]⟩, .string ⟨#[1]⟩, .string ⟨#[192]⟩] 9) = w6 at *
      obtain ⟨M, hM⟩ : ∃ M, w5.heap.size = M := ⟨_, rfl⟩
      rw [hM] at HL6 ⊢
      clear hM
      go_loopw [64] (fun i wr => ∃ k : Nat, k ≤ 6 ∧ i = .int .i64 k ∧ Hid (Below w6.heap.size w6 wr)) (fun i _ => 6 - (intOf i).toNat)
      case atStart => exact ⟨0, by omega, rfl, Below.refl _ _⟩
      case round =>
        obtain ⟨k, hk, rfl, HB⟩ := hrel
        by_cases hlt : k < 6
        · have hlt' : (k : Int) < 6 := by omega
          obtain ⟨s, hs1, hs2, hs3, hs4⟩ := HL6.out.2.2 k hlt
          have cs := cell_below HB.out hs4 hs3
          have hMl : M < wr.heap.size := Nat.lt_of_lt_of_le hs4 HB.out.size
          obtain ⟨C, W', hcv, HC⟩ := conv_back s wr hs2
          have KR : Hid (Calls Try.prog 17 #[.slice (some ⟨wr.heap.size, 0, none⟩) s.size C, .int .i64 0, .bool true] W' (SPo 0 [] 0 8 W')) := (sread_any _ s.size C (0 : Nat) true (nums s) W' HC.out.1 (nums_len s) (by omega) HC.out.2.1 HC.out.2.2.1).mono fun e w' h => by rw [bad_read s hs1] at h; exact SPost.po h rfl
          clear hs3 hs1
          generalize s.size = sz at *
          go_wp2_with fail
          refine KR.out.mono ?_
          rintro e w7 ⟨v7, y7, rfl, H7⟩
          obtain ⟨o7, rfl, _⟩ := H7.out.1.shape
          go_wp2_with fail
          have q := HB.out.trans (HC.out.2.2.2.mono HB.out.size)
          refine ⟨⟨k + 1, by omega, by go_num, q.trans (H7.out.2.2.mono q.size)⟩, by simp [intOf]; omega⟩
        · obtain rfl : k = 6 := by omega
          have HBr : Hid (Below B w wr ∧ B ≤ wr.heap.size) := ⟨HL6.out.1.trans (HB.out.mono HL6.out.2.1), Nat.le_trans HL6.out.2.1 HB.out.size⟩
          obtain ⟨wy, hwy⟩ : ∃ x, x = wr := ⟨_, rfl⟩
          subst hwy
          clear HL6 HB
          have KR1 : Hid (Calls Try.prog 17 #[.slice (some ⟨wy.heap.size, 0, none⟩) 1 1, .int .i64 0, .bool true] (wy.alloc (.cells #[.int .u8 0] 5)) (SPo 0 [] 1 0 (wy.alloc (.cells #[.int .u8 0] 5)))) := (sread_any _ 1 1 (0 : Nat) true [0] _ (one_rd wy 0 (by omega)) rfl (by omega) (by omega) (by omega)).mono fun e w' h => by rw [qr_root] at h; exact SPost.po h rfl
          have HX1 : Hid (Below B w (wy.alloc (.cells #[.int .u8 0] 5)) ∧ B ≤ (wy.alloc (.cells #[.int .u8 0] 5)).heap.size) := ⟨HBr.out.1.alloc HBr.out.2 _, by have := HBr.out.2; simp; omega⟩
          go_wp2_with fail
          refine KR1.out.mono ?_
          rintro e w8 ⟨v8, y8, rfl, H8⟩
          obtain ⟨o8, rfl, _⟩ := H8.out.1.shape
          have HB8 : Hid (Below B w w8 ∧ B ≤ w8.heap.size) := ⟨HX1.out.1.trans (H8.out.2.2.mono HX1.out.2), Nat.le_trans HX1.out.2 H8.out.2.2.size⟩
          have KR2 : Hid (Calls Try.prog 17 #[.slice (some ⟨w8.heap.size, 0, none⟩) 1 1, .int .i64 2, .bool true] (w8.alloc (.cells #[.int .u8 0] 5)) (SPo 0 [] 0 2 (w8.alloc (.cells #[.int .u8 0] 5)))) := (sread_any _ 1 1 (2 : Nat) true [0] _ (one_rd w8 0 (by omega)) rfl (by omega) (by omega) (by omega)).mono fun e w' h => by rw [qr_behind] at h; exact SPost.po h rfl
          have HX2 : Hid (Below B w (w8.alloc (.cells #[.int .u8 0] 5)) ∧ B ≤ (w8.alloc (.cells #[.int .u8 0] 5)).heap.size) := ⟨HB8.out.1.alloc HB8.out.2 _, by have := HB8.out.2; simp; omega⟩
          clear KR1
          go_wp2_with fail
          refine KR2.out.mono ?_
          rintro e w9 ⟨v9, y9, rfl, H9⟩
          obtain ⟨o9, rfl, _⟩ := H9.out.1.shape
          have HB9 : Hid (Below B w w9 ∧ B ≤ w9.heap.size) := ⟨HX2.out.1.trans (H9.out.2.2.mono HX2.out.2), Nat.le_trans HX2.out.2 H9.out.2.2.size⟩
          clear KR2
          go_wp2_with fail
          refine (new_any w9).mono ?_
          rintro e w10 ⟨rfl, H10⟩
          obtain ⟨C, hC⟩ : ∃ C, w9.heap.size = C := ⟨_, rfl⟩
          obtain ⟨h, hh⟩ : ∃ h, C + 1 = h := ⟨_, rfl⟩
          have HBC : Hid (B ≤ C ∧ w9.heap.size = C) := ⟨by rw [← hC]; exact HB9.out.2, hC⟩
          rw [hC, hh] at H10
          rw [hC, hh]
          have HV10 : Hid (Wr C w10 h [] [] ∧ C ≤ w10.heap.size ∧ Below C w9 w10) := ⟨H10.out.1, by have := H10.out.2.size; omega, H10.out.2⟩
          clear hh hC H10
          go_wp2_with (at_make; refine wpList_make_big _ rfl _ _ rfl 65535 _ rfl rfl rfl (by omega) ?_)
          intro W HRP
          obtain ⟨rp, hrl, hrr, hrb⟩ := HRP.out
          have HW10 : Hid (Wr C W h [] [] ∧ C ≤ W.heap.size ∧ Below C w9 W) := ⟨HV10.out.1.below hrb, Nat.le_trans HV10.out.2.1 hrb.size, HV10.out.2.2.trans (hrb.mono HV10.out.2.1)⟩
          have HRL : Hid (rp.length = 65535) := hrl
          have Kb := Lib.hid (bytes_big C h (some ⟨w10.heap.size, 0, none⟩) rp W HW10.out.1 HW10.out.2.1 hrr hrl (by simp))
          clear hrl hrr hrb HRP HV10
          go_wp2_with fail
          refine Kb.out.mono ?_
          rintro e w11 ⟨rfl, H11⟩
          have HV11 : Hid (C ≤ w11.heap.size ∧ Below C w9 w11) := ⟨Nat.le_trans HW10.out.2.1 H11.out.2.below.size, HW10.out.2.2.trans H11.out.2.below⟩
          have Kc := Lib.hid (bytes_more C h rp w11 H11.out.1 HV11.out.1 HRL.out)
          have HX11 : Hid (C ≤ (w11.alloc (.cells #[.int .u8 1] 5)).heap.size ∧ Below C w9 (w11.alloc (.cells #[.int .u8 1] 5))) := ⟨Nat.le_trans HV11.out.1 (new_below w11 _).size, HV11.out.2.alloc HV11.out.1 _⟩
          clear Kb HW10 H11 HV11
          go_wp2_with fail
          refine Kc.out.mono ?_
          rintro e w12 ⟨rfl, H12⟩
          have HV12 : Hid (C ≤ w12.heap.size ∧ Below C w9 w12) := ⟨Nat.le_trans HX11.out.1 H12.out.2.below.size, HX11.out.2.trans H12.out.2.below⟩
          have Kd : Hid (Calls Try.prog 22 #[.pointer (some ⟨h, 0, none⟩), .slice none 0 0, .bool true] w12 (NmPost C h (3, rp, []) w12)) := by
            have := wname_any C h rp [] none 0 0 [] true w12 H12.out.1 (arg_nil w12) (by omega) HV12.out.1 (by have := HRL.out; omega) (by simp) (by simp)
            rw [wn_root HRL.out] at this
            exact this
          clear Kc H12 HX11
          go_wp2_with fail
          refine Kd.out.mono ?_
          rintro e w13 ⟨rfl, H13⟩
          have HV13 : Hid (C ≤ w13.heap.size ∧ Below C w9 w13) := ⟨Nat.le_trans HV12.out.1 H13.out.2.below.size, HV12.out.2.trans H13.out.2.below⟩
          have Ke : Hid (Calls Try.prog 24 #[.pointer (some ⟨h, 0, none⟩), .int .i64 65534, .int .i64 1] w13 fun e w' => e = .returned (.int .i64 2) ∧ Hid (Below w13.heap.size w13 w')) := wset_at C h rp [] 65535 65534 1 w13 H13.out.1 HRL.out (by omega) (by omega) (by omega)
          have HWr : Hid (Wr C w13 h rp []) := H13.out.1
          clear Kd H13 HV12
          go_wp2_with fail
          refine Ke.out.mono ?_
          rintro e w14 ⟨rfl, H14⟩
          have HW14 : Hid (Wr C w14 h rp []) := HWr.out.below H14.out
          have HV14 : Hid (C ≤ w14.heap.size ∧ Below C w9 w14) := ⟨Nat.le_trans HV13.out.1 H14.out.size, HV13.out.2.trans (H14.out.mono HV13.out.1)⟩
          have Kf := Lib.hid (wset_big C h rp [] 0 65536 w14 HW14.out (by omega))
          clear Ke H14 HV13 HWr
          go_wp2_with fail
          refine Kf.out.mono ?_
          rintro e w15 ⟨rfl, H15⟩
          have HW15 : Hid (Wr C w15 h rp []) := HW14.out.below H15.out
          have HV15 : Hid (C ≤ w15.heap.size ∧ Below C w9 w15) := ⟨Nat.le_trans HV14.out.1 H15.out.size, HV14.out.2.trans (H15.out.mono HV14.out.1)⟩
          have Kg : Hid (Calls Try.prog 25 #[.pointer (some ⟨h, 0, none⟩), .int .i64 1] w15 fun e w' => e = .returned (.int .i64 0) ∧ Hid (Wr C w' h (rp.take 1) [] ∧ Fr C w15 w')) := wcut_yes C h rp 65535 1 w15 HW15.out HRL.out (by omega) (by omega) HV15.out.1
          clear Kf H15 HV14 HW14
          go_wp2_with fail
          refine Kg.out.mono ?_
          rintro e w16 ⟨rfl, H16⟩
          have HT1 : Hid ((rp.take 1).length = 1) := by
            have := HRL.out
            show (rp.take 1).length = 1
            rw [List.length_take]; omega
          have HW16 : Hid (Wr C w16 h (rp.take 1) []) := H16.out.1
          have HV16 : Hid (C ≤ w16.heap.size ∧ Below C w9 w16) := ⟨Nat.le_trans HV15.out.1 H16.out.2.below.size, HV15.out.2.trans H16.out.2.below⟩
          have Kh : Hid (Calls Try.prog 25 #[.pointer (some ⟨h, 0, none⟩), .int .i64 2] w16 fun e w' => e = .returned (.int .i64 2) ∧ Hid (Below w16.heap.size w16 w')) := wcut_no C h (rp.take 1) [] 1 2 w16 HW16.out HT1.out (by omega) (by omega)
          clear Kg H16 HV15 HW15
          go_wp2_with fail
          refine Kh.out.mono ?_
          rintro e w17 ⟨rfl, H17⟩
          have HW17 : Hid (Wr C w17 h (rp.take 1) []) := HW16.out.below H17.out
          have HV17 : Hid (C ≤ w17.heap.size ∧ Below C w9 w17) := ⟨Nat.le_trans HV16.out.1 H17.out.size, HV16.out.2.trans (H17.out.mono HV16.out.1)⟩
          clear Kh H17 HV16 HW16
          go_wp2_with fail
          refine (awake_any w17).mono ?_
          rintro e w18 ⟨rfl, H18⟩
          have HW18 : Hid (Wr C w18 h (rp.take 1) []) := HW17.out.below H18.out
          have HV18 : Hid (Below C w9 w18) := HV17.out.2.trans (H18.out.mono HV17.out.1)
          have Kl : Hid (Calls Try.prog 26 #[.pointer (some ⟨h, 0, none⟩)] w18 fun e w' => e = .returned (.int .i64 1) ∧ w' = w18) := by
            have := len_any C h (rp.take 1) [] w18 HW18.out
            rw [HT1.out] at this
            exact this
          clear H18 HV17 HW17
          go_wp2_with fail
          refine Kl.out.mono ?_
          rintro e w19 ⟨rfl, rfl⟩
          go_wp2_with fail
          have hfin : Below w.heap.size w w19 := by
            rw [HBB.out]
            exact HB9.out.1.trans (HV18.out.mono HBC.out.1)
          go_ret
          exact ⟨rfl, hfin⟩
end Go.Proofs.Ytfnpiknobmecbaa
