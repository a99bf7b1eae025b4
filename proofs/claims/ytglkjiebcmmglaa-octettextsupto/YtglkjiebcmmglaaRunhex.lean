/- Bytes out of digits, as the document finds them. -/
import Derived.Test.YtglkjiebcmmglaaRdig
namespace Go.Proofs.Ytglkjiebcmmglaa
open Go.ChangeShapes Go.WideShapes Go.ChangeAt Go.RowKit
set_option linter.unusedVariables false
set_option linter.unusedSimpArgs false

set_option maxHeartbeats 1000000 in
theorem refunhex_long (s : ByteArray) (w : World) (h : 131070 < s.size) (hs : s.size ≤ 9223372036854775807) :
    Calls Try.prog 23 #[.string s] w fun e w' => e = .returned (.tuple #[.slice none 0 0, .int .i64 3]) ∧ w' = w := by
  have h' : (131070 : Int) < (s.size : Int) := by omega
  go_enter Try.func23, Try.ntmps23
  go_wp2
  go_ret2
  exact ⟨rfl, rfl⟩
set_option maxHeartbeats 1000000 in
theorem refunhex_odd (s : ByteArray) (w : World) (h : s.size ≤ 131070) (ho : s.size % 2 = 1) :
    Calls Try.prog 23 #[.string s] w fun e w' => e = .returned (.tuple #[.slice none 0 0, .int .i64 110]) ∧ w' = w := by
  have h' : ¬ (131070 : Int) < (s.size : Int) := by omega
  have h2 : ((s.size : Int) % 2 != 0) = true := by rw [bne_iff_ne]; omega
  go_enter Try.func23, Try.ntmps23
  go_wp2
  go_ret2
  exact ⟨rfl, rfl⟩

set_option maxHeartbeats 1000000 in
theorem refunhex_even (s : ByteArray) (n : Nat) (w : World) (hn : s.size = 2 * n) (h : s.size ≤ 131070) :
    Calls Try.prog 23 #[.string s] w fun e w' => ((∃ k, k < n ∧ ¬ okp (nums s) k) ∧ e = .returned (.tuple #[.slice none 0 0, .int .i64 110]) ∧ Below w.heap.size w w') ∨
      ((∀ k, k < n → okp (nums s) k) ∧ ∃ ao ys, e = .returned (.tuple #[.slice ao n ys.length, .int .i64 0]) ∧ OwnA w.heap.size w' ao n ys ∧ ys.take n = prs (nums s) n ∧ Below w.heap.size w w') := by
  have HN : Hid (s.size = 2 * n) := hn
  have h1 : ¬ (131070 : Int) < (s.size : Int) := by omega
  have h2 : ((s.size : Int) % 2 != 0) = false := by rw [bne_eq_false_iff_eq]; omega
  have hn2 : n ≤ 65535 := by omega
  clear hn
  go_enter Try.func23, Try.ntmps23
  go_wp2_with fail
  go_loopw [4, 5] (fun v x wr => ∃ k i : Nat, k ≤ n ∧ Hid (i = 2 * k) ∧ x = .int .i64 i ∧ Hid (∃ ys, Own w.heap.size wr v k ys ∧ ys.take k = prs (nums s) k) ∧ Hid (Below w.heap.size w wr) ∧ Hid (∀ j, j < k → okp (nums s) j)) (fun _ x _ => s.size - (intOf x).toNat)
  case atStart => exact ⟨0, 0, Nat.zero_le _, rfl, rfl, ⟨[], .inl ⟨rfl, rfl, rfl⟩, rfl⟩, Below.refl _ _, fun j hj => absurd hj (by omega)⟩
  case round =>
    obtain ⟨k, i, hk, HI, rfl, HW, HB, HP⟩ := hrel
    by_cases hlt : k < n
    · have hi1 : i + 1 < s.size := by have := HI.out; have := HN.out; omega
      have hi0 : i < s.size := by omega
      have hi1' : (i : Int) + 1 < (s.size : Int) := by omega
      have hi0' : (i : Int) < (s.size : Int) := by omega
      have hw1 : IntKind.i64.wrap ((i : Int) + 1) = (i : Int) + 1 := by rw [IntKind.wrap_i64]; omega
      have HV0 : Hid (∀ W, Calls Try.prog 43 #[.int .u8 (s[i].toNat : Int)] W fun e w' => e = .returned (.int .i64 (wv (s[i].toNat : Int))) ∧ w' = W) := fun W => value_any _ W (by have := s[i].toNat_lt; omega)
      have HV1 : Hid (∀ W, Calls Try.prog 43 #[.int .u8 (s[i + 1].toNat : Int)] W fun e w' => e = .returned (.int .i64 (wv (s[i + 1].toNat : Int))) ∧ w' = W) := fun W => value_any _ W (by have := s[i + 1].toNat_lt; omega)
      have e0 : (nums s).getD (2 * k) 0 = (s[i].toNat : Int) := by rw [← HI.out]; exact nums_at s i hi0
      have e1 : (nums s).getD (2 * k + 1) 0 = (s[i + 1].toNat : Int) := by rw [← HI.out]; exact nums_at s (i + 1) hi1
      have HOK : Hid (okp (nums s) k ↔ 0 ≤ wv (s[i].toNat : Int) ∧ 0 ≤ wv (s[i + 1].toNat : Int)) := by unfold okp; rw [e0, e1]; exact Iff.rfl
      have HPV : Hid (pv (nums s) k = 16 * wv (s[i].toNat : Int) + wv (s[i + 1].toNat : Int)) := by unfold pv; rw [e0, e1, Int.mul_comm]; rfl
      have b0 := wv_bd (s[i].toNat : Int) (by have := s[i].toNat_lt; omega)
      have b1 := wv_bd (s[i + 1].toNat : Int) (by have := s[i + 1].toNat_lt; omega)
      clear e0 e1
      generalize wv (s[i].toNat : Int) = c0 at *
      generalize wv (s[i + 1].toNat : Int) = c1 at *
      go_wp2_with fail
      refine (HV0.out _).mono ?_
      rintro e w2 ⟨rfl, hw2⟩
      rw [hw2]
      clear hw2 w2
      go_wp2_with fail
      refine (HV1.out _).mono ?_
      rintro e w2 ⟨rfl, hw2⟩
      rw [hw2]
      clear hw2 w2
      by_cases ha : c0 < 0
      · go_wp2
        go_ret2
        exact .inl ⟨⟨k, hlt, fun h => by have := (HOK.out.1 h).1; omega⟩, rfl, HB.out⟩
      by_cases hb : c1 < 0
      · go_wp2
        go_ret2
        exact .inl ⟨⟨k, hlt, fun h => by have := (HOK.out.1 h).2; omega⟩, rfl, HB.out⟩
      obtain ⟨ys, hO, hT⟩ := HW.out
      have hnb : Below wr.heap.size wr (wr.alloc (.cells #[.int .u8 (16 * c0 + c1)] 5)) := ((Below.refl _ _).alloc (Nat.le_refl _) _)
      have HO2 : Hid (Own w.heap.size (wr.alloc (.cells #[.int .u8 (16 * c0 + c1)] 5)) u4 k ys ∧ ys.take k = prs (nums s) k) := ⟨hO.below hnb, hT⟩
      have HR2 : Hid (Rd (wr.alloc (.cells #[.int .u8 (16 * c0 + c1)] 5)) (some ⟨wr.heap.size, 0, none⟩) [16 * c0 + c1]) := (new_rd wr (16 * c0 + c1) (by omega))
      have HNB : Hid (Below wr.heap.size wr (wr.alloc (.cells #[.int .u8 (16 * c0 + c1)] 5))) := hnb
      clear hO hT hnb
      go_wp2_with (at_builtin; refine wpList_append_blk _ rfl _ _ rfl w.heap.size _ k ys rfl HO2.out.1 (some ⟨wr.heap.size, 0, none⟩) 1 1 [16 * c0 + c1] rfl HR2.out rfl (by simp) (by omega) (Nat.le_trans HB.out.size HNB.out.size) ?_; intro v' w' ys' hO' hT' hG')
      have hrow := HO2.out.1.lt
      refine ⟨⟨k + 1, i + 2, by omega, (show i + 2 = 2 * (k + 1) by have := HI.out; omega), by go_num, ⟨ys', hO'.out, ?_⟩, ?_, ?_⟩, by simp [intOf]; omega⟩
      · rw [hT'.out, HO2.out.2, prs_succ, HPV.out]
      · exact (HB.out.trans (HNB.out.mono HB.out.size)).grown hG' (Nat.le_trans HB.out.size HNB.out.size) hrow
      · intro j hj
        by_cases e : j = k
        · rw [e]; exact HOK.out.2 ⟨by omega, by omega⟩
        · exact HP.out j (by omega)
    · obtain rfl : k = n := by omega
      obtain ⟨ys, hO, hT⟩ := HW.out
      obtain ⟨ao, rfl, hoa⟩ := hO.addr
      have hge : (s.size : Int) ≤ (i : Int) := by have := HI.out; have := HN.out; omega
      have HF : Hid (OwnA w.heap.size wr ao k ys ∧ ys.take k = prs (nums s) k) := ⟨hoa, hT⟩
      clear hO hT hoa
      generalize hy : ys.length = yl
      have HY : Hid (ys.length = yl) := hy
      clear hy
      go_wp2
      go_ret2
      exact .inr ⟨HP.out, ao, ys, by rw [HY.out]; rfl, HF.out.1, HF.out.2, HB.out⟩
end Go.Proofs.Ytglkjiebcmmglaa
