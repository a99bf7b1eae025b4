/- Which bytes digits are, as the program finds them. -/
import Derived.Test.YtglkjiebcmmglaaDig
import Derived.Test.YtglkjiebcmmglaaLists
import Derived.Deep.QuietTactic
import Derived.BigQuiet
import Derived.Deep.RegionHeld3
namespace Go.Proofs.Ytglkjiebcmmglaa
open Go.ChangeShapes Go.WideShapes Go.ChangeAt Go.RowKit
set_option linter.unusedVariables false
set_option linter.unusedSimpArgs false

/-- The bytes of a text, as numbers. -/
def nums (s : ByteArray) : List Int := s.data.toList.map fun b => (b.toNat : Int)
theorem nums_len (s : ByteArray) : (nums s).length = s.size := by simp [nums]
theorem nums_at (s : ByteArray) (i : Nat) (h : i < s.size) : (nums s).getD i 0 = (s[i].toNat : Int) := by
  have h' : i < s.data.toList.length := by simpa using h
  simp [nums, List.getD_eq_getElem?_getD]
  rw [show s.data[i]? = some s[i] from Array.getElem?_eq_getElem h]
  rfl
theorem nums_bd (s : ByteArray) (i : Nat) : 0 ≤ (nums s).getD i 0 ∧ (nums s).getD i 0 ≤ 255 := by
  by_cases h : i < s.size
  · rw [nums_at s i h]; have := s[i].toNat_lt; omega
  · rw [List.getD_eq_getElem?_getD, List.getElem?_eq_none (by rw [nums_len]; omega)]; simp
/-- The worth of a pair of digits; whether both are digits; the first k pairs. -/
def pv (l : List Int) (k : Nat) : Int := wv (l.getD (2 * k) 0) * 16 + wv (l.getD (2 * k + 1) 0)
def okp (l : List Int) (k : Nat) : Prop := 0 ≤ wv (l.getD (2 * k) 0) ∧ 0 ≤ wv (l.getD (2 * k + 1) 0)
def prs (l : List Int) (k : Nat) : List Int := (List.range k).map (pv l)
theorem prs_succ (l : List Int) (k : Nat) : prs l (k + 1) = prs l k ++ [pv l k] := by simp [prs, List.range_succ]
theorem prs_len (l : List Int) (k : Nat) : (prs l k).length = k := by simp [prs]

theorem or16 (a b : Int) (ha : 0 ≤ a ∧ a < 16) (hb : 0 ≤ b ∧ b < 16) : bits .or .i64 (a * 16) b = a * 16 + b := by
  obtain ⟨m, rfl⟩ := Int.eq_ofNat_of_zero_le ha.1
  obtain ⟨n, rfl⟩ := Int.eq_ofNat_of_zero_le hb.1
  have : ∀ m : Nat, m < 16 → ∀ n : Nat, n < 16 → bits .or .i64 ((m : Int) * 16) (n : Int) = (m : Int) * 16 + (n : Int) := by decide +kernel
  exact this m (by omega) n (by omega)
theorem Own.below {B : Nat} {w w' : World} {v : Value} {n : Nat} {zs : List Int} (h : Own B w v n zs) (hb : Below w.heap.size w w') : Own B w' v n zs := by
  rcases h with h | ⟨g, h1, h2, h3, h4⟩
  · exact .inl h
  · exact .inr ⟨g, h1, h2, h3.below hb, h4⟩
theorem Own.lt {B : Nat} {w : World} {v : Value} {n : Nat} {zs : List Int} (h : Own B w v n zs) : ∀ g, v.ownBlock = some g → B ≤ g := by
  intro g hg
  rcases h with ⟨rfl, _⟩ | ⟨g', rfl, h2, _⟩
  · cases hg
  · have : g' = g := Option.some.inj hg
    omega
theorem new_rd (w : World) (z : Int) (hz : 0 ≤ z ∧ z ≤ 255) : Rd (w.alloc (.cells #[.int .u8 z] 5)) (some ⟨w.heap.size, 0, none⟩) [z] := by
  refine ⟨.inr ⟨w.heap.size, 0, rfl, by simp, fun i hi => ?_⟩, by simpa using hz⟩
  have : i = 0 := by simp at hi; omega
  subst this
  simp [go_sem]

set_option maxHeartbeats 1000000 in
theorem unhex_long (s : ByteArray) (w : World) (h : 131070 < s.size) (hs : s.size ≤ 9223372036854775807) :
    Calls Try.prog 22 #[.string s] w fun e w' => e = .returned (.tuple #[.slice none 0 0, .int .i64 3]) ∧ w' = w := by
  have h' : (131070 : Int) < (s.size : Int) := by omega
  go_enter Try.func22, Try.ntmps22
  go_wp2
  go_ret2
  exact ⟨rfl, rfl⟩
set_option maxHeartbeats 1000000 in
theorem unhex_odd (s : ByteArray) (w : World) (h : s.size ≤ 131070) (ho : s.size % 2 = 1) :
    Calls Try.prog 22 #[.string s] w fun e w' => e = .returned (.tuple #[.slice none 0 0, .int .i64 110]) ∧ w' = w := by
  have h' : ¬ (131070 : Int) < (s.size : Int) := by omega
  have h2 : ((s.size : Int) % 2 != 0) = true := by rw [bne_iff_ne]; omega
  go_enter Try.func22, Try.ntmps22
  go_wp2
  go_ret2
  exact ⟨rfl, rfl⟩

set_option maxHeartbeats 1000000 in
theorem unhex_even (s : ByteArray) (n : Nat) (w : World) (hn : s.size = 2 * n) (h : s.size ≤ 131070) :
    Calls Try.prog 22 #[.string s] w fun e w' => ((∃ k, k < n ∧ ¬ okp (nums s) k) ∧ e = .returned (.tuple #[.slice none 0 0, .int .i64 110]) ∧ Below w.heap.size w w') ∨
      ((∀ k, k < n → okp (nums s) k) ∧ ∃ ao ys, e = .returned (.tuple #[.slice ao n ys.length, .int .i64 0]) ∧ OwnA w.heap.size w' ao n ys ∧ ys.take n = prs (nums s) n ∧ Below w.heap.size w w') := by
  have HN : Hid (s.size = 2 * n) := hn
  have h1 : ¬ (131070 : Int) < (s.size : Int) := by omega
  have h2 : ((s.size : Int) % 2 != 0) = false := by rw [bne_eq_false_iff_eq]; omega
  have h3 : (s.size : Int) / 2 = (n : Int) := by omega
  have hn2 : n ≤ 65535 := by omega
  clear hn
  go_enter Try.func22, Try.ntmps22
  go_wp2_with (at_make; refine wpList_make_blk _ rfl _ _ rfl 0 n _ _ rfl rfl (by rfl) (by omega) (by omega) (by omega) ?_)
  have HO : Hid (Own w.heap.size (w.alloc (.cells (Array.replicate n (Value.int .u8 0)) 5)) (.slice (some ⟨w.heap.size, 0, none⟩) 0 n) 0 (List.replicate n 0) ∧ Below w.heap.size w (w.alloc (.cells (Array.replicate n (Value.int .u8 0)) 5))) := by
    refine ⟨.inr ⟨w.heap.size, by simp, Nat.le_refl _, ⟨by rw [heap_alloc_new]; simp, fun z hz => ?_⟩, Nat.zero_le _, by simp only [List.length_replicate, maxLen]; omega⟩, (Below.refl _ _).alloc (Nat.le_refl _) _⟩
    rw [(List.mem_replicate.1 hz).2]; omega
  go_loopw [4, 5] (fun v x wr => ∃ k i : Nat, k ≤ n ∧ Hid (i = 2 * k) ∧ x = .int .i64 i ∧ Hid (∃ ys, Own w.heap.size wr v k ys ∧ ys.take k = prs (nums s) k) ∧ Hid (Below w.heap.size w wr) ∧ Hid (∀ j, j < k → okp (nums s) j)) (fun _ x _ => s.size - (intOf x).toNat)
  case atStart => exact ⟨0, 0, Nat.zero_le _, rfl, rfl, ⟨_, HO.out.1, rfl⟩, HO.out.2, fun j hj => absurd hj (by omega)⟩
  case round =>
    obtain ⟨k, i, hk, HI, rfl, HW, HB, HP⟩ := hrel
    clear HO
    by_cases hlt : k < n
    · have hi1 : i + 1 < s.size := by have := HI.out; have := HN.out; omega
      have hi0 : i < s.size := by omega
      have hi1' : (i : Int) + 1 < (s.size : Int) := by omega
      have hi0' : (i : Int) < (s.size : Int) := by omega
      have hw1 : IntKind.i64.wrap ((i : Int) + 1) = (i : Int) + 1 := by rw [IntKind.wrap_i64]; omega
      go_wp2_with fail
      go_region_held3 (fun _ => True) (trivial) (first
        | (go_at_call 42; refine (worth_any _ _).mono ?_; rintro e w2 ⟨rfl, rfl⟩))
      all_goals
        have e0 : (nums s).getD (2 * k) 0 = (s[i].toNat : Int) := by rw [← HI.out]; exact nums_at s i hi0
        have e1 : (nums s).getD (2 * k + 1) 0 = (s[i + 1].toNat : Int) := by rw [← HI.out]; exact nums_at s (i + 1) hi1
        have HOK : Hid (okp (nums s) k ↔ 0 ≤ wv (s[i].toNat : Int) ∧ 0 ≤ wv (s[i + 1].toNat : Int)) := by unfold okp; rw [e0, e1]; exact Iff.rfl
        have HPV : Hid (pv (nums s) k = wv (s[i].toNat : Int) * 16 + wv (s[i + 1].toNat : Int)) := by unfold pv; rw [e0, e1]; rfl
        have b0 := wv_bd (s[i].toNat : Int) (by have := s[i].toNat_lt; omega)
        have b1 := wv_bd (s[i + 1].toNat : Int) (by have := s[i + 1].toNat_lt; omega)
        clear e0 e1
        generalize wv (s[i].toNat : Int) = c0 at *
        generalize wv (s[i + 1].toNat : Int) = c1 at *
        by_cases ha : c0 < 0
        · go_wp2
          go_ret2
          exact .inl ⟨⟨k, hlt, fun h => by have := (HOK.out.1 h).1; omega⟩, rfl, HB.out.drew⟩
        by_cases hb : c1 < 0
        · go_wp2
          go_ret2
          exact .inl ⟨⟨k, hlt, fun h => by have := (HOK.out.1 h).2; omega⟩, rfl, HB.out.drew⟩
        have hz := or16 c0 c1 (by omega) (by omega)
        have hz2 : (c0 * 16 + c1) % 256 = c0 * 16 + c1 := by omega
        obtain ⟨ys, hO, hT⟩ := HW.out
        have hnb : Below wr.heap.size wr (wr.alloc (.cells #[.int .u8 (c0 * 16 + c1)] 5)).drew := ((Below.refl _ _).alloc (Nat.le_refl _) _).drew
        have HO2 : Hid (Own w.heap.size (wr.alloc (.cells #[.int .u8 (c0 * 16 + c1)] 5)).drew u4 k ys ∧ ys.take k = prs (nums s) k) := ⟨hO.below hnb, hT⟩
        have HR2 : Hid (Rd (wr.alloc (.cells #[.int .u8 (c0 * 16 + c1)] 5)).drew (some ⟨wr.heap.size, 0, none⟩) [c0 * 16 + c1]) := (new_rd wr (c0 * 16 + c1) (by omega)).drew
        have HNB : Hid (Below wr.heap.size wr (wr.alloc (.cells #[.int .u8 (c0 * 16 + c1)] 5)).drew) := hnb
        clear hO hT hnb
        go_wp2_with (at_builtin; refine wpList_append_blk _ rfl _ _ rfl w.heap.size _ k ys rfl HO2.out.1 (some ⟨wr.heap.size, 0, none⟩) 1 1 [c0 * 16 + c1] rfl HR2.out rfl (by simp) (by omega) (Nat.le_trans HB.out.size HNB.out.size) ?_; intro v' w' ys' hO' hT' hG')
        have hrow := HO2.out.1.lt
        refine ⟨⟨k + 1, i + 2, by omega, (show i + 2 = 2 * (k + 1) by have := HI.out; omega), by go_num, ⟨ys', hO'.out, ?_⟩, ?_, ?_⟩, by simp [intOf]; omega⟩
        · rw [hT'.out, HO2.out.2, prs_succ, HPV.out]
        · exact (HB.out.trans (HNB.out.mono HB.out.size)).grown hG' (Nat.le_trans HB.out.size HNB.out.size) hrow
        · intro j hj
          by_cases e : j = k
          · rw [e]; exact HOK.out.2 ⟨by omega, by omega⟩
          · exact HP.out j (by omega)
    · obtain rfl : k = n := by omega
      obtain ⟨ys, hO, hT⟩ := HW.out
      obtain ⟨ao, rfl, hoa⟩ := hO.addr
      have hge : (s.size : Int) ≤ (i : Int) := by have := HI.out; have := HN.out; omega
      have HF : Hid (OwnA w.heap.size wr ao k ys ∧ ys.take k = prs (nums s) k) := ⟨hoa, hT⟩
      clear hO hT hoa
      generalize hy : ys.length = yl
      have HY : Hid (ys.length = yl) := hy
      clear hy
      go_wp2
      go_ret2
      exact .inr ⟨HP.out, ao, ys, by rw [HY.out]; rfl, HF.out.1, HF.out.2, HB.out⟩
end Go.Proofs.Ytglkjiebcmmglaa
