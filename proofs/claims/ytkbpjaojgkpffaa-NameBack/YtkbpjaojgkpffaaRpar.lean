/- Which label a text begins with, as the document reads it. -/
import Derived.Test.YtkbpjaojgkpffaaPar
namespace Go.Proofs.Ytkbpjaojgkpffaa
open Go.ChangeShapes Go.WideShapes Go.ChangeAt Go.RowKit
set_option linter.unusedVariables false
set_option linter.unusedSimpArgs false

theorem getD_drop (l : List Int) (p i : Nat) : (l.drop p).getD i 0 = l.getD (p + i) 0 := by
  simp [List.getD_eq_getElem?_getD, List.getElem?_drop]
theorem fr_at (s : ByteArray) (p : Nat) (h : p < s.size) : fr ((nums s).drop p) = if !vis (s[p].toNat : Int) then (0, 0) else if (s[p].toNat : Int) == 92 then esc ((nums s).drop p) else ((s[p].toNat : Int), 1) := by
  unfold fr
  rw [getD_drop, Nat.add_zero, nums_at s p h]

set_option maxRecDepth 100000 in
set_option maxHeartbeats 2000000 in
theorem rparse_any (s : ByteArray) (w : World) (hs : s.size ≤ 140737488355000) : Calls Try.prog 91 #[.string s] w (PPost s w) := by
  go_enter Try.func91, Try.ntmps91
  go_wp2_with fail
  go_loopw [5, 6] (fun v x wr => ∃ (p : Nat) (out : List Int), p ≤ s.size ∧ x = .int .i64 p ∧ Hid (go (nums s) 0 [] = go (nums s) p out ∧ out.length ≤ p) ∧ Hid (∃ ys, Own w.heap.size wr v out.length ys ∧ ys.take out.length = out) ∧ Hid (Below w.heap.size w wr)) (fun _ x _ => s.size - (intOf x).toNat)
  case atStart => exact ⟨0, [], Nat.zero_le _, rfl, ⟨rfl, Nat.le_refl _⟩, ⟨[], .inl ⟨rfl, rfl, rfl⟩, rfl⟩, Below.refl _ _⟩
  case round =>
    obtain ⟨p, out, hp, rfl, HG, HW, HB⟩ := hrel
    by_cases hlt : p < s.size ∧ (nums s).getD p 0 ≠ 46
    · obtain ⟨hlt, hd⟩ := hlt
      have HC : Hid (p < (nums s).length ∧ (nums s).getD p 0 ≠ 46) := ⟨by rw [nums_len]; exact hlt, hd⟩
      rw [nums_at s p hlt] at hd
      have hd' : ((s[p].toNat : Int) != 46) = true := bne_iff_ne.2 hd
      have hlt' : (p : Int) < (s.size : Int) := by omega
      clear hd
      have hol : out.length ≤ p := HG.out.2
      have HF : Hid (∀ W, Calls Try.prog 99 #[.string (s.extract p s.size)] W fun e w' => e = .returned (.tuple #[.int .u8 (esc ((nums s).drop p)).1, .int .i64 (esc ((nums s).drop p)).2]) ∧ Hid (Below W.heap.size W w')) := by
        intro W
        have := esc_any (s.extract p s.size) W (by simp; omega)
        rw [nums_extract] at this
        exact this
      have hfb := fr_bd ((nums s).drop p) (fun z hz => nums_all s z (List.mem_of_mem_drop hz)) (by rw [List.length_drop, nums_len]; omega)
      rw [List.length_drop, nums_len] at hfb
      have HS1 : Hid ((fr ((nums s).drop p)).2 ≤ 0 → go (nums s) 0 [] = none) := fun h => HG.out.1.trans (go_bad _ _ _ HC.out h)
      have HS2 : Hid (¬ (fr ((nums s).drop p)).2 ≤ 0 → go (nums s) 0 [] = go (nums s) (p + (fr ((nums s).drop p)).2.toNat) (out ++ [(fr ((nums s).drop p)).1])) := fun h => HG.out.1.trans (go_step _ _ _ HC.out h)
      have hfa := fr_at s p hlt
      by_cases h92 : (s[p].toNat : Int) = 92
      · have hfe : fr ((nums s).drop p) = esc ((nums s).drop p) := by rw [hfa, h92]; rfl
        have h92' : ((s[p].toNat : Int) == 92) = true := by rw [h92]; rfl
        rw [hfe] at hfb HS1 HS2
        clear hfa hfe h92
        generalize (esc ((nums s).drop p)).1 = c at *
        generalize (esc ((nums s).drop p)).2 = n at *
        go_wp2_with fail
        refine (HF.out _).mono ?_
        rintro e w1 ⟨rfl, HB1⟩
        have HB2 : Hid (Below w.heap.size w w1) := HB.out.trans (HB1.out.mono HB.out.size)
        have HW2 : Hid (∃ ys, Own w.heap.size w1 u5 out.length ys ∧ ys.take out.length = out) := by
          obtain ⟨ys, h1, h2⟩ := HW.out
          exact ⟨ys, h1.below HB1.out, h2⟩
        clear HW HB HB1
        by_cases hn : n = 0
        · subst hn
          have HQ : Hid (pres (nums s) = ([], 0, 120)) := pres_bad (HS1.out (Int.le_refl 0))
          clear HS1 HS2
          go_wp2
          go_ret3
          exact ⟨by rw [HQ.out]; rfl, HB2.out⟩
        · have hn' : (n == 0) = false := by simp [hn]
          obtain ⟨ys, hO, hT⟩ := HW2.out
          have hnb : Below w1.heap.size w1 (w1.alloc (.cells #[.int .u8 c] 5)) := (Below.refl _ _).alloc (Nat.le_refl _) _
          have HO2 : Hid (Own w.heap.size (w1.alloc (.cells #[.int .u8 c] 5)) u5 out.length ys ∧ ys.take out.length = out) := ⟨hO.below hnb, hT⟩
          have HR2 : Hid (Rd (w1.alloc (.cells #[.int .u8 c] 5)) (some ⟨w1.heap.size, 0, none⟩) [c]) := new_rd w1 c (by omega)
          have HNB : Hid (Below w1.heap.size w1 (w1.alloc (.cells #[.int .u8 c] 5))) := hnb
          clear hO hT hnb
          go_wp2_with (at_builtin; refine wpList_append_blk _ rfl _ _ rfl w.heap.size _ out.length ys rfl HO2.out.1 (some ⟨w1.heap.size, 0, none⟩) 1 1 [c] rfl HR2.out rfl (by simp) (by omega) (Nat.le_trans HB2.out.size HNB.out.size) ?_; intro v' w' ys' hO' hT' hG')
          have hrow := HO2.out.1.lt
          refine ⟨⟨p + n.toNat, out ++ [c], by omega, congrArg _ (by omega), ⟨HS2.out (by omega), by simp; omega⟩, ⟨ys', ?_, ?_⟩, ?_⟩, by simp [intOf]; omega⟩
          · rw [List.length_append]; exact hO'.out
          · rw [List.length_append]; exact hT'.out.trans (by rw [HO2.out.2])
          · exact (HB2.out.trans (HNB.out.mono HB2.out.size)).grown hG' (Nat.le_trans HB2.out.size HNB.out.size) hrow
      · have h92' : ((s[p].toNat : Int) == 92) = false := by simp [h92]
        rw [h92'] at hfa
        clear h92
        by_cases hv : vis (s[p].toNat : Int) = true
        · have hv' := (vis_iff _).1 hv
          have hfe : fr ((nums s).drop p) = ((s[p].toNat : Int), 1) := by rw [hfa, hv]; rfl
          rw [hfe] at hfb HS1 HS2
          clear hfa hfe HS1
          obtain ⟨n, hnn⟩ : ∃ n : Int, n = 1 := ⟨1, rfl⟩
          have HS2' : Hid (¬ (1 : Int) ≤ 0 → go (nums s) 0 [] = go (nums s) (p + 1) (out ++ [(s[p].toNat : Int)])) := HS2
          clear HS2
          have HW2 := HW
          have HB2 := HB
          clear HW HB
          obtain ⟨ys, hO, hT⟩ := HW2.out
          have hnb : Below wr.heap.size wr (wr.alloc (.cells #[.int .u8 (s[p].toNat : Int)] 5)) := (Below.refl _ _).alloc (Nat.le_refl _) _
          have HO2 : Hid (Own w.heap.size (wr.alloc (.cells #[.int .u8 (s[p].toNat : Int)] 5)) u5 out.length ys ∧ ys.take out.length = out) := ⟨hO.below hnb, hT⟩
          have HR2 : Hid (Rd (wr.alloc (.cells #[.int .u8 (s[p].toNat : Int)] 5)) (some ⟨wr.heap.size, 0, none⟩) [(s[p].toNat : Int)]) := new_rd wr _ (by omega)
          have HNB : Hid (Below wr.heap.size wr (wr.alloc (.cells #[.int .u8 (s[p].toNat : Int)] 5))) := hnb
          clear hO hT hnb hnn n hfb
          go_wp2_with (at_builtin; refine wpList_append_blk _ rfl _ _ rfl w.heap.size _ out.length ys rfl HO2.out.1 (some ⟨wr.heap.size, 0, none⟩) 1 1 [(s[p].toNat : Int)] rfl HR2.out rfl (by simp) (by omega) (Nat.le_trans HB2.out.size HNB.out.size) ?_; intro v' w' ys' hO' hT' hG')
          have hrow := HO2.out.1.lt
          refine ⟨⟨p + 1, out ++ [(s[p].toNat : Int)], by omega, congrArg _ (by omega), ⟨HS2'.out (by omega), by simp; omega⟩, ⟨ys', ?_, ?_⟩, ?_⟩, by simp [intOf]; omega⟩
          · rw [List.length_append]; exact hO'.out
          · rw [List.length_append]; exact hT'.out.trans (by rw [HO2.out.2])
          · exact (HB2.out.trans (HNB.out.mono HB2.out.size)).grown hG' (Nat.le_trans HB2.out.size HNB.out.size) hrow
        · have hv' : ¬ ((33 : Int) ≤ (s[p].toNat : Int) ∧ (s[p].toNat : Int) ≤ (126 : Int)) := fun h => hv ((vis_iff _).2 h)
          have hv2 : vis (s[p].toNat : Int) = false := by simpa using hv
          have hfe : fr ((nums s).drop p) = (0, 0) := by rw [hfa, hv2]; rfl
          rw [hfe] at HS1
          have HQ : Hid (pres (nums s) = ([], 0, 120)) := pres_bad (HS1.out (Int.le_refl 0))
          clear hfa hfe HS1 HS2 hfb hv hv2
          have hor : (s[p].toNat : Int) < 33 ∨ 126 < (s[p].toNat : Int) := by omega
          rcases hor with ho | ho
          all_goals
            go_wp2
            go_ret3
            exact ⟨by rw [HQ.out]; rfl, HB.out⟩
    · have HS : Hid (go (nums s) 0 [] = some (out, p)) := HG.out.1.trans (go_stop _ _ _ (by rw [nums_len]; exact hlt))
      obtain ⟨ys, hO, hT⟩ := HW.out
      obtain ⟨ao, rfl, hoa⟩ := hO.addr
      have hrd := hoa.rdTake out.length
      rw [hT] at hrd
      have hcv := conv_rd ao out.length ys.length out wr hrd rfl
      have HK : Hid (∀ W, Calls Try.prog 55 #[.string ⟨(txt out).toArray⟩] W fun e w' => e = .returned (.int .i64 (chk out.length)) ∧ w' = W) := by
        intro W
        have := rchk_any ⟨(txt out).toArray⟩ W (by rw [txt_size]; have := HG.out.2; omega)
        rw [txt_size] at this
        exact this
      clear hO hT hoa hrd
      have HX : Hid (chk out.length = 0 → pres (nums s) = (out, (p : Int), 0)) := fun h => pres_ok HS.out h
      have HY : Hid (¬ chk out.length = 0 → pres (nums s) = ([], 0, 4) ∧ chk out.length = 4) := fun h => pres_no HS.out h
      generalize chk out.length = k at *
      have hor : (s.size : Int) ≤ (p : Int) ∨ (∃ h : p < s.size, (s[p].toNat : Int) = 46) := by
        by_cases h : p < s.size
        · right
          refine ⟨h, ?_⟩
          rw [← nums_at s p h]
          exact Classical.byContradiction fun hne => hlt ⟨h, hne⟩
        · left; omega
      clear hlt
      generalize out.length = ol at *
      generalize ys.length = yl at *
      rcases hor with hge | ⟨hlt, hd⟩
      · by_cases hk : k = 0
        · have HQ : Hid (pres (nums s) = (out, (p : Int), 0)) := HX.out hk
          clear HX HY
          subst hk
          go_wp2_with fail
          refine (HK.out _).mono ?_
          rintro e w1 ⟨rfl, rfl⟩
          go_wp2
          go_ret3
          exact ⟨by rw [HQ.out]; rfl, HB.out⟩
        · obtain ⟨hq, hk4⟩ := HY.out hk
          have HQ : Hid (pres (nums s) = ([], 0, 4)) := hq
          clear hq hk HX HY
          subst hk4
          go_wp2_with fail
          refine (HK.out _).mono ?_
          rintro e w1 ⟨rfl, rfl⟩
          go_wp2
          go_ret3
          exact ⟨by rw [HQ.out]; rfl, HB.out⟩
      · have hd' : ((s[p].toNat : Int) != 46) = false := by rw [hd]; rfl
        have hlt' : (p : Int) < (s.size : Int) := by omega
        clear hd
        by_cases hk : k = 0
        · have HQ : Hid (pres (nums s) = (out, (p : Int), 0)) := HX.out hk
          clear HX HY
          subst hk
          go_wp2_with fail
          refine (HK.out _).mono ?_
          rintro e w1 ⟨rfl, rfl⟩
          go_wp2
          go_ret3
          exact ⟨by rw [HQ.out]; rfl, HB.out⟩
        · obtain ⟨hq, hk4⟩ := HY.out hk
          have HQ : Hid (pres (nums s) = ([], 0, 4)) := hq
          clear hq hk HX HY
          subst hk4
          go_wp2_with fail
          refine (HK.out _).mono ?_
          rintro e w1 ⟨rfl, rfl⟩
          go_wp2
          go_ret3
          exact ⟨by rw [HQ.out]; rfl, HB.out⟩
end Go.Proofs.Ytkbpjaojgkpffaa
