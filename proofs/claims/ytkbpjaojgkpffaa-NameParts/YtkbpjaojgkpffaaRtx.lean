/- A label's text and the order of two, as the document has them. -/
import Derived.Test.YtkbpjaojgkpffaaTxt
import Derived.Test.YtkbpjaojgkpffaaOrd
namespace Go.Proofs.Ytkbpjaojgkpffaa
open Go.ChangeShapes Go.WideShapes Go.ChangeAt Go.RowKit
set_option linter.unusedVariables false
set_option linter.unusedSimpArgs false

theorem new_rd4 (w : World) (a b c d : Int) (ha : 0 ≤ a ∧ a ≤ 255) (hb : 0 ≤ b ∧ b ≤ 255) (hc : 0 ≤ c ∧ c ≤ 255) (hd : 0 ≤ d ∧ d ≤ 255) : Rd (w.alloc (.cells #[.int .u8 a, .int .u8 b, .int .u8 c, .int .u8 d] 5)) (some ⟨w.heap.size, 0, none⟩) [a, b, c, d] := by
  refine ⟨.inr ⟨w.heap.size, 0, rfl, by simp, fun i hi => ?_⟩, by simp only [List.mem_cons, List.mem_nil_iff, or_false]; omega⟩
  have : i = 0 ∨ i = 1 ∨ i = 2 ∨ i = 3 := by simp at hi; omega
  rcases this with rfl | rfl | rfl | rfl <;> simp [go_sem]

set_option maxRecDepth 100000 in
set_option maxHeartbeats 2000000 in
theorem rtext_any (s : ByteArray) (w : World) (hs : s.size ≤ 35184372088000) :
    Calls Try.prog 71 #[.string s] w fun e w' => e = .returned (.string ⟨(txt (tx (nums s))).toArray⟩) ∧ Hid (Below w.heap.size w w') := by
  go_enter Try.func71, Try.ntmps71
  go_wp2_with fail
  go_loopw [3, 4] (fun v x wr => ∃ k : Nat, k ≤ s.size ∧ x = .int .i64 k ∧ Hid (∃ ys, Own w.heap.size wr v (tx ((nums s).take k)).length ys ∧ ys.take (tx ((nums s).take k)).length = tx ((nums s).take k)) ∧ Hid (Below w.heap.size w wr)) (fun _ x _ => s.size - (intOf x).toNat)
  case atStart => exact ⟨0, Nat.zero_le _, rfl, ⟨[], .inl ⟨rfl, rfl, rfl⟩, rfl⟩, Below.refl _ _⟩
  case round =>
    obtain ⟨k, hk, rfl, HW, HB⟩ := hrel
    by_cases hlt : k < s.size
    · have hlt' : (k : Int) < (s.size : Int) := by omega
      have hbd := nums_bd s k
      have HT : Hid ((nums s).take (k + 1) = (nums s).take k ++ [(nums s).getD k 0]) := take_snoc _ _ (by rw [nums_len]; exact hlt)
      rw [nums_at s k hlt] at hbd HT
      have hln : (tx ((nums s).take k)).length ≤ 4 * k := by
        have h1 := tx_len ((nums s).take k)
        have h2 : ((nums s).take k).length ≤ k := by simp; omega
        omega
      have HN : Hid (tx ((nums s).take (k + 1)) = tx ((nums s).take k) ++ tx1 (s[k].toNat : Int)) := by show _ = _; rw [HT.out, tx_snoc]
      obtain ⟨ys, hO, hT⟩ := HW.out
      have HO : Hid (Own w.heap.size wr u3 (tx ((nums s).take k)).length ys ∧ ys.take (tx ((nums s).take k)).length = tx ((nums s).take k)) := ⟨hO, hT⟩
      clear hO hT
      generalize hL : tx ((nums s).take k) = L at *
      have hbs : w.heap.size ≤ wr.heap.size := HB.out.size
      by_cases hu : (s[k].toNat : Int) < 33 ∨ 126 < (s[k].toNat : Int)
      · have HX : Hid (tx1 (s[k].toNat : Int) = [92, 48 + (s[k].toNat : Int) / 100, 48 + (s[k].toNat : Int) / 10 % 10, 48 + (s[k].toNat : Int) % 10]) := by show _ = _; unfold tx1; rw [if_pos hu]
        have hnb : Below wr.heap.size wr (wr.alloc (.cells #[.int .u8 92, .int .u8 (48 + (s[k].toNat : Int) / 100), .int .u8 (48 + (s[k].toNat : Int) / 10 % 10), .int .u8 (48 + (s[k].toNat : Int) % 10)] 5)) := (Below.refl _ _).alloc (Nat.le_refl _) _
        have HO2 : Hid (Own w.heap.size (wr.alloc (.cells #[.int .u8 92, .int .u8 (48 + (s[k].toNat : Int) / 100), .int .u8 (48 + (s[k].toNat : Int) / 10 % 10), .int .u8 (48 + (s[k].toNat : Int) % 10)] 5)) u3 L.length ys ∧ ys.take L.length = L) := ⟨HO.out.1.below hnb, HO.out.2⟩
        have HR2 : Hid (Rd (wr.alloc (.cells #[.int .u8 92, .int .u8 (48 + (s[k].toNat : Int) / 100), .int .u8 (48 + (s[k].toNat : Int) / 10 % 10), .int .u8 (48 + (s[k].toNat : Int) % 10)] 5)) (some ⟨wr.heap.size, 0, none⟩) [92, 48 + (s[k].toNat : Int) / 100, 48 + (s[k].toNat : Int) / 10 % 10, 48 + (s[k].toNat : Int) % 10]) := new_rd4 wr _ _ _ _ (by omega) (by omega) (by omega) (by omega)
        have HNB : Hid (Below wr.heap.size wr (wr.alloc (.cells #[.int .u8 92, .int .u8 (48 + (s[k].toNat : Int) / 100), .int .u8 (48 + (s[k].toNat : Int) / 10 % 10), .int .u8 (48 + (s[k].toNat : Int) % 10)] 5))) := hnb
        clear hnb
        rcases hu with hu | hu
        all_goals
          go_wp2_with (at_builtin; refine wpList_append_blk _ rfl _ _ rfl w.heap.size _ L.length ys rfl HO2.out.1 (some ⟨wr.heap.size, 0, none⟩) 4 4 [92, 48 + (s[k].toNat : Int) / 100, 48 + (s[k].toNat : Int) / 10 % 10, 48 + (s[k].toNat : Int) % 10] rfl HR2.out rfl (by simp) (by omega) (Nat.le_trans HB.out.size HNB.out.size) ?_; intro v' w' ys' hO' hT' hG')
          have hrow := HO2.out.1.lt
          refine ⟨⟨k + 1, by omega, by go_num, ⟨ys', ?_, ?_⟩, ?_⟩, by simp [intOf]; omega⟩
          · rw [HN.out, HX.out, List.length_append]; exact hO'.out
          · rw [HN.out, HX.out, List.length_append]; exact hT'.out.trans (by rw [HO2.out.2])
          · exact (HB.out.trans (HNB.out.mono HB.out.size)).grown hG' (Nat.le_trans HB.out.size HNB.out.size) hrow
      · have h1 : ¬ (s[k].toNat : Int) < 33 := by omega
        have h2 : ¬ 126 < (s[k].toNat : Int) := by omega
        have HSP : Hid (∀ W, Calls Try.prog 88 #[.int .u8 (s[k].toNat : Int)] W fun e w' => e = .returned (.bool (spc (s[k].toNat : Int))) ∧ w' = W) := fun W => special_any _ W
        by_cases hp : spc (s[k].toNat : Int) = true
        · have HX : Hid (tx1 (s[k].toNat : Int) = [92, (s[k].toNat : Int)]) := by show _ = _; unfold tx1; rw [if_neg hu, if_pos hp]
          rw [hp] at HSP
          clear hu hp
          have hnb : Below wr.heap.size wr (wr.alloc (.cells #[.int .u8 92] 5)) := (Below.refl _ _).alloc (Nat.le_refl _) _
          have HO2 : Hid (Own w.heap.size (wr.alloc (.cells #[.int .u8 92] 5)) u3 L.length ys ∧ ys.take L.length = L) := ⟨HO.out.1.below hnb, HO.out.2⟩
          have HR2 : Hid (Rd (wr.alloc (.cells #[.int .u8 92] 5)) (some ⟨wr.heap.size, 0, none⟩) [92]) := new_rd wr _ (by omega)
          have HNB : Hid (Below wr.heap.size wr (wr.alloc (.cells #[.int .u8 92] 5))) := hnb
          clear hnb
          go_wp2_with fail
          refine (HSP.out _).mono ?_
          rintro e w1 ⟨rfl, rfl⟩
          go_wp2_with (at_builtin; first
            | (refine wpList_append_blk _ rfl _ _ rfl w.heap.size _ L.length ys rfl HO2.out.1 (some ⟨w1.heap.size, 0, none⟩) 1 1 [92] rfl HR2.out rfl (by simp) (by omega) (Nat.le_trans HB.out.size HNB.out.size) ?_; intro v' w' ys' hO' hT' hG'; have HB2 : Hid (Below w.heap.size w w') := ((HB.out.trans (HNB.out.mono HB.out.size)).grown hG' (Nat.le_trans HB.out.size HNB.out.size) HO2.out.1.lt); clear HO2 HR2 HNB)
            | (refine wpList_append_blk _ rfl _ _ rfl w.heap.size _ (L.length + 1) ys' rfl (hO'.out.below ((Below.refl _ _).alloc (Nat.le_refl _) _)) (some ⟨w'.heap.size, 0, none⟩) 1 1 [(s[k].toNat : Int)] rfl (new_rd w' _ (by omega)) rfl (by simp) (by omega) (by simp; have := HB2.out.size; omega) ?_; intro v2 w2 ys2 hO2 hT2 hG2))
          have hrow : ∀ g, v'.ownBlock = some g → w.heap.size ≤ g := hO'.out.lt
          refine ⟨⟨k + 1, by omega, by go_num, ⟨ys2, ?_, ?_⟩, ?_⟩, by simp [intOf]; omega⟩
          · rw [HN.out, HX.out, List.length_append]; exact hO2.out
          · rw [HN.out, HX.out, List.length_append]; exact hT2.out.trans (by rw [hT'.out, HO.out.2]; simp)
          · exact (HB2.out.alloc HB2.out.size _).grown hG2 (HB2.out.alloc HB2.out.size _).size hrow
        · have hp' : spc (s[k].toNat : Int) = false := by simpa using hp
          have HX : Hid (tx1 (s[k].toNat : Int) = [(s[k].toNat : Int)]) := by show _ = _; unfold tx1; rw [if_neg hu, hp']; rfl
          rw [hp'] at HSP
          clear hu hp hp'
          have hnb : Below wr.heap.size wr (wr.alloc (.cells #[.int .u8 (s[k].toNat : Int)] 5)) := (Below.refl _ _).alloc (Nat.le_refl _) _
          have HO2 : Hid (Own w.heap.size (wr.alloc (.cells #[.int .u8 (s[k].toNat : Int)] 5)) u3 L.length ys ∧ ys.take L.length = L) := ⟨HO.out.1.below hnb, HO.out.2⟩
          have HR2 : Hid (Rd (wr.alloc (.cells #[.int .u8 (s[k].toNat : Int)] 5)) (some ⟨wr.heap.size, 0, none⟩) [(s[k].toNat : Int)]) := new_rd wr _ (by omega)
          have HNB : Hid (Below wr.heap.size wr (wr.alloc (.cells #[.int .u8 (s[k].toNat : Int)] 5))) := hnb
          clear hnb
          go_wp2_with fail
          refine (HSP.out _).mono ?_
          rintro e w1 ⟨rfl, rfl⟩
          go_wp2_with (at_builtin; refine wpList_append_blk _ rfl _ _ rfl w.heap.size _ L.length ys rfl HO2.out.1 (some ⟨w1.heap.size, 0, none⟩) 1 1 [(s[k].toNat : Int)] rfl HR2.out rfl (by simp) (by omega) (Nat.le_trans HB.out.size HNB.out.size) ?_; intro v' w' ys' hO' hT' hG')
          have hrow := HO2.out.1.lt
          refine ⟨⟨k + 1, by omega, by go_num, ⟨ys', ?_, ?_⟩, ?_⟩, by simp [intOf]; omega⟩
          · rw [HN.out, HX.out, List.length_append]; exact hO'.out
          · rw [HN.out, HX.out, List.length_append]; exact hT'.out.trans (by rw [HO2.out.2])
          · exact (HB.out.trans (HNB.out.mono HB.out.size)).grown hG' (Nat.le_trans HB.out.size HNB.out.size) hrow
    · obtain ⟨ys, hO, hT⟩ := HW.out
      have ek : (nums s).take k = nums s := List.take_of_length_le (by rw [nums_len]; omega)
      rw [ek] at hO hT
      obtain ⟨ao, rfl, hoa⟩ := hO.addr
      have hrd := hoa.rdTake (tx (nums s)).length
      rw [hT] at hrd
      have hcv := conv_rd ao (tx (nums s)).length ys.length (tx (nums s)) wr hrd rfl
      have hge : (s.size : Int) ≤ (k : Int) := by omega
      clear hO hT hoa hrd ek
      generalize ys.length = yl at *
      generalize (tx (nums s)).length = tl at *
      go_wp2
      go_ret
      exact ⟨rfl, HB.out⟩

theorem cb_step (a b : ByteArray) (i : Nat) (ha : i < a.size) (hb : i < b.size) : Lib.compareBytes (a.data.toList.drop i) (b.data.toList.drop i) = if (a[i].toNat : Int) < (b[i].toNat : Int) then -1 else if (b[i].toNat : Int) < (a[i].toNat : Int) then 1 else Lib.compareBytes (a.data.toList.drop (i + 1)) (b.data.toList.drop (i + 1)) := by
  have ha' : i < a.data.toList.length := by simpa using ha
  have hb' : i < b.data.toList.length := by simpa using hb
  rw [List.drop_eq_getElem_cons ha', List.drop_eq_getElem_cons hb']
  have ea : a.data.toList[i] = a[i] := rfl
  have eb : b.data.toList[i] = b[i] := rfl
  rw [ea, eb]
  conv => lhs; unfold Lib.compareBytes
  have e1 : (a[i] < b[i]) = ((a[i].toNat : Int) < (b[i].toNat : Int)) := by rw [UInt8.lt_iff_toNat_lt]; exact propext (by omega)
  have e2 : (b[i] < a[i]) = ((b[i].toNat : Int) < (a[i].toNat : Int)) := by rw [UInt8.lt_iff_toNat_lt]; exact propext (by omega)
  simp only [e1, e2]
theorem cb_end (a b : ByteArray) (i : Nat) (h : ¬ (i < a.size ∧ i < b.size)) (hi : i ≤ a.size ∧ i ≤ b.size) : Lib.compareBytes (a.data.toList.drop i) (b.data.toList.drop i) = if (a.size : Int) < (b.size : Int) then -1 else if (b.size : Int) < (a.size : Int) then 1 else 0 := by
  by_cases h1 : i < a.size
  · have hb : b.size ≤ i := by omega
    rw [List.drop_eq_nil_of_le (show b.data.toList.length ≤ i by simpa using hb), List.drop_eq_getElem_cons (show i < a.data.toList.length by simpa using h1), if_neg (by omega), if_pos (by omega)]
    rfl
  · rw [List.drop_eq_nil_of_le (show a.data.toList.length ≤ i by simp; omega)]
    by_cases h2 : i < b.size
    · rw [List.drop_eq_getElem_cons (show i < b.data.toList.length by simpa using h2), if_pos (by omega)]
      rfl
    · rw [List.drop_eq_nil_of_le (show b.data.toList.length ≤ i by simp; omega), if_neg (by omega), if_neg (by omega)]
      rfl

set_option maxRecDepth 100000 in
set_option maxHeartbeats 2000000 in
theorem rcompare_any (a b : ByteArray) (w : World) (ha : a.size ≤ 140737488355000) (hb : b.size ≤ 140737488355000) : Calls Try.prog 58 #[.string a, .string b] w fun e w' => e = .returned (.int .i64 (cmp a b)) ∧ Hid (Below w.heap.size w w') := by
  have HA : Hid (∀ W, Calls Try.prog 66 #[.string a] W fun e w' => e = .returned (.string (fb a)) ∧ Hid (Below W.heap.size W w')) := fun W => rfold_any a W ha
  have HB : Hid (∀ W, Calls Try.prog 66 #[.string b] W fun e w' => e = .returned (.string (fb b)) ∧ Hid (Below W.heap.size W w')) := fun W => rfold_any b W hb
  have HC : Hid (cmp a b = Lib.compareBytes ((fb a).data.toList.drop 0) ((fb b).data.toList.drop 0)) := (show _ = _ from rfl)
  have sa : (fb a).size ≤ 140737488355000 := by rw [fb_size]; exact ha
  have sb : (fb b).size ≤ 140737488355000 := by rw [fb_size]; exact hb
  obtain ⟨C, hC⟩ : ∃ C, cmp a b = C := ⟨_, rfl⟩
  rw [hC] at HC ⊢
  clear hC
  generalize fb a = x at *
  generalize fb b = y at *
  go_enter Try.func58, Try.ntmps58
  go_wp2_with fail
  refine (HA.out _).mono ?_
  rintro e w1 ⟨rfl, H1⟩
  go_wp2_with fail
  refine (HB.out _).mono ?_
  rintro e w2 ⟨rfl, H2⟩
  have H3 : Hid (Below w.heap.size w w2) := H1.out.trans (H2.out.mono H1.out.size)
  clear H1 H2 HA HB
  go_wp2_with fail
  go_loopw [7] (fun v wr => ∃ i : Nat, i ≤ x.size ∧ i ≤ y.size ∧ v = .int .i64 i ∧ Hid (C = Lib.compareBytes (x.data.toList.drop i) (y.data.toList.drop i)) ∧ Hid (Below w.heap.size w wr)) (fun v _ => x.size - (intOf v).toNat)
  case atStart => exact ⟨0, Nat.zero_le _, Nat.zero_le _, rfl, HC, H3⟩
  case round =>
    obtain ⟨i, hix, hiy, rfl, HI, HB⟩ := hrel
    clear HC H3
    by_cases h1 : i < x.size ∧ i < y.size
    · obtain ⟨hx, hy⟩ := h1
      have hx' : (i : Int) < (x.size : Int) := by omega
      have hy' : (i : Int) < (y.size : Int) := by omega
      have HS := HI.out.trans (cb_step x y i hx hy)
      have HS' : Hid (C = if (x[i].toNat : Int) < (y[i].toNat : Int) then -1 else if (y[i].toNat : Int) < (x[i].toNat : Int) then 1 else Lib.compareBytes (x.data.toList.drop (i + 1)) (y.data.toList.drop (i + 1))) := HS
      clear HS HI
      go_wp2_with fail
      go_quiet (fail)
      have HB2 : Hid (Below w.heap.size w (wr.drewN nq)) := HB.out.trans ⟨rfl, rfl, rfl, Nat.le_refl _, fun _ _ => rfl⟩
      generalize wr.drewN nq = W2 at *
      by_cases c1 : (x[i].toNat : Int) < (y[i].toNat : Int)
      · have HE : Hid (C = -1) := by have := HS'.out; rw [if_pos c1] at this; exact this
        go_wp2
        go_ret
        exact ⟨by rw [HE.out]; rfl, HB2.out⟩
      · go_wp2_with fail
        go_quiet (fail)
        have HB3 : Hid (Below w.heap.size w (W2.drewN nq)) := HB2.out.trans ⟨rfl, rfl, rfl, Nat.le_refl _, fun _ _ => rfl⟩
        generalize W2.drewN nq = W3 at *
        by_cases c2 : (y[i].toNat : Int) < (x[i].toNat : Int)
        · have HE : Hid (C = 1) := by have := HS'.out; rw [if_neg (by omega), if_pos c2] at this; exact this
          go_wp2
          go_ret
          exact ⟨by rw [HE.out]; rfl, HB3.out⟩
        · have HE : Hid (C = Lib.compareBytes (x.data.toList.drop (i + 1)) (y.data.toList.drop (i + 1))) := by have := HS'.out; rw [if_neg (by omega), if_neg (by omega)] at this; exact this
          go_wp2
          exact ⟨⟨i + 1, by omega, by omega, by go_num, HE, HB3⟩, by simp [intOf]; omega⟩
    · have HS' : Hid (C = if (x.size : Int) < (y.size : Int) then -1 else if (y.size : Int) < (x.size : Int) then 1 else 0) := HI.out.trans (cb_end x y i h1 ⟨hix, hiy⟩)
      have hor : ¬ (i : Int) < (x.size : Int) ∨ ((i : Int) < (x.size : Int) ∧ ¬ (i : Int) < (y.size : Int)) := by omega
      have htr : (x.size : Int) < (y.size : Int) ∨ (y.size : Int) < (x.size : Int) ∨ x.size = y.size := by omega
      clear h1 HI
      rcases htr with c | c | c
      · have HE : Hid (C = -1) := by have := HS'.out; rw [if_pos c] at this; exact this
        rcases hor with d | ⟨d, d'⟩
        all_goals
          go_wp2
          try (go_ret; exact ⟨by rw [HE.out]; rfl, HB.out⟩)
      · have HE : Hid (C = 1) := by have := HS'.out; rw [if_neg (by omega), if_pos c] at this; exact this
        rcases hor with d | ⟨d, d'⟩
        all_goals
          go_wp2
          try (go_ret; exact ⟨by rw [HE.out]; rfl, HB.out⟩)
      · have HE : Hid (C = 0) := by have := HS'.out; rw [if_neg (by omega), if_neg (by omega)] at this; exact this
        rcases hor with d | ⟨d, d'⟩
        all_goals
          go_wp2
          try (go_ret; exact ⟨by rw [HE.out]; rfl, HB.out⟩)
end Go.Proofs.Ytkbpjaojgkpffaa
