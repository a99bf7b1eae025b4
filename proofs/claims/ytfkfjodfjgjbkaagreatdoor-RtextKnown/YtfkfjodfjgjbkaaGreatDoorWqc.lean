/- Texts laid together: Rtx Par Rpar Nr Ns Nt Nu Ly Lx Pa Nv Bk Np. -/
import Derived.Test.YtfkfjodfjgjbkaaGreatDoorWqb
import Derived.Lib.ConvBytes
import Derived.Lib.ParseIntBMem
import Derived.Lib.Hide
import Derived.Laws.Strings3
import Derived.Laws.Closers25
import Derived.Laws.Closers25b
import Derived.BigQuiet
import Derived.Deep.QuietTactic
/- A label's text and the order of two, as the document has them. -/
namespace Go.Proofs.YtfkfjodfjgjbkaaGreatDoor
open Go.ChangeShapes Go.WideShapes Go.ChangeAt Go.RowKit
set_option linter.unusedVariables false
set_option linter.unusedSimpArgs false


theorem new_rd4 (w : World) (a b c d : Int) (ha : 0 ≤ a ∧ a ≤ 255) (hb : 0 ≤ b ∧ b ≤ 255) (hc : 0 ≤ c ∧ c ≤ 255) (hd : 0 ≤ d ∧ d ≤ 255) : Rd (w.alloc (.cells #[.int .u8 a, .int .u8 b, .int .u8 c, .int .u8 d] 5)) (some ⟨w.heap.size, 0, none⟩) [a, b, c, d] := by
  refine ⟨.inr ⟨w.heap.size, 0, rfl, by simp, fun i hi => ?_⟩, by simp only [List.mem_cons, List.mem_nil_iff, or_false]; omega⟩
  have : i = 0 ∨ i = 1 ∨ i = 2 ∨ i = 3 := by simp at hi; omega
  rcases this with rfl | rfl | rfl | rfl <;> simp [go_sem]
set_option maxRecDepth 100000 in
set_option maxHeartbeats 2000000 in
theorem rtext_any (s : ByteArray) (w : World) (hs : s.size ≤ 35184372088000) :
    Calls Tryz.prog 78 #[.string s] w fun e w' => e = .returned (.string ⟨(txt (tx (nums s))).toArray⟩) ∧ Hid (Below w.heap.size w w') := by
  go_enter Tryz.func78, Tryz.ntmps78
  go_wp2_with fail
  go_loopw [3, 4] (fun v x wr => ∃ k : Nat, k ≤ s.size ∧ x = .int .i64 k ∧ Hid (∃ ys, Own w.heap.size wr v (tx ((nums s).take k)).length ys ∧ ys.take (tx ((nums s).take k)).length = tx ((nums s).take k)) ∧ Hid (Below w.heap.size w wr)) (fun _ x _ => s.size - (intOf x).toNat)
  case atStart => exact ⟨0, Nat.zero_le _, rfl, ⟨[], .inl ⟨rfl, rfl, rfl⟩, rfl⟩, Below.refl _ _⟩
  case round =>
    obtain ⟨k, hk, rfl, HW, HB⟩ := hrel
    by_cases hlt : k < s.size
    · have hlt' : (k : Int) < (s.size : Int) := by omega
      have hbd := nums_bd s k
      have HT : Hid ((nums s).take (k + 1) = (nums s).take k ++ [(nums s).getD k 0]) := take_snoc _ _ (by rw [nums_len]; exact hlt)
      rw [nums_at s k hlt] at hbd HT
      have hln : (tx ((nums s).take k)).length ≤ 4 * k := by
        have h1 := tx_len ((nums s).take k)
        have h2 : ((nums s).take k).length ≤ k := by simp; omega
        omega
      have HN : Hid (tx ((nums s).take (k + 1)) = tx ((nums s).take k) ++ tx1 (s[k].toNat : Int)) := by show _ = _; rw [HT.out, tx_snoc]
      obtain ⟨ys, hO, hT⟩ := HW.out
      have HO : Hid (Own w.heap.size wr u3 (tx ((nums s).take k)).length ys ∧ ys.take (tx ((nums s).take k)).length = tx ((nums s).take k)) := ⟨hO, hT⟩
      clear hO hT
      generalize hL : tx ((nums s).take k) = L at *
      have hbs : w.heap.size ≤ wr.heap.size := HB.out.size
      by_cases hu : (s[k].toNat : Int) < 33 ∨ 126 < (s[k].toNat : Int)
      · have HX : Hid (tx1 (s[k].toNat : Int) = [92, 48 + (s[k].toNat : Int) / 100, 48 + (s[k].toNat : Int) / 10 % 10, 48 + (s[k].toNat : Int) % 10]) := by show _ = _; unfold tx1; rw [if_pos hu]
        have hnb : Below wr.heap.size wr (wr.alloc (.cells #[.int .u8 92, .int .u8 (48 + (s[k].toNat : Int) / 100), .int .u8 (48 + (s[k].toNat : Int) / 10 % 10), .int .u8 (48 + (s[k].toNat : Int) % 10)] 5)) := (Below.refl _ _).alloc (Nat.le_refl _) _
        have HO2 : Hid (Own w.heap.size (wr.alloc (.cells #[.int .u8 92, .int .u8 (48 + (s[k].toNat : Int) / 100), .int .u8 (48 + (s[k].toNat : Int) / 10 % 10), .int .u8 (48 + (s[k].toNat : Int) % 10)] 5)) u3 L.length ys ∧ ys.take L.length = L) := ⟨HO.out.1.below hnb, HO.out.2⟩
        have HR2 : Hid (Rd (wr.alloc (.cells #[.int .u8 92, .int .u8 (48 + (s[k].toNat : Int) / 100), .int .u8 (48 + (s[k].toNat : Int) / 10 % 10), .int .u8 (48 + (s[k].toNat : Int) % 10)] 5)) (some ⟨wr.heap.size, 0, none⟩) [92, 48 + (s[k].toNat : Int) / 100, 48 + (s[k].toNat : Int) / 10 % 10, 48 + (s[k].toNat : Int) % 10]) := new_rd4 wr _ _ _ _ (by omega) (by omega) (by omega) (by omega)
        have HNB : Hid (Below wr.heap.size wr (wr.alloc (.cells #[.int .u8 92, .int .u8 (48 + (s[k].toNat : Int) / 100), .int .u8 (48 + (s[k].toNat : Int) / 10 % 10), .int .u8 (48 + (s[k].toNat : Int) % 10)] 5))) := hnb
        clear hnb
        rcases hu with hu | hu
        all_goals
          go_wp2_with (at_builtin; refine wpList_append_blk _ rfl _ _ rfl w.heap.size _ L.length ys rfl HO2.out.1 (some ⟨wr.heap.size, 0, none⟩) 4 4 [92, 48 + (s[k].toNat : Int) / 100, 48 + (s[k].toNat : Int) / 10 % 10, 48 + (s[k].toNat : Int) % 10] rfl HR2.out rfl (by simp) (by omega) (Nat.le_trans HB.out.size HNB.out.size) ?_; intro v' w' ys' hO' hT' hG')
          have hrow := HO2.out.1.lt
          refine ⟨⟨k + 1, by omega, by go_num, ⟨ys', ?_, ?_⟩, ?_⟩, by simp [intOf]; omega⟩
          · rw [HN.out, HX.out, List.length_append]; exact hO'.out
          · rw [HN.out, HX.out, List.length_append]; exact hT'.out.trans (by rw [HO2.out.2])
          · exact (HB.out.trans (HNB.out.mono HB.out.size)).grown hG' (Nat.le_trans HB.out.size HNB.out.size) hrow
      · have h1 : ¬ (s[k].toNat : Int) < 33 := by omega
        have h2 : ¬ 126 < (s[k].toNat : Int) := by omega
        have HSP : Hid (∀ W, Calls Tryz.prog 108 #[.int .u8 (s[k].toNat : Int)] W fun e w' => e = .returned (.bool (spc (s[k].toNat : Int))) ∧ w' = W) := fun W => special_any _ W
        by_cases hp : spc (s[k].toNat : Int) = true
        · have HX : Hid (tx1 (s[k].toNat : Int) = [92, (s[k].toNat : Int)]) := by show _ = _; unfold tx1; rw [if_neg hu, if_pos hp]
          rw [hp] at HSP
          clear hu hp
          have hnb : Below wr.heap.size wr (wr.alloc (.cells #[.int .u8 92] 5)) := (Below.refl _ _).alloc (Nat.le_refl _) _
          have HO2 : Hid (Own w.heap.size (wr.alloc (.cells #[.int .u8 92] 5)) u3 L.length ys ∧ ys.take L.length = L) := ⟨HO.out.1.below hnb, HO.out.2⟩
          have HR2 : Hid (Rd (wr.alloc (.cells #[.int .u8 92] 5)) (some ⟨wr.heap.size, 0, none⟩) [92]) := new_rd wr _ (by omega)
          have HNB : Hid (Below wr.heap.size wr (wr.alloc (.cells #[.int .u8 92] 5))) := hnb
          clear hnb
          go_wp2_with fail
          refine (HSP.out _).mono ?_
          rintro e w1 ⟨rfl, rfl⟩
          go_wp2_with (at_builtin; first
            | (refine wpList_append_blk _ rfl _ _ rfl w.heap.size _ L.length ys rfl HO2.out.1 (some ⟨w1.heap.size, 0, none⟩) 1 1 [92] rfl HR2.out rfl (by simp) (by omega) (Nat.le_trans HB.out.size HNB.out.size) ?_; intro v' w' ys' hO' hT' hG'; have HB2 : Hid (Below w.heap.size w w') := ((HB.out.trans (HNB.out.mono HB.out.size)).grown hG' (Nat.le_trans HB.out.size HNB.out.size) HO2.out.1.lt); clear HO2 HR2 HNB)
            | (refine wpList_append_blk _ rfl _ _ rfl w.heap.size _ (L.length + 1) ys' rfl (hO'.out.below ((Below.refl _ _).alloc (Nat.le_refl _) _)) (some ⟨w'.heap.size, 0, none⟩) 1 1 [(s[k].toNat : Int)] rfl (new_rd w' _ (by omega)) rfl (by simp) (by omega) (by simp; have := HB2.out.size; omega) ?_; intro v2 w2 ys2 hO2 hT2 hG2))
          have hrow : ∀ g, v'.ownBlock = some g → w.heap.size ≤ g := hO'.out.lt
          refine ⟨⟨k + 1, by omega, by go_num, ⟨ys2, ?_, ?_⟩, ?_⟩, by simp [intOf]; omega⟩
          · rw [HN.out, HX.out, List.length_append]; exact hO2.out
          · rw [HN.out, HX.out, List.length_append]; exact hT2.out.trans (by rw [hT'.out, HO.out.2]; simp)
          · exact (HB2.out.alloc HB2.out.size _).grown hG2 (HB2.out.alloc HB2.out.size _).size hrow
        · have hp' : spc (s[k].toNat : Int) = false := by simpa using hp
          have HX : Hid (tx1 (s[k].toNat : Int) = [(s[k].toNat : Int)]) := by show _ = _; unfold tx1; rw [if_neg hu, hp']; rfl
          rw [hp'] at HSP
          clear hu hp hp'
          have hnb : Below wr.heap.size wr (wr.alloc (.cells #[.int .u8 (s[k].toNat : Int)] 5)) := (Below.refl _ _).alloc (Nat.le_refl _) _
          have HO2 : Hid (Own w.heap.size (wr.alloc (.cells #[.int .u8 (s[k].toNat : Int)] 5)) u3 L.length ys ∧ ys.take L.length = L) := ⟨HO.out.1.below hnb, HO.out.2⟩
          have HR2 : Hid (Rd (wr.alloc (.cells #[.int .u8 (s[k].toNat : Int)] 5)) (some ⟨wr.heap.size, 0, none⟩) [(s[k].toNat : Int)]) := new_rd wr _ (by omega)
          have HNB : Hid (Below wr.heap.size wr (wr.alloc (.cells #[.int .u8 (s[k].toNat : Int)] 5))) := hnb
          clear hnb
          go_wp2_with fail
          refine (HSP.out _).mono ?_
          rintro e w1 ⟨rfl, rfl⟩
          go_wp2_with (at_builtin; refine wpList_append_blk _ rfl _ _ rfl w.heap.size _ L.length ys rfl HO2.out.1 (some ⟨w1.heap.size, 0, none⟩) 1 1 [(s[k].toNat : Int)] rfl HR2.out rfl (by simp) (by omega) (Nat.le_trans HB.out.size HNB.out.size) ?_; intro v' w' ys' hO' hT' hG')
          have hrow := HO2.out.1.lt
          refine ⟨⟨k + 1, by omega, by go_num, ⟨ys', ?_, ?_⟩, ?_⟩, by simp [intOf]; omega⟩
          · rw [HN.out, HX.out, List.length_append]; exact hO'.out
          · rw [HN.out, HX.out, List.length_append]; exact hT'.out.trans (by rw [HO2.out.2])
          · exact (HB.out.trans (HNB.out.mono HB.out.size)).grown hG' (Nat.le_trans HB.out.size HNB.out.size) hrow
    · obtain ⟨ys, hO, hT⟩ := HW.out
      have ek : (nums s).take k = nums s := List.take_of_length_le (by rw [nums_len]; omega)
      rw [ek] at hO hT
      obtain ⟨ao, rfl, hoa⟩ := hO.addr
      have hrd := hoa.rdTake (tx (nums s)).length
      rw [hT] at hrd
      have hcv := conv_rd ao (tx (nums s)).length ys.length (tx (nums s)) wr hrd rfl
      have hge : (s.size : Int) ≤ (k : Int) := by omega
      clear hO hT hoa hrd ek
      generalize ys.length = yl at *
      generalize (tx (nums s)).length = tl at *
      go_wp2
      go_ret
      exact ⟨rfl, HB.out⟩
theorem cb_step (a b : ByteArray) (i : Nat) (ha : i < a.size) (hb : i < b.size) : Lib.compareBytes (a.data.toList.drop i) (b.data.toList.drop i) = if (a[i].toNat : Int) < (b[i].toNat : Int) then -1 else if (b[i].toNat : Int) < (a[i].toNat : Int) then 1 else Lib.compareBytes (a.data.toList.drop (i + 1)) (b.data.toList.drop (i + 1)) := by
  have ha' : i < a.data.toList.length := by simpa using ha
  have hb' : i < b.data.toList.length := by simpa using hb
  rw [List.drop_eq_getElem_cons ha', List.drop_eq_getElem_cons hb']
  have ea : a.data.toList[i] = a[i] := rfl
  have eb : b.data.toList[i] = b[i] := rfl
  rw [ea, eb]
  conv => lhs; unfold Lib.compareBytes
  have e1 : (a[i] < b[i]) = ((a[i].toNat : Int) < (b[i].toNat : Int)) := by rw [UInt8.lt_iff_toNat_lt]; exact propext (by omega)
  have e2 : (b[i] < a[i]) = ((b[i].toNat : Int) < (a[i].toNat : Int)) := by rw [UInt8.lt_iff_toNat_lt]; exact propext (by omega)
  simp only [e1, e2]
theorem cb_end (a b : ByteArray) (i : Nat) (h : ¬ (i < a.size ∧ i < b.size)) (hi : i ≤ a.size ∧ i ≤ b.size) : Lib.compareBytes (a.data.toList.drop i) (b.data.toList.drop i) = if (a.size : Int) < (b.size : Int) then -1 else if (b.size : Int) < (a.size : Int) then 1 else 0 := by
  by_cases h1 : i < a.size
  · have hb : b.size ≤ i := by omega
    rw [List.drop_eq_nil_of_le (show b.data.toList.length ≤ i by simpa using hb), List.drop_eq_getElem_cons (show i < a.data.toList.length by simpa using h1), if_neg (by omega), if_pos (by omega)]
    rfl
  · rw [List.drop_eq_nil_of_le (show a.data.toList.length ≤ i by simp; omega)]
    by_cases h2 : i < b.size
    · rw [List.drop_eq_getElem_cons (show i < b.data.toList.length by simpa using h2), if_pos (by omega)]
      rfl
    · rw [List.drop_eq_nil_of_le (show b.data.toList.length ≤ i by simp; omega), if_neg (by omega), if_neg (by omega)]
      rfl
end Go.Proofs.YtfkfjodfjgjbkaaGreatDoor
/- Which label a text begins with, as the program reads it. -/
namespace Go.Proofs.YtfkfjodfjgjbkaaGreatDoor
open Go.ChangeShapes Go.WideShapes Go.ChangeAt Go.RowKit
set_option linter.unusedVariables false
set_option linter.unusedSimpArgs false


theorem getD_bd (l : List Int) (h : ∀ z ∈ l, 0 ≤ z ∧ z ≤ 255) (i : Nat) : 0 ≤ l.getD i 0 ∧ l.getD i 0 ≤ 255 := by
  by_cases hi : i < l.length
  · have := h (l.getD i 0) (by rw [List.getD_eq_getElem?_getD, List.getElem?_eq_getElem hi]; simp)
    exact this
  · rw [List.getD_eq_getElem?_getD, List.getElem?_eq_none (by omega)]; simp
theorem num3_bd (l : List Int) : 0 ≤ (num3 l).1 ∧ (num3 l).1 ≤ 255 ∧ 0 ≤ (num3 l).2 ∧ (num3 l).2 ≤ l.length := by
  unfold num3
  split
  · simp
  · split
    · rename_i h1 h2
      simp only [Bool.and_eq_true, dgt_iff, decide_eq_true_eq] at h2
      simp only
      unfold v3 at *
      omega
    · simp
theorem esc_bd (l : List Int) (h : ∀ z ∈ l, 0 ≤ z ∧ z ≤ 255) : 0 ≤ (esc l).1 ∧ (esc l).1 ≤ 255 ∧ 0 ≤ (esc l).2 ∧ (esc l).2 ≤ l.length := by
  unfold esc
  split
  · simp
  · split
    · exact num3_bd l
    · split
      · have := getD_bd l h 1
        simp only
        omega
      · simp
theorem fr_bd (l : List Int) (h : ∀ z ∈ l, 0 ≤ z ∧ z ≤ 255) (hl : 0 < l.length) : 0 ≤ (fr l).1 ∧ (fr l).1 ≤ 255 ∧ 0 ≤ (fr l).2 ∧ (fr l).2 ≤ l.length := by
  unfold fr
  split
  · simp
  · split
    · exact esc_bd l h
    · have := getD_bd l h 0
      simp only
      omega
theorem nums_all (s : ByteArray) : ∀ z ∈ nums s, 0 ≤ z ∧ z ≤ 255 := by
  intro z hz
  simp only [nums, List.mem_map] at hz
  obtain ⟨b, _, rfl⟩ := hz
  have := b.toNat_lt
  omega
/-- The label's bytes and the place behind them; none, if a byte can't be read. -/
def go (l : List Int) (p : Nat) (out : List Int) : Option (List Int × Nat) :=
  if h : p < l.length ∧ l.getD p 0 ≠ 46 then
    if hn : (fr (l.drop p)).2 ≤ 0 then none
    else go l (p + (fr (l.drop p)).2.toNat) (out ++ [(fr (l.drop p)).1])
  else some (out, p)
termination_by l.length - p
decreasing_by omega
/-- What Parse answers: the label's bytes, how much of the text it is, the error. -/
def pres (l : List Int) : List Int × Int × Int :=
  match go l 0 [] with
  | none => ([], 0, 120)
  | some (out, p) => if 1 ≤ out.length ∧ out.length ≤ 63 then (out, (p : Int), 0) else ([], 0, 4)
def chk (n : Nat) : Int := if 1 ≤ n ∧ n ≤ 63 then 0 else 4
set_option maxRecDepth 100000 in
set_option maxHeartbeats 400000 in
theorem chk_any (s : ByteArray) (w : World) (hs : s.size ≤ 9223372036854775807) :
    Calls Tryz.prog 58 #[.string s] w fun e w' => e = .returned (.int .i64 (chk s.size)) ∧ w' = w := by
  by_cases h : 1 ≤ s.size ∧ s.size ≤ 63
  · have h1 : ¬ (s.size : Int) < 1 := by omega
    have h2 : ¬ (63 : Int) < (s.size : Int) := by omega
    have HE : Hid (chk s.size = 0) := by show _ = _; unfold chk; rw [if_pos h]
    clear h
    go_enter Tryz.func58, Tryz.ntmps58
    go_wp2
    go_ret
    exact ⟨by rw [HE.out]; rfl, rfl⟩
  · have HE : Hid (chk s.size = 4) := by show _ = _; unfold chk; rw [if_neg h]
    have ho : (s.size : Int) < 1 ∨ (63 : Int) < (s.size : Int) := by omega
    clear h
    rcases ho with ho | ho
    all_goals
      go_enter Tryz.func58, Tryz.ntmps58
      go_wp2
      go_ret
      exact ⟨by rw [HE.out]; rfl, rfl⟩
set_option maxRecDepth 100000 in
set_option maxHeartbeats 400000 in
theorem rchk_any (s : ByteArray) (w : World) (hs : s.size ≤ 9223372036854775807) :
    Calls Tryz.prog 106 #[.string s] w fun e w' => e = .returned (.int .i64 (chk s.size)) ∧ w' = w := by
  by_cases h : 1 ≤ s.size ∧ s.size ≤ 63
  · have h1 : ¬ (s.size : Int) < 1 := by omega
    have h2 : ¬ (63 : Int) < (s.size : Int) := by omega
    have HE : Hid (chk s.size = 0) := by show _ = _; unfold chk; rw [if_pos h]
    clear h
    go_enter Tryz.func106, Tryz.ntmps106
    go_wp2
    go_ret
    exact ⟨by rw [HE.out]; rfl, rfl⟩
  · have HE : Hid (chk s.size = 4) := by show _ = _; unfold chk; rw [if_neg h]
    have ho : (s.size : Int) < 1 ∨ (63 : Int) < (s.size : Int) := by omega
    clear h
    rcases ho with ho | ho
    all_goals
      go_enter Tryz.func106, Tryz.ntmps106
      go_wp2
      go_ret
      exact ⟨by rw [HE.out]; rfl, rfl⟩
theorem nums_extract (s : ByteArray) (p : Nat) : nums (s.extract p s.size) = (nums s).drop p := by
  simp only [nums, ByteArray.data_extract]
  rw [Array.toList_extract, List.extract_eq_take_drop, ← List.map_drop, List.take_of_length_le (by simp)]
theorem txt_size (l : List Int) : (⟨(txt l).toArray⟩ : ByteArray).size = l.length := by
  show (txt l).toArray.size = _
  simp [txt]
theorem go_stop (l : List Int) (p : Nat) (out : List Int) (h : ¬ (p < l.length ∧ l.getD p 0 ≠ 46)) : go l p out = some (out, p) := by
  rw [go, dif_neg h]
theorem go_bad (l : List Int) (p : Nat) (out : List Int) (h : p < l.length ∧ l.getD p 0 ≠ 46) (hn : (fr (l.drop p)).2 ≤ 0) : go l p out = none := by
  rw [go, dif_pos h, dif_pos hn]
theorem go_step (l : List Int) (p : Nat) (out : List Int) (h : p < l.length ∧ l.getD p 0 ≠ 46) (hn : ¬ (fr (l.drop p)).2 ≤ 0) : go l p out = go l (p + (fr (l.drop p)).2.toNat) (out ++ [(fr (l.drop p)).1]) := by
  rw [go, dif_pos h, dif_neg hn]
def PPost (s : ByteArray) (w : World) (e : Ending) (w' : World) : Prop :=
  e = .returned (.tuple #[.string ⟨(txt (pres (nums s)).1).toArray⟩, .int .i64 (pres (nums s)).2.1, .int .i64 (pres (nums s)).2.2]) ∧ Hid (Below w.heap.size w w')
theorem pres_ok {l out : List Int} {p : Nat} (h : go l 0 [] = some (out, p)) (hc : chk out.length = 0) : pres l = (out, (p : Int), 0) := by
  unfold pres
  rw [h]
  simp only
  unfold chk at hc
  split at hc
  · rename_i h1; rw [if_pos h1]
  · cases hc
theorem pres_no {l out : List Int} {p : Nat} (h : go l 0 [] = some (out, p)) (hc : ¬ chk out.length = 0) : pres l = ([], 0, 4) ∧ chk out.length = 4 := by
  unfold pres
  rw [h]
  simp only
  unfold chk at hc ⊢
  split at hc
  · exact absurd rfl hc
  · rename_i h1; rw [if_neg h1, if_neg h1]; exact ⟨rfl, rfl⟩
theorem pres_bad {l : List Int} (h : go l 0 [] = none) : pres l = ([], 0, 120) := by
  unfold pres
  rw [h]
set_option maxRecDepth 100000 in
set_option maxHeartbeats 1000000 in
theorem parse_any (s : ByteArray) (w : World) (hs : s.size ≤ 140737488355000) : Calls Tryz.prog 185 #[.string s] w (PPost s w) := by
  go_enter Tryz.func185, Tryz.ntmps185
  go_wp2_with fail
  go_loopw [5, 6] (fun v x wr => ∃ (p : Nat) (out : List Int), p ≤ s.size ∧ x = .int .i64 p ∧ Hid (go (nums s) 0 [] = go (nums s) p out ∧ out.length ≤ p) ∧ Hid (∃ ys, Own w.heap.size wr v out.length ys ∧ ys.take out.length = out) ∧ Hid (Below w.heap.size w wr)) (fun _ x _ => s.size - (intOf x).toNat)
  case atStart => exact ⟨0, [], Nat.zero_le _, rfl, ⟨rfl, Nat.le_refl _⟩, ⟨[], .inl ⟨rfl, rfl, rfl⟩, rfl⟩, Below.refl _ _⟩
  case round =>
    obtain ⟨p, out, hp, rfl, HG, HW, HB⟩ := hrel
    by_cases hlt : p < s.size ∧ (nums s).getD p 0 ≠ 46
    · obtain ⟨hlt, hd⟩ := hlt
      have HC : Hid (p < (nums s).length ∧ (nums s).getD p 0 ≠ 46) := ⟨by rw [nums_len]; exact hlt, hd⟩
      rw [nums_at s p hlt] at hd
      have hd' : ((s[p].toNat : Int) != 46) = true := bne_iff_ne.2 hd
      have hlt' : (p : Int) < (s.size : Int) := by omega
      clear hd
      have hol : out.length ≤ p := HG.out.2
      have HF : Hid (∀ W, Calls Tryz.prog 197 #[.string (s.extract p s.size)] W fun e w' => e = .returned (.tuple #[.int .u8 (fr ((nums s).drop p)).1, .int .i64 (fr ((nums s).drop p)).2]) ∧ w' = W) := by
        intro W
        have := fr_any (s.extract p s.size) W (by simp; omega) (by simp; omega)
        rw [nums_extract] at this
        exact this
      have hfb := fr_bd ((nums s).drop p) (fun z hz => nums_all s z (List.mem_of_mem_drop hz)) (by rw [List.length_drop, nums_len]; omega)
      rw [List.length_drop, nums_len] at hfb
      have HS1 : Hid ((fr ((nums s).drop p)).2 ≤ 0 → go (nums s) 0 [] = none) := fun h => HG.out.1.trans (go_bad _ _ _ HC.out h)
      have HS2 : Hid (¬ (fr ((nums s).drop p)).2 ≤ 0 → go (nums s) 0 [] = go (nums s) (p + (fr ((nums s).drop p)).2.toNat) (out ++ [(fr ((nums s).drop p)).1])) := fun h => HG.out.1.trans (go_step _ _ _ HC.out h)
      generalize (fr ((nums s).drop p)).1 = c at *
      generalize (fr ((nums s).drop p)).2 = n at *
      go_wp2_with fail
      refine (HF.out _).mono ?_
      rintro e w1 ⟨rfl, rfl⟩
      by_cases hn : n = 0
      · subst hn
        go_wp2
        go_ret3
        exact ⟨by rw [pres_bad (HS1.out (by omega))]; rfl, HB.out⟩
      · have hn' : (n == 0) = false := by simp [hn]
        obtain ⟨ys, hO, hT⟩ := HW.out
        have hnb : Below w1.heap.size w1 (w1.alloc (.cells #[.int .u8 c] 5)) := (Below.refl _ _).alloc (Nat.le_refl _) _
        have HO2 : Hid (Own w.heap.size (w1.alloc (.cells #[.int .u8 c] 5)) u5 out.length ys ∧ ys.take out.length = out) := ⟨hO.below hnb, hT⟩
        have HR2 : Hid (Rd (w1.alloc (.cells #[.int .u8 c] 5)) (some ⟨w1.heap.size, 0, none⟩) [c]) := new_rd w1 c (by omega)
        have HNB : Hid (Below w1.heap.size w1 (w1.alloc (.cells #[.int .u8 c] 5))) := hnb
        clear hO hT hnb
        go_wp2_with (at_builtin; refine wpList_append_blk _ rfl _ _ rfl w.heap.size _ out.length ys rfl HO2.out.1 (some ⟨w1.heap.size, 0, none⟩) 1 1 [c] rfl HR2.out rfl (by simp) (by omega) (Nat.le_trans HB.out.size HNB.out.size) ?_; intro v' w' ys' hO' hT' hG')
        have hrow := HO2.out.1.lt
        refine ⟨⟨p + n.toNat, out ++ [c], by omega, congrArg _ (by omega), ⟨HS2.out (by omega), by simp; omega⟩, ⟨ys', ?_, ?_⟩, ?_⟩, by simp [intOf]; omega⟩
        · rw [List.length_append]; exact hO'.out
        · rw [List.length_append]; exact hT'.out.trans (by rw [HO2.out.2])
        · exact (HB.out.trans (HNB.out.mono HB.out.size)).grown hG' (Nat.le_trans HB.out.size HNB.out.size) hrow
    · have HS : Hid (go (nums s) 0 [] = some (out, p)) := HG.out.1.trans (go_stop _ _ _ (by rw [nums_len]; exact hlt))
      obtain ⟨ys, hO, hT⟩ := HW.out
      obtain ⟨ao, rfl, hoa⟩ := hO.addr
      have hrd := hoa.rdTake out.length
      rw [hT] at hrd
      have hcv := conv_rd ao out.length ys.length out wr hrd rfl
      have HK : Hid (∀ W, Calls Tryz.prog 58 #[.string ⟨(txt out).toArray⟩] W fun e w' => e = .returned (.int .i64 (chk out.length)) ∧ w' = W) := by
        intro W
        have := chk_any ⟨(txt out).toArray⟩ W (by rw [txt_size]; have := HG.out.2; omega)
        rw [txt_size] at this
        exact this
      clear hO hT hoa hrd
      have HX : Hid (chk out.length = 0 → pres (nums s) = (out, (p : Int), 0)) := fun h => pres_ok HS.out h
      have HY : Hid (¬ chk out.length = 0 → pres (nums s) = ([], 0, 4) ∧ chk out.length = 4) := fun h => pres_no HS.out h
      generalize chk out.length = k at *
      have hor : (s.size : Int) ≤ (p : Int) ∨ (∃ h : p < s.size, (s[p].toNat : Int) = 46) := by
        by_cases h : p < s.size
        · right
          refine ⟨h, ?_⟩
          rw [← nums_at s p h]
          exact Classical.byContradiction fun hne => hlt ⟨h, hne⟩
        · left; omega
      clear hlt
      generalize out.length = ol at *
      generalize ys.length = yl at *
      rcases hor with hge | ⟨hlt, hd⟩
      · by_cases hk : k = 0
        · have HQ : Hid (pres (nums s) = (out, (p : Int), 0)) := HX.out hk
          clear HX HY
          subst hk
          go_wp2_with fail
          refine (HK.out _).mono ?_
          rintro e w1 ⟨rfl, rfl⟩
          go_wp2
          go_ret3
          exact ⟨by rw [HQ.out]; rfl, HB.out⟩
        · obtain ⟨hq, hk4⟩ := HY.out hk
          have HQ : Hid (pres (nums s) = ([], 0, 4)) := hq
          clear hq hk HX HY
          subst hk4
          go_wp2_with fail
          refine (HK.out _).mono ?_
          rintro e w1 ⟨rfl, rfl⟩
          go_wp2
          go_ret3
          exact ⟨by rw [HQ.out]; rfl, HB.out⟩
      · have hd' : ((s[p].toNat : Int) != 46) = false := by rw [hd]; rfl
        have hlt' : (p : Int) < (s.size : Int) := by omega
        clear hd
        by_cases hk : k = 0
        · have HQ : Hid (pres (nums s) = (out, (p : Int), 0)) := HX.out hk
          clear HX HY
          subst hk
          go_wp2_with fail
          refine (HK.out _).mono ?_
          rintro e w1 ⟨rfl, rfl⟩
          go_wp2
          go_ret3
          exact ⟨by rw [HQ.out]; rfl, HB.out⟩
        · obtain ⟨hq, hk4⟩ := HY.out hk
          have HQ : Hid (pres (nums s) = ([], 0, 4)) := hq
          clear hq hk HX HY
          subst hk4
          go_wp2_with fail
          refine (HK.out _).mono ?_
          rintro e w1 ⟨rfl, rfl⟩
          go_wp2
          go_ret3
          exact ⟨by rw [HQ.out]; rfl, HB.out⟩
end Go.Proofs.YtfkfjodfjgjbkaaGreatDoor
/- Which label a text begins with, as the document reads it. -/
namespace Go.Proofs.YtfkfjodfjgjbkaaGreatDoor
open Go.ChangeShapes Go.WideShapes Go.ChangeAt Go.RowKit
set_option linter.unusedVariables false
set_option linter.unusedSimpArgs false


theorem getD_drop (l : List Int) (p i : Nat) : (l.drop p).getD i 0 = l.getD (p + i) 0 := by
  simp [List.getD_eq_getElem?_getD, List.getElem?_drop]
theorem fr_at (s : ByteArray) (p : Nat) (h : p < s.size) : fr ((nums s).drop p) = if !vis (s[p].toNat : Int) then (0, 0) else if (s[p].toNat : Int) == 92 then esc ((nums s).drop p) else ((s[p].toNat : Int), 1) := by
  unfold fr
  rw [getD_drop, Nat.add_zero, nums_at s p h]
end Go.Proofs.YtfkfjodfjgjbkaaGreatDoor
/- Names, as the document has them: their size, whether they may be, what they have in common. -/
namespace Go.Proofs.YtfkfjodfjgjbkaaGreatDoor
open Go.ChangeShapes Go.WideShapes Go.ChangeAt Go.RowKit
set_option linter.unusedVariables false
set_option linter.unusedSimpArgs false


/-- The size of a name. -/
def nsz : List ByteArray → Nat
  | [] => 1
  | s :: r => s.size + 1 + nsz r
theorem nsz_snoc (l : List ByteArray) (s : ByteArray) : nsz (l ++ [s]) = nsz l + s.size + 1 := by
  induction l with
  | nil => simp [nsz]; omega
  | cons x l ih => simp only [List.cons_append, nsz, ih]; omega
theorem nsz_le (l : List ByteArray) (k : Nat) : nsz (l.take k) ≤ nsz l := by
  induction l generalizing k with
  | nil => simp [nsz]
  | cons x l ih =>
    cases k with
    | zero => simp [nsz]; omega
    | succ k => simp only [List.take_succ_cons, nsz]; have := ih k; omega
theorem take_snocT (ss : List ByteArray) (k : Nat) (h : k < ss.length) : ss.take (k + 1) = ss.take k ++ [ss[k]] := List.take_succ_eq_append_getElem h
/-- Whether all labels may be; the error of a name. -/
def labsOk (ss : List ByteArray) : Prop := ∀ s ∈ ss, chk s.size = 0
instance (ss : List ByteArray) : Decidable (labsOk ss) := by unfold labsOk; exact inferInstance
def nck (ss : List ByteArray) : Int := if labsOk ss then (if 255 < nsz ss then 5 else 0) else 4
theorem chk_cases (n : Nat) : chk n = 0 ∨ chk n = 4 := by unfold chk; split <;> simp
set_option maxRecDepth 100000 in
set_option maxHeartbeats 1000000 in
theorem refsize_any (a : Option Addr) (len cap : Nat) (ss : List ByteArray) (w : World) (hr : RdT w a ss) (hl : ss.length = len) (hm : nsz ss ≤ 1000000000000000) :
    Calls Tryz.prog 107 #[.slice a len cap] w fun e w' => e = .returned (.int .i64 (nsz ss)) ∧ w' = w := by
  have HR : Hid (RdT w a ss) := hr
  have HL : Hid (ss.length = len) := hl
  have hln : len ≤ 9223372036854775807 := by
    have : ∀ l : List ByteArray, l.length ≤ nsz l := by
      intro l; induction l with
      | nil => simp [nsz]
      | cons x l ih => simp only [List.length_cons, nsz]; omega
    have := this ss
    omega
  obtain ⟨T, hT⟩ : ∃ T, nsz ss = T := ⟨_, rfl⟩
  have HT : Hid (nsz ss = T) := hT
  rw [hT] at hm ⊢
  clear hr hl hT
  go_enter Tryz.func107, Tryz.ntmps107
  go_wp2_with fail
  go_loop [3, 4] (fun n x => ∃ k m : Nat, k ≤ len ∧ m ≤ T ∧ x = .int .i64 k ∧ n = .int .i64 m ∧ Hid (nsz (ss.take k) = m)) (fun _ x => len - (intOf x).toNat)
  case atStart => exact ⟨0, 1, Nat.zero_le _, by rw [← HT.out]; exact nsz_le ss 0, rfl, rfl, rfl⟩
  case round =>
    obtain ⟨k, m, hk, hmT, rfl, rfl, HM⟩ := hrel
    by_cases hlt : k < len
    · have hlt' : (k : Int) < (len : Int) := by omega
      have hks : k < ss.length := by rw [HL.out]; exact hlt
      obtain ⟨b, o, rfl, hb, hc⟩ := HR.out.at k hks
      have hn : nsz (ss.take (k + 1)) = m + ss[k].size + 1 := by rw [take_snocT ss k hks, nsz_snoc, HM.out]
      have hle := nsz_le ss (k + 1)
      rw [hn, HT.out] at hle
      have HN : Hid (nsz (ss.take (k + 1)) = m + ss[k].size + 1) := hn
      clear hn
      generalize ss[k] = s at *
      go_wp2
      go_round
      case rel => exact ⟨k + 1, m + s.size + 1, by omega, hle, by go_num, by go_num, HN⟩
      case measure => simp [intOf]; omega
    · have hge : (len : Int) ≤ (k : Int) := by omega
      have e : m = T := by rw [← HM.out, ← HT.out, List.take_of_length_le (by rw [HL.out]; omega)]
      subst e
      go_wp2
      go_ret
      exact ⟨rfl, rfl⟩
set_option maxRecDepth 100000 in
set_option maxHeartbeats 1000000 in
theorem refcheck_any (a : Option Addr) (len cap : Nat) (ss : List ByteArray) (w : World) (hr : RdT w a ss) (hl : ss.length = len) (hm : nsz ss ≤ 1000000000000000) (hlen : len ≤ 9223372036854775807) (hz : ∀ s ∈ ss, s.size ≤ 9223372036854775807) :
    Calls Tryz.prog 73 #[.slice a len cap] w fun e w' => e = .returned (.int .i64 (nck ss)) ∧ w' = w := by
  have HR : Hid (RdT w a ss ∧ ∀ s ∈ ss, s.size ≤ 9223372036854775807) := ⟨hr, hz⟩
  have HL : Hid (ss.length = len) := hl
  have HS : Hid (∀ W, RdT W a ss → Calls Tryz.prog 107 #[.slice a len cap] W fun e w' => e = .returned (.int .i64 (nsz ss)) ∧ w' = W) := fun W hW => refsize_any a len cap ss W hW hl hm
  obtain ⟨T, hT⟩ : ∃ T, nsz ss = T := ⟨_, rfl⟩
  have HT : Hid (nsz ss = T) := hT
  rw [hT] at hm HS
  clear hr hl hT hz
  go_enter Tryz.func73, Tryz.ntmps73
  go_wp2_with fail
  go_loopw [3] (fun x wr => ∃ k : Nat, k ≤ len ∧ x = .int .i64 k ∧ wr = w ∧ Hid (∀ i (h : i < ss.length), i < k → chk ss[i].size = 0)) (fun x _ => len - (intOf x).toNat)
  case atStart => exact ⟨0, Nat.zero_le _, rfl, rfl, fun i _ h => absurd h (by omega)⟩
  case round =>
    obtain ⟨k, hk, rfl, rfl, HK⟩ := hrel
    by_cases hlt : k < len
    · have hlt' : (k : Int) < (len : Int) := by omega
      have hks : k < ss.length := by rw [HL.out]; exact hlt
      obtain ⟨b, o, rfl, hb, hc⟩ := HR.out.1.at k hks
      have HC : Hid (∀ W, Calls Tryz.prog 106 #[.string ss[k]] W fun e w' => e = .returned (.int .i64 (chk ss[k].size)) ∧ w' = W) := fun W => rchk_any ss[k] W (HR.out.2 _ (List.getElem_mem hks))
      rcases chk_cases ss[k].size with hk0 | hk4
      · have HN : Hid (∀ i (h : i < ss.length), i < k + 1 → chk ss[i].size = 0) := by
          intro i h hi
          by_cases e : i = k
          · subst e; exact hk0
          · exact HK.out i h (by omega)
        rw [hk0] at HC
        clear hk0 HK
        generalize ss[k] = s at *
        go_wp2_with fail
        refine (HC.out _).mono ?_
        rintro e w1 ⟨rfl, rfl⟩
        go_wp2
        exact ⟨⟨k + 1, by omega, by go_num, trivial, HN⟩, by simp [intOf]; omega⟩
      · have HE : Hid (nck ss = 4) := by
          show nck ss = 4
          unfold nck
          rw [if_neg (fun h => by have := h _ (List.getElem_mem hks); rw [hk4] at this; cases this)]
        rw [hk4] at HC
        clear hk4 HK
        generalize ss[k] = s at *
        go_wp2_with fail
        refine (HC.out _).mono ?_
        rintro e w1 ⟨rfl, rfl⟩
        go_wp2
        go_ret
        exact ⟨by rw [HE.out]; rfl, rfl⟩
    · have hge : (len : Int) ≤ (k : Int) := by omega
      have HO : Hid (labsOk ss) := by
        intro s hs
        obtain ⟨i, hi, rfl⟩ := List.getElem_of_mem hs
        exact HK.out i hi (by have := HL.out; omega)
      by_cases hb : 255 < T
      · have HE : Hid (nck ss = 5) := by show nck ss = 5; unfold nck; rw [if_pos HO.out, HT.out, if_pos hb]
        have hb' : (255 : Int) < (T : Int) := by omega
        clear HK HO
        go_wp2_with fail
        refine (HS.out _ HR.out.1).mono ?_
        rintro e w1 ⟨rfl, rfl⟩
        go_wp2
        go_ret
        exact ⟨by rw [HE.out]; rfl, rfl⟩
      · have HE : Hid (nck ss = 0) := by show nck ss = 0; unfold nck; rw [if_pos HO.out, HT.out, if_neg hb]
        have hb' : ¬ (255 : Int) < (T : Int) := by omega
        clear HK HO
        go_wp2_with fail
        refine (HS.out _ HR.out.1).mono ?_
        rintro e w1 ⟨rfl, rfl⟩
        go_wp2
        go_ret
        exact ⟨by rw [HE.out]; rfl, rfl⟩
/-- How many first labels of two lists are the same; how two lists stand, the first labels first. -/
def comR : List ByteArray → List ByteArray → Nat
  | x :: a, y :: b => if cmp x y = 0 then comR a b + 1 else 0
  | _, _ => 0
def cmpR : List ByteArray → List ByteArray → Int
  | [], [] => 0
  | [], _ :: _ => -1
  | _ :: _, [] => 1
  | x :: a, y :: b => if cmp x y = 0 then cmpR a b else cmp x y
/-- The same, of names: from the last label on. -/
def ncom (a b : List ByteArray) : Nat := comR a.reverse b.reverse
def ncmp (a b : List ByteArray) : Int := cmpR a.reverse b.reverse
theorem rev_drop (ss : List ByteArray) (k : Nat) (h : k < ss.length) : ss.reverse.drop k = ss[ss.length - 1 - k] :: ss.reverse.drop (k + 1) := by
  rw [List.drop_eq_getElem_cons (by simpa using h)]
  simp
theorem comR_le : ∀ a b : List ByteArray, comR a b ≤ a.length ∧ comR a b ≤ b.length
  | [], _ => by simp [comR]
  | _ :: _, [] => by simp [comR]
  | x :: a, y :: b => by
    unfold comR
    have := comR_le a b
    split <;> simp <;> omega
theorem ncom_le (a b : List ByteArray) : ncom a b ≤ a.length ∧ ncom a b ≤ b.length := by
  have := comR_le a.reverse b.reverse
  simpa [ncom] using this
theorem cmpR_com : ∀ a b : List ByteArray, cmpR a b = if comR a b = a.length ∧ comR a b = b.length then 0 else if comR a b = a.length then -1 else if comR a b = b.length then 1 else cmp (a.getD (comR a b) ⟨#[]⟩) (b.getD (comR a b) ⟨#[]⟩)
  | [], [] => by simp [cmpR, comR]
  | [], _ :: _ => by simp [cmpR, comR]
  | _ :: _, [] => by simp [cmpR, comR]
  | x :: a, y :: b => by
    unfold cmpR comR
    by_cases h : cmp x y = 0
    · rw [if_pos h, if_pos h, cmpR_com a b]
      simp
    · rw [if_neg h, if_neg h]
      simp
end Go.Proofs.YtfkfjodfjgjbkaaGreatDoor
/- Names, as the document has them: the same, under, folded, cut, joined. -/
namespace Go.Proofs.YtfkfjodfjgjbkaaGreatDoor
open Go.ChangeShapes Go.WideShapes Go.ChangeAt Go.RowKit
set_option linter.unusedVariables false
set_option linter.unusedSimpArgs false


/-- What is asked of a name that is read: it lies there, and is not too great. -/
structure Nm (w : World) (a : Option Addr) (n : Nat) (ss : List ByteArray) : Prop where
  rd : RdT w a ss
  len : ss.length = n
  sz : nsz ss ≤ 1000000000000
theorem nsz_len : ∀ l : List ByteArray, l.length + 1 ≤ nsz l
  | [] => by simp [nsz]
  | x :: l => by have := nsz_len l; simp only [List.length_cons, nsz]; omega
theorem nsz_mem : ∀ (l : List ByteArray) (s : ByteArray), s ∈ l → s.size ≤ nsz l
  | x :: l, s, h => by
    simp only [nsz]
    rcases List.mem_cons.1 h with rfl | h
    · omega
    · have := nsz_mem l s h; omega
theorem Nm.below {w w' : World} {a : Option Addr} {n : Nat} {ss : List ByteArray} (h : Nm w a n ss) (hb : Below w.heap.size w w') : Nm w' a n ss := ⟨h.rd.below hb, h.len, h.sz⟩
theorem Nm.n63 {w : World} {a : Option Addr} {n : Nat} {ss : List ByteArray} (h : Nm w a n ss) : n ≤ 1000000000000 := by have := nsz_len ss; have := h.len; have := h.sz; omega
theorem Nm.mem {w : World} {a : Option Addr} {n : Nat} {ss : List ByteArray} (h : Nm w a n ss) (s : ByteArray) (hs : s ∈ ss) : s.size ≤ 1000000000000 := Nat.le_trans (nsz_mem ss s hs) h.sz
theorem nm_check {a : Option Addr} {n : Nat} {ss : List ByteArray} {w : World} (c : Nat) (h : Nm w a n ss) : Calls Tryz.prog 73 #[.slice a n c] w fun e w' => e = .returned (.int .i64 (nck ss)) ∧ w' = w :=
  refcheck_any a n c ss w h.rd h.len (by have := h.sz; omega) (by have := h.n63; omega) (fun s hs => by have := h.mem s hs; omega)
theorem beq_nat (k n : Nat) : ((k : Int) == (n : Int)) = (k == n) := by
  by_cases h : k = n
  · subst h; simp
  · have h2 : ¬ (k : Int) = (n : Int) := by omega
    rw [beq_false_of_ne h, beq_false_of_ne h2]
def nsame (ss ts : List ByteArray) : Bool := ss.length == ts.length && ncom ss ts == ss.length
def nunder (ss ts : List ByteArray) : Bool := ncom ss ts == ts.length
/-- What a call that makes a name answers: the labels, the error. -/
def NPost (r : List ByteArray) (k : Int) (w : World) (e : Ending) (w' : World) : Prop :=
  ∃ v ys, e = .returned (.tuple #[v, .int .i64 k]) ∧ Hid (OwnT w.heap.size w' v r.length ys 1000000000000 ∧ ys.take r.length = r ∧ Below w.heap.size w w')
theorem npost_none {k : Int} {w w' : World} {e : Ending} (he : e = .returned (.tuple #[.slice none 0 0, .int .i64 k])) (hb : Below w.heap.size w w') : NPost [] k w e w' :=
  ⟨.slice none 0 0, [], he, OwnT.nil _ _ _, rfl, hb⟩
def nparent (ss : List ByteArray) : List ByteArray × Int := if nck ss = 0 then (if ss.length = 0 then ([], 9) else (ss.drop 1, 0)) else ([], nck ss)
def nabove (ss : List ByteArray) (d : Int) : List ByteArray × Int := if nck ss = 0 then (if d < 0 ∨ (ss.length : Int) < d then ([], 2) else (ss.drop (ss.length - d.toNat), 0)) else ([], nck ss)
theorem nsz_drop (l : List ByteArray) (k : Nat) : nsz (l.drop k) ≤ nsz l := by
  induction l generalizing k with
  | nil => simp [nsz]
  | cons x l ih =>
    cases k with
    | zero => simp
    | succ k => simp only [List.drop_succ_cons, nsz]; have := ih k; omega
theorem Nm.cut {w : World} {a a' : Option Addr} {n : Nat} {ss : List ByteArray} (h : Nm w a n ss) (p : Nat) (ha : p < ss.length → ∀ b o, a = some ⟨b, o, none⟩ → a' = some ⟨b, o + p, none⟩) : Nm w a' (n - p) (ss.drop p) := by
  refine ⟨?_, by rw [List.length_drop, h.len], Nat.le_trans (nsz_drop ss p) h.sz⟩
  have := RdV.cut (w := w) (a := a) (xs := tv ss) h.rd p (tv ss).length (a' := a') (fun hp => ha (by rw [tv_len] at hp; exact hp))
  rw [List.take_of_length_le (by simp), tv_drop] at this
  exact this
theorem nm_nil (w : World) (a : Option Addr) : Nm w a 0 [] := ⟨.inl rfl, rfl, by decide⟩
theorem nck_small {ss : List ByteArray} (h : nck ss = 0) : nsz ss ≤ 255 ∧ labsOk ss := by
  unfold nck at h
  split at h
  · rename_i h1
    split at h
    · cases h
    · exact ⟨by omega, h1⟩
  · cases h
theorem nsz_append (a b : List ByteArray) : nsz (a ++ b) + 1 = nsz a + nsz b := by
  induction a with
  | nil => simp [nsz]; omega
  | cons x a ih => simp only [List.cons_append, nsz]; omega
def njoin (a b : List ByteArray) : List ByteArray × Int := if nck a = 0 then (if nck b = 0 then (if nck (a ++ b) = 0 then (a ++ b, 0) else ([], 5)) else ([], nck b)) else ([], nck a)
end Go.Proofs.YtfkfjodfjgjbkaaGreatDoor
/- Names, as the document has them: folded, their text, their bytes. -/
namespace Go.Proofs.YtfkfjodfjgjbkaaGreatDoor
open Go.ChangeShapes Go.WideShapes Go.ChangeAt Go.RowKit
set_option linter.unusedVariables false
set_option linter.unusedSimpArgs false

/-- A label's text; the text of labels, a . behind each. -/
def tb (s : ByteArray) : ByteArray := ⟨(txt (tx (nums s))).toArray⟩
def ntxt (l : List ByteArray) : ByteArray := l.foldl (fun acc s => acc ++ tb s ++ ⟨#[46]⟩) ⟨#[]⟩
theorem ntxt_snoc (l : List ByteArray) (s : ByteArray) : ntxt (l ++ [s]) = ntxt l ++ tb s ++ ⟨#[46]⟩ := by simp [ntxt, List.foldl_append]
theorem tb_size (s : ByteArray) : (tb s).size ≤ 4 * s.size := by
  have := tx_len (nums s)
  rw [nums_len] at this
  show (txt (tx (nums s))).toArray.size ≤ _
  simp [txt]
  exact this
theorem ntxt_size (l : List ByteArray) : ∀ k, k ≤ l.length → (ntxt (l.take k)).size ≤ 4 * nsz l := by
  intro k
  induction k with
  | zero => intro _; exact Nat.zero_le _
  | succ k ih =>
    intro hk
    have hkl : k < l.length := by omega
    have h0 : ∀ j, j ≤ l.length → (ntxt (l.take j)).size ≤ 4 * nsz (l.take j) := by
      intro j
      induction j with
      | zero => intro _; exact Nat.zero_le _
      | succ j ihj =>
        intro hj
        have hjl : j < l.length := by omega
        rw [take_snocT l j hjl, ntxt_snoc, nsz_snoc, ByteArray.size_append, ByteArray.size_append]
        have := ihj (by omega)
        have := tb_size l[j]
        show _ + _ + 1 ≤ _
        omega
    have := h0 (k + 1) hk
    have := nsz_le l (k + 1)
    omega
/-- What Text answers. -/
def ntext (ss : List ByteArray) : ByteArray × Int := if nck ss = 0 then (if ss.length = 0 then (⟨#[46]⟩, 0) else (ntxt ss, 0)) else (⟨#[]⟩, nck ss)
set_option maxRecDepth 100000 in
set_option maxHeartbeats 1000000 in
theorem refntext_any (a : Option Addr) (n c : Nat) (ss : List ByteArray) (w : World) (h : Nm w a n ss) :
    Calls Tryz.prog 42 #[.slice a n c] w fun e w' => e = .returned (.tuple #[.string (ntext ss).1, .int .i64 (ntext ss).2]) ∧ Hid (Below w.heap.size w w') := by
  have KC : Hid (Calls Tryz.prog 73 #[.slice a n c] w fun e w' => e = .returned (.int .i64 (nck ss)) ∧ w' = w) := nm_check c h
  have HN : Hid (Nm w a n ss) := h
  have hn := h.n63
  have HL : Hid (ss.length = n) := h.len
  by_cases hk : nck ss = 0
  · rw [hk] at KC
    have hsm := (nck_small hk).1
    by_cases h0 : n = 0
    · have hp : ntext ss = (⟨#[46]⟩, 0) := by unfold ntext; rw [if_pos hk, if_pos (by rw [h.len]; exact h0)]
      rw [hp]
      subst h0
      clear h hk hp
      go_enter Tryz.func42, Tryz.ntmps42
      go_wp2_with fail
      refine KC.out.mono ?_
      rintro e w1 ⟨rfl, rfl⟩
      go_wp2
      go_ret2
      exact ⟨rfl, Below.refl _ _⟩
    · have hp : ntext ss = (ntxt ss, 0) := by unfold ntext; rw [if_pos hk, if_neg (by rw [h.len]; exact h0)]
      rw [hp]
      have h0' : ((n : Int) == 0) = false := by simp; omega
      have HSZ : Hid (∀ k, k ≤ ss.length → (ntxt (ss.take k)).size ≤ 1020) := fun k hk => by have := ntxt_size ss k hk; omega
      obtain ⟨R, hR⟩ : ∃ R, ntxt ss = R := ⟨_, rfl⟩
      have HRR : Hid (ntxt ss = R) := hR
      rw [hR]
      clear h hk hp hR
      go_enter Tryz.func42, Tryz.ntmps42
      go_wp2_with fail
      refine KC.out.mono ?_
      rintro e w1 ⟨rfl, rfl⟩
      go_wp2_with fail
      go_loopw [5, 6] (fun v x wr => ∃ (k : Nat) (t : ByteArray), k ≤ n ∧ x = .int .i64 k ∧ v = .string t ∧ t.size ≤ 1020 ∧ Hid (ntxt (ss.take k) = t) ∧ Hid (Below w1.heap.size w1 wr)) (fun _ x _ => n - (intOf x).toNat)
      case atStart => exact ⟨0, ⟨#[]⟩, Nat.zero_le _, rfl, rfl, by decide, rfl, Below.refl _ _⟩
      case round =>
        obtain ⟨k, t, hkn, rfl, rfl, htz, HT, HB⟩ := hrel
        by_cases hlt : k < n
        · have hlt' : (k : Int) < (n : Int) := by omega
          have hks : k < ss.length := by rw [HL.out]; exact hlt
          obtain ⟨b, o, rfl, hb, hc⟩ := (HN.out.below HB.out).rd.at k hks
          have hsz := Nat.le_trans (nsz_mem ss _ (List.getElem_mem hks)) hsm
          have HT2 : Hid (ntxt (ss.take (k + 1)) = t ++ tb ss[k] ++ ⟨#[46]⟩) := by show _ = _; rw [take_snocT ss k hks, ntxt_snoc, HT.out]
          have hz2 := HSZ.out (k + 1) (by omega)
          rw [HT2.out] at hz2
          have KT : Hid (∀ W, Calls Tryz.prog 78 #[.string ss[k]] W fun e w' => e = .returned (.string (tb ss[k])) ∧ Hid (Below W.heap.size W w')) := fun W => rtext_any ss[k] W (by omega)
          have htb : (tb ss[k]).size ≤ 1020 := by have := tb_size ss[k]; omega
          generalize tb ss[k] = f at *
          generalize ss[k] = s at *
          go_wp2_with fail
          refine (KT.out _).mono ?_
          rintro e w2 ⟨rfl, H2⟩
          clear hc KT
          go_wp2
          refine ⟨⟨k + 1, _, by omega, by go_num, rfl, hz2, HT2, HB.out.trans (H2.out.mono HB.out.size)⟩, by simp [intOf]; omega⟩
        · have hge : (n : Int) ≤ (k : Int) := by omega
          have e : t = R := by rw [← HT.out, ← HRR.out, List.take_of_length_le (by rw [HL.out]; omega)]
          subst e
          go_wp2
          go_ret2
          exact ⟨rfl, HB.out⟩
  · have hp : ntext ss = (⟨#[]⟩, nck ss) := by unfold ntext; rw [if_neg hk]
    rw [hp]
    generalize nck ss = q at *
    have hq : (q != 0) = true := bne_iff_ne.2 hk
    clear h hk hp
    go_enter Tryz.func42, Tryz.ntmps42
    go_wp2_with fail
    refine KC.out.mono ?_
    rintro e w1 ⟨rfl, rfl⟩
    go_wp2
    go_ret2
    exact ⟨rfl, Below.refl _ _⟩
theorem tyB : ElemTy Tryz.prog 27 5 (.int .u8 0) 1 := ⟨Tryz.underlying27, by kernel_rfl, rfl⟩
def QB (u : Value) : Prop := ∃ z : Int, u = .int .u8 z ∧ 0 ≤ z ∧ z ≤ 255
theorem bytes_of : ∀ xs : List Value, (∀ u ∈ xs, QB u) → ∃ zs : List Int, xs = zs.map (Value.int .u8) ∧ ∀ z ∈ zs, 0 ≤ z ∧ z ≤ 255
  | [], _ => ⟨[], rfl, by simp⟩
  | x :: xs, h => by
    obtain ⟨zs, e1, e2⟩ := bytes_of xs (fun u hu => h u (by simp [hu]))
    obtain ⟨z, rfl, hz⟩ := h x (by simp)
    refine ⟨z :: zs, by rw [e1]; rfl, fun q hq => ?_⟩
    rcases List.mem_cons.1 hq with rfl | hq
    · exact hz
    · exact e2 q hq
theorem qb_map {zs : List Int} (h : ∀ z ∈ zs, 0 ≤ z ∧ z ≤ 255) : ∀ u ∈ zs.map (Value.int .u8), QB u := by
  intro u hu
  simp only [List.mem_map] at hu
  obtain ⟨z, hz, rfl⟩ := hu
  exact ⟨z, rfl, h z hz⟩
theorem Own.all {B : Nat} {w : World} {v : Value} {n : Nat} {zs : List Int} (h : Own B w v n zs) : ∀ z ∈ zs, 0 ≤ z ∧ z ≤ 255 := by
  rcases h with ⟨_, _, rfl⟩ | ⟨g, _, _, hb, _⟩
  · simp
  · exact hb.2
theorem Own.toV {B : Nat} {w : World} {v : Value} {n : Nat} {zs : List Int} (h : Own B w v n zs) : OwnV B w 5 v n (zs.map (Value.int .u8)) := by
  rcases h with ⟨h1, h2, rfl⟩ | ⟨g, h1, h2, hb, h3, h4⟩
  · exact .inl ⟨h1, h2, rfl⟩
  · exact .inr ⟨g, by rw [List.length_map]; exact h1, h2, hb.1, by rw [List.length_map]; exact h3, by rw [List.length_map]; exact h4⟩
theorem OwnV.toOwn {B : Nat} {w : World} {v : Value} {n : Nat} {zs : List Int} (h : OwnV B w 5 v n (zs.map (Value.int .u8))) (hz : ∀ z ∈ zs, 0 ≤ z ∧ z ≤ 255) : Own B w v n zs := by
  rcases h with ⟨h1, h2, h3⟩ | ⟨g, h1, h2, hb, h3, h4⟩
  · exact .inl ⟨h1, h2, by simpa using h3⟩
  · rw [List.length_map] at h1 h3 h4
    exact .inr ⟨g, h1, h2, ⟨hb, hz⟩, h3, h4⟩
theorem int_inj : ∀ {a b : List Int}, a.map (Value.int .u8) = b.map (Value.int .u8) → a = b
  | [], [], _ => rfl
  | [], _ :: _, h => by simp at h
  | _ :: _, [], h => by simp at h
  | x :: a, y :: b, h => by
    simp only [List.map_cons, List.cons.injEq, Value.int.injEq, true_and] at h
    rw [h.1, int_inj (a := a) (b := b) h.2]
theorem cells_nums (t : ByteArray) : byteCells t = (nums t).map (Value.int .u8) := by
  simp [byteCells, nums]
/-- A text's bytes appended. -/
theorem wpList_append_str (w : World) {ops : Array Oper} {rest : List Oper} {o : Oper} {a : Act} {Q : Exit → Act → World → Prop} (hgd : o.guard = none) (s x : Operand)
    (ho : o.op = .call { callee := .builtin .append, args := #[s, x], argTypes := #[27, 9] }) (B : Nat) (v : Value) (n : Nat) (zs : List Int) (hs : a.eval s = v) (hown : Own B w v n zs)
    (t : ByteArray) (hx : a.eval x = .string t) (hb : n + t.size ≤ 140737488355328) (hB : B ≤ w.heap.size)
    (h : ∀ v' w' zs', Hid (Own B w' v' (n + t.size) zs') → Hid (zs'.take (n + t.size) = zs.take n ++ nums t) → w.grownBy w' v.ownBlock → wpList Tryz.prog ops Q rest (a.put o.dst v') w') : wpList Tryz.prog ops Q (o :: rest) a w := by
  refine wpList_append_row tyB w hgd s x 9 ho B v n (zs.map (Value.int .u8)) hs hown.toV (.string t) t.size (byteCells t) hx (Src.ofString w Tryz.underlying9 t) (by omega) (by simp only [maxLen]; omega) hB ?_
  intro v' w' xs' h1 h2 h3 h4
  obtain ⟨ys, rfl, hys⟩ := bytes_of xs' (h4.out.1 QB ⟨0, rfl, by omega, by omega⟩ (qb_map hown.all) (by rw [cells_nums]; exact qb_map (nums_all t)))
  refine h v' w' ys (h1.out.toOwn hys) ?_ h3
  have h2' := h2.out
  rw [cells_nums, ← List.map_take, ← List.map_take, ← List.map_append] at h2'
  exact int_inj h2'
/-- The bytes of labels, each with its length ahead. -/
def nby (l : List ByteArray) : List Int := l.flatMap fun s => (s.size : Int) :: nums s
theorem nby_snoc (l : List ByteArray) (s : ByteArray) : nby (l ++ [s]) = nby l ++ [(s.size : Int)] ++ nums s := by simp [nby]
theorem nby_len (l : List ByteArray) : (nby l).length + 1 = nsz l := by
  induction l with
  | nil => simp [nby, nsz]
  | cons x l ih => simp only [nby, List.flatMap_cons, List.length_append, List.length_cons, nums_len, nsz] at ih ⊢; omega
def nbytes (ss : List ByteArray) : List Int × Int := if nck ss = 0 then (nby ss ++ [0], 0) else ([], nck ss)
end Go.Proofs.YtfkfjodfjgjbkaaGreatDoor
/- Names out of texts, as the document reads them. -/
namespace Go.Proofs.YtfkfjodfjgjbkaaGreatDoor
open Go.ChangeShapes Go.WideShapes Go.ChangeAt Go.RowKit
set_option linter.unusedVariables false
set_option linter.unusedSimpArgs false


theorem go_le (l : List Int) (hb : ∀ z ∈ l, 0 ≤ z ∧ z ≤ 255) : ∀ (n p : Nat) (out o : List Int) (q : Nat), l.length - p ≤ n → p ≤ l.length → go l p out = some (o, q) → p ≤ q ∧ q ≤ l.length := by
  intro n
  induction n with
  | zero =>
    intro p out o q hn hp h
    rw [go_stop _ _ _ (by omega)] at h
    cases h
    omega
  | succ n ih =>
    intro p out o q hn hp h
    by_cases hs : p < l.length ∧ l.getD p 0 ≠ 46
    · by_cases hf : (fr (l.drop p)).2 ≤ 0
      · rw [go_bad _ _ _ hs hf] at h; cases h
      · rw [go_step _ _ _ hs hf] at h
        have hfb := fr_bd (l.drop p) (fun z hz => hb z (List.mem_of_mem_drop hz)) (by rw [List.length_drop]; omega)
        rw [List.length_drop] at hfb
        have := ih _ _ _ _ (by omega) (by omega) h
        omega
    · rw [go_stop _ _ _ hs] at h
      cases h
      omega
theorem pres_le (l : List Int) (hb : ∀ z ∈ l, 0 ≤ z ∧ z ≤ 255) (h : (pres l).2.2 = 0) : ∃ p : Nat, (pres l).2.1 = (p : Int) ∧ p ≤ l.length ∧ 1 ≤ (pres l).1.length ∧ (pres l).1.length ≤ 63 := by
  unfold pres at h ⊢
  cases hg : go l 0 [] with
  | none => rw [hg] at h; cases h
  | some r =>
    obtain ⟨o, q⟩ := r
    rw [hg] at h
    simp only at h ⊢
    split at h
    · rename_i h1
      rw [if_pos h1]
      exact ⟨q, rfl, (go_le l hb _ 0 [] o q (Nat.le_refl _) (Nat.zero_le _) hg).2, h1.1, h1.2⟩
    · cases h
theorem pres_err (l : List Int) : (pres l).2.2 = 0 ∨ (pres l).2.2 = 4 ∨ (pres l).2.2 = 120 := by
  unfold pres
  cases go l 0 [] with
  | none => simp
  | some r => simp only; split <;> simp
/-- A label out of bytes. -/
def lb (l : List Int) : ByteArray := ⟨(txt l).toArray⟩
theorem lb_size (l : List Int) : (lb l).size = l.length := txt_size l
/-- The labels of a text, up to its end; whether a . stands behind the last one; the error. -/
def lgo (l : List Int) (out : List ByteArray) : List ByteArray × Bool × Int :=
  if (pres l).2.2 = 0 then
    if (pres l).2.1 = (l.length : Int) then (out ++ [lb (pres l).1], false, 0)
    else if h : (l.drop ((pres l).2.1.toNat + 1)).length = 0 then (out ++ [lb (pres l).1], true, 0)
    else lgo (l.drop ((pres l).2.1.toNat + 1)) (out ++ [lb (pres l).1])
  else ([], false, (pres l).2.2)
termination_by l.length
decreasing_by
  simp only [List.length_drop] at h ⊢
  omega
def LPost (r : List ByteArray × Bool × Int) (w : World) (e : Ending) (w' : World) : Prop :=
  ∃ v ys, e = .returned (.tuple #[v, .bool r.2.1, .int .i64 r.2.2]) ∧ Hid (OwnT w.heap.size w' v r.1.length ys 1000000000000 ∧ ys.take r.1.length = r.1 ∧ Below w.heap.size w w')
theorem lgo_bd : ∀ (n : Nat) (l : List Int) (out : List ByteArray), l.length ≤ n → (∀ z ∈ l, 0 ≤ z ∧ z ≤ 255) → (∀ x ∈ out, x.size ≤ 63) → (∀ x ∈ (lgo l out).1, x.size ≤ 63) ∧ (lgo l out).1.length ≤ out.length + l.length + 1 := by
  intro n
  induction n with
  | zero =>
    intro l out hl hb ho
    have e : l = [] := List.eq_nil_of_length_eq_zero (by omega)
    subst e
    rw [lgo, if_neg]
    · simp
    · have : pres [] = ([], 0, 4) := (pres_no (l := []) (out := []) (p := 0) (go_stop _ _ _ (by simp)) (by decide)).1
      rw [this]
      decide
  | succ n ih =>
    intro l out hl hb ho
    rw [lgo]
    by_cases h0 : (pres l).2.2 = 0
    · rw [if_pos h0]
      obtain ⟨p, hp, hpl, hl1, hl2⟩ := pres_le l hb h0
      have ho2 : ∀ x ∈ out ++ [lb (pres l).1], x.size ≤ 63 := by
        intro x hx
        rcases List.mem_append.1 hx with hx | hx
        · exact ho x hx
        · simp at hx; subst hx; rw [lb_size]; exact hl2
      rw [hp, Int.toNat_natCast]
      split
      · exact ⟨ho2, by rw [List.length_append]; show out.length + 1 ≤ _; omega⟩
      · split
        · exact ⟨ho2, by rw [List.length_append]; show out.length + 1 ≤ _; omega⟩
        · rename_i h1 h2
          rw [List.length_drop] at h2
          have := ih (l.drop (p + 1)) (out ++ [lb (pres l).1]) (by rw [List.length_drop]; omega) (fun z hz => hb z (List.mem_of_mem_drop hz)) ho2
          refine ⟨this.1, Nat.le_trans this.2 ?_⟩
          rw [List.length_append, List.length_drop]
          show out.length + 1 + _ + 1 ≤ _
          omega
    · rw [if_neg h0]
      simp
theorem nsz_bd (l : List ByteArray) (h : ∀ x ∈ l, x.size ≤ 63) : nsz l ≤ 64 * l.length + 1 := by
  induction l with
  | nil => simp [nsz]
  | cons x l ih =>
    have := ih (fun y hy => h y (by simp [hy]))
    have := h x (by simp)
    simp only [nsz, List.length_cons]
    omega
theorem lgo_nsz (s : ByteArray) (hs : s.size ≤ 1000000000) : nsz (lgo (nums s) []).1 ≤ 1000000000000 := by
  have := lgo_bd _ (nums s) [] (Nat.le_refl _) (nums_all s) (by simp)
  have h2 := nsz_bd _ this.1
  rw [nums_len] at this
  simp at this
  omega
/-- What Parse answers. -/
def nparse (s : ByteArray) : List ByteArray × Int :=
  if s.toList = [46] then ([], 0)
  else if (lgo (nums s) []).2.2 = 0 then
    (if (lgo (nums s) []).2.1 then (if nck (lgo (nums s) []).1 = 0 then ((lgo (nums s) []).1, 0) else ([], nck (lgo (nums s) []).1)) else ([], 5))
  else ([], (lgo (nums s) []).2.2)
/-- What Relative answers. -/
def nrel (s : ByteArray) (og : List ByteArray) : List ByteArray × Int :=
  if nck og = 0 then
    (if s.toList = [64] then (og, 0) else if s.toList = [46] then ([], 0)
    else if (lgo (nums s) []).2.2 = 0 then (if (lgo (nums s) []).2.1 then nparse s else njoin (lgo (nums s) []).1 og) else ([], (lgo (nums s) []).2.2))
  else ([], nck og)
end Go.Proofs.YtfkfjodfjgjbkaaGreatDoor
/- The library's FormatUint at base 16, for numbers of two bytes. -/
namespace Go.Proofs.YtfkfjodfjgjbkaaGreatDoor
open Go.ChangeShapes Go.WideShapes Go.ChangeAt Go.RowKit Go.Sort
set_option linter.unusedVariables false
set_option linter.unusedSimpArgs false

theorem tz64 (w : World) (hL : LayT w) : Calls Tryz.prog 192 #[.int .u64 16] w fun e w' => e = .returned (.int .i64 4) ∧ w' = w := by
  have hc := hL.2.2
  have hA : bits .and .u64 16 (IntKind.u64.wrap (-16)) = 16 := by decide +kernel
  have hW : IntKind.u64.wrap 4573923408821661840 = 4573923408821661840 := by decide +kernel
  clear hL
  go_enter Tryz.func192, Tryz.ntmps192
  go_wp2
  go_ret
  exact ⟨rfl, rfl⟩
theorem tz16 (w : World) (hL : LayT w) : Calls Tryz.prog 177 #[.int .u64 16] w fun e w' => e = .returned (.int .i64 4) ∧ w' = w := by
  have K : Hid (LayT w) := hL
  clear hL
  go_enter Tryz.func177, Tryz.ntmps177
  go_wp2_with fail
  refine (tz64 w K.out).mono ?_
  rintro e w' ⟨rfl, rfl⟩
  go_wp2_with fail
  go_ret
  exact ⟨rfl, rfl⟩
theorem pow16 (w : World) : Calls Tryz.prog 176 #[.int .i64 16] w fun e w' => e = .returned (.bool true) ∧ w' = w := by
  go_enter Tryz.func176, Tryz.ntmps176
  go_wp2
  go_ret
  exact ⟨rfl, rfl⟩

/-- 65 cells of which the last ones are digits. -/
def fbx (ds : List Int) : List Value := List.replicate (65 - ds.length) (.int .u8 0) ++ ds.map (Value.int .u8)
theorem fbx_len (ds : List Int) (h : ds.length ≤ 65) : (fbx ds).length = 65 := by simp [fbx]; omega
theorem fbx_set (ds : List Int) (z : Int) (h : ds.length < 65) : (fbx ds).set (64 - ds.length) (.int .u8 z) = fbx (z :: ds) := by
  unfold fbx
  rw [List.set_append_left _ _ (by simp; omega)]
  rw [show 65 - ds.length = (64 - ds.length) + 1 by omega, List.replicate_succ', List.set_append_right _ _ (by simp)]
  simp [show 65 - (ds.length + 1) = 64 - ds.length by omega]
theorem fbx_at (ds : List Int) (j : Nat) (h : ds.length ≤ 65) (hj : j < ds.length) : (fbx ds)[65 - ds.length + j]? = some (.int .u8 (ds.getD j 0)) := by
  unfold fbx
  rw [List.getElem?_append_right (by simp), List.length_replicate, show 65 - ds.length + j - (65 - ds.length) = j by omega, List.getElem?_map, List.getD_eq_getElem?_getD, List.getElem?_eq_getElem hj]
  rfl
theorem fbx_new (w : World) : BlkV (w.alloc (.cells Tryz.zeroCells193 193)) w.heap.size 193 (fbx []) := by
  have e : Tryz.zeroCells193 = (fbx []).toArray := by kernel_rfl
  rw [e]
  exact heap_alloc_new _ _
theorem xd_get (d : Nat) (h : d < ({ data := #[48, 49, 50, 51, 52, 53, 54, 55, 56, 57, 97, 98, 99, 100, 101, 102, 103, 104, 105, 106, 107, 108, 109, 110, 111, 112, 113, 114, 115, 116, 117, 118, 119, 120, 121, 122] } : ByteArray).size) (h1 : d < 16) : ((({ data := #[48, 49, 50, 51, 52, 53, 54, 55, 56, 57, 97, 98, 99, 100, 101, 102, 103, 104, 105, 106, 107, 108, 109, 110, 111, 112, 113, 114, 115, 116, 117, 118, 119, 120, 121, 122] } : ByteArray)[d]'h).toNat : Int) = xhd d := by
  rcases (by omega : d = 0 ∨ d = 1 ∨ d = 2 ∨ d = 3 ∨ d = 4 ∨ d = 5 ∨ d = 6 ∨ d = 7 ∨ d = 8 ∨ d = 9 ∨ d = 10 ∨ d = 11 ∨ d = 12 ∨ d = 13 ∨ d = 14 ∨ d = 15) with rfl | rfl | rfl | rfl | rfl | rfl | rfl | rfl | rfl | rfl | rfl | rfl | rfl | rfl | rfl | rfl <;> kernel_rfl
theorem sl65 (g k : Nat) (hk : k ≤ 64) (W : World) : (Instr.sliceAt 193 (.pointer (some ⟨g, 0, none⟩)) (some (.int .i64 (k : Int))) none none).run Tryz.prog W = .ok (.slice (some ⟨g, k, none⟩) (65 - k) (65 - k)) W := by
  have hal : Tryz.prog.arrayLen 193 = 65 := by kernel_rfl
  rw [run_sliceAt_array_l W 193 ⟨g, 0, none⟩ (by simp [Program.arrayLen, Program.elem, Tryz.underlying193]) .i64 (k : Int) (by omega) (by rw [hal]; omega)]
  go_simp
  omega
theorem p16 (n v : Nat) (hv : 1 ≤ v) (h : v * 16 ^ n < 65536) : n < 4 := by
  by_cases hn : n < 4
  · exact hn
  · have h1 : (16 : Nat) ^ 4 ≤ 16 ^ n := Nat.pow_le_pow_right (by omega) (by omega)
    have h2 : 1 * 16 ^ n ≤ v * 16 ^ n := Nat.mul_le_mul_right _ hv
    omega
theorem and15u (u : Nat) (h : u < 65536) : bits .and .u64 (u : Int) 15 = ((u % 16 : Nat) : Int) := by
  have := u64_and (u : Int) 15 (by omega) (by omega) (by omega) (by omega)
  rw [this]
  simp
  have : u &&& 15 = u % 16 := Nat.and_two_pow_sub_one_eq_mod u 4
  rw [this]; omega

set_option maxRecDepth 100000 in
set_option maxHeartbeats 4000000 in
theorem bits16 (u : Nat) (hu : u < 65536) (w : World) (hL : LayT w) :
    Calls Tryz.prog 149 #[.slice none 0 0, .int .u64 u, .int .i64 16, .bool false, .bool false] w fun e w' => e = .returned (.tuple #[.slice none 0 0, .string (lb (xhex u))]) ∧ Hid (Below w.heap.size w w') := by
  have HL : Hid (LayT w) := hL
  clear hL
  have HU : Hid (u < 65536) := hu
  go_enter Tryz.func149, Tryz.ntmps149
  go_wp2_with fail
  have H0 := Lib.hid (fbx_new w)
  have HB0 : Hid (Below w.heap.size w (w.alloc (.cells Tryz.zeroCells193 193))) := (Below.refl _ _).alloc (Nat.le_refl _) _
  generalize (w.alloc (.cells Tryz.zeroCells193 193)) = wa at *
  refine (pow16 _).mono ?_
  rintro e w' ⟨rfl, hw⟩
  subst w'
  go_wp2_with fail
  refine (tz16 _ (HL.out.below HB0.out)).mono ?_
  rintro e w' ⟨rfl, hw⟩
  subst w'
  go_wp2_with fail
  go_loopw [1, 13] (fun x y wr => ∃ (v k : Nat) (ds : List Int), x = .int .u64 v ∧ y = .int .i64 ((k : Int) + 1) ∧ k + ds.length = 64 ∧ v < 65536 ∧ Hid (xhex u = xhex v ++ ds ∧ (∀ z ∈ ds, 0 ≤ z ∧ z ≤ 255)) ∧ v * 16 ^ ds.length < 65536 ∧ Hid (BlkV wr w.heap.size 193 (fbx ds) ∧ Below w.heap.size w wr)) (fun x _ _ => (intOf x).toNat)
  case atStart => exact ⟨u, 64, [], rfl, rfl, rfl, HU.out, ⟨by simp, by simp⟩, by simpa using HU.out, H0.out, HB0.out⟩
  case round =>
    obtain ⟨v, k, ds, rfl, rfl, hkd, hv, HX, hds, HW⟩ := hrel
    clear H0 HB0
    have hk : k < (fbx ds).length := by rw [fbx_len _ (by omega)]; omega
    have hc := HW.out.1.cell k hk
    have hfz := HW.out.1.frozen k
    generalize (fbx ds)[k] = c0 at hc
    by_cases h16 : 16 ≤ v
    · have h16' : (16 : Int) ≤ (v : Int) := by omega
      have hA := and15u v hv
      have hl4 := p16 ds.length v (by omega) hds
      have HZ : Hid (0 ≤ xhd (v % 16) ∧ xhd (v % 16) ≤ 255) := by show _ ∧ _; unfold xhd; split <;> omega
      have HD : Hid (xhex v = xhex (v / 16) ++ [xhd (v % 16)]) := by show _ = _; rw [xhex, dif_neg (by omega)]
      have hk64 : (k : Int) < 65 := by omega
      go_wp2_with fail
      rw [xd_get (v % 16) (by show _ < 36; omega) (by omega)]
      generalize xhd (v % 16) = z at *
      have hsh : 16 ^ (ds.length + 1) = 16 * 16 ^ ds.length := by rw [Nat.pow_succ, Nat.mul_comm]
      refine ⟨⟨v / 16, k - 1, z :: ds, by go_num, by congr 1; omega, by simp; omega, by omega, ⟨?_, ?_⟩, ?_, ?_, ?_⟩, by simp [intOf]; omega⟩
      · rw [HX.out.1, HD.out]; simp
      · intro y hy
        rcases List.mem_cons.1 hy with rfl | hy
        · exact HZ.out
        · exact HX.out.2 y hy
      · rw [List.length_cons, hsh, ← Nat.mul_assoc]
        have : v / 16 * 16 ≤ v := Nat.div_mul_le_self v 16
        exact Nat.lt_of_le_of_lt (Nat.mul_le_mul_right _ this) hds
      · have := HW.out.1.stored k (.int .u8 z)
        rw [show k = 64 - ds.length by omega, fbx_set ds z (by omega)] at this
        rw [show k = 64 - ds.length by omega]
        exact this
      · exact HW.out.2.setCell (show w.heap.size ≤ (⟨w.heap.size, k, none⟩ : Addr).block from Nat.le_refl _) _
    · have h16' : ¬ (16 : Int) ≤ (v : Int) := by omega
      have hk64 : (k : Int) < 65 := by omega
      have hsl := sl65 w.heap.size k (by omega)
      have HZ : Hid (0 ≤ xhd v ∧ xhd v ≤ 255) := by show _ ∧ _; unfold xhd; split <;> omega
      have HD : Hid (xhex v = [xhd v]) := by show _ = _; rw [xhex, dif_pos (by omega)]
      have hzz := xd_get v (by show _ < 36; omega) (by omega)
      generalize xhd v = z at *
      have hb2 : BlkV (wr.setCell ⟨w.heap.size, k, none⟩ (.int .u8 z)) w.heap.size 193 (fbx (z :: ds)) := by
        have := HW.out.1.stored k (.int .u8 z)
        rw [show k = 64 - ds.length by omega, fbx_set ds z (by omega)] at this
        rw [show k = 64 - ds.length by omega]
        exact this
      have HL2 : Hid (xhex u = z :: ds ∧ ∀ y ∈ z :: ds, 0 ≤ y ∧ y ≤ 255) := by
        refine ⟨by rw [HX.out.1, HD.out]; rfl, fun y hy => ?_⟩
        rcases List.mem_cons.1 hy with rfl | hy
        · exact HZ.out
        · exact HX.out.2 y hy
      have hcv : (convert 27 9 (.slice (some ⟨w.heap.size, k, none⟩) (65 - k) (65 - k))).run Tryz.prog (wr.setCell ⟨w.heap.size, k, none⟩ (.int .u8 z)) = .ok (.string (lb (xhex u))) (wr.setCell ⟨w.heap.size, k, none⟩ (.int .u8 z)) := by
        have h := run_convert_bytes_back (P := Tryz.prog) (wr.setCell ⟨w.heap.size, k, none⟩ (.int .u8 z)) 27 9 5 ⟨w.heap.size, k, none⟩ (65 - k) (txt (z :: ds)) Tryz.underlying27 Tryz.underlying5 Tryz.underlying9 (fun j hj => by
          rw [txt_len] at hj
          rw [Lib.add_plain]
          have hjl : k + j < (fbx (z :: ds)).length := by rw [fbx_len _ (by simp; omega)]; simp at hj; omega
          have h1 := hb2.cell (k + j) hjl
          have h2 := fbx_at (z :: ds) j (by simp; omega) hj
          rw [show 65 - (z :: ds).length + j = k + j by simp; omega, List.getElem?_eq_getElem hjl] at h2
          injection h2 with h2
          rw [h1, h2]
          have hm : (z :: ds).getD j 0 ∈ z :: ds := by rw [List.getD_eq_getElem?_getD, List.getElem?_eq_getElem hj]; exact List.getElem_mem hj
          have hbd := HL2.out.2 _ hm
          have e : (txt (z :: ds))[j]'(by rw [txt_len]; exact hj) = UInt8.ofNat ((z :: ds).getD j 0).toNat := by
            simp only [txt, List.getElem_map, List.getD_eq_getElem?_getD, List.getElem?_eq_getElem hj, Option.getD_some]
          rw [e]
          generalize (z :: ds).getD j 0 = y at hbd
          congr 2
          simp
          omega)
        rw [txt_len, show (z :: ds).length = 65 - k by simp; omega] at h
        rw [HL2.out.1]
        exact h
      have HCV := Lib.hid hcv
      have HB9 : Hid (Below w.heap.size w (wr.setCell ⟨w.heap.size, k, none⟩ (.int .u8 z))) := HW.out.2.setCell (show w.heap.size ≤ (⟨w.heap.size, k, none⟩ : Addr).block from Nat.le_refl _) _
      clear hcv hb2
      have hcv := HCV.out
      go_wp2_with fail
      go_ret2
      exact ⟨rfl, HB9.out⟩
theorem fmt16_in (u : Nat) (hu : u < 65536) (w : World) (hL : LayT w) :
    Calls Tryz.prog 129 #[.int .u64 u, .int .i64 16] w fun e w' => e = .returned (.string (lb (xhex u))) ∧ Hid (Below w.heap.size w w') := by
  have K : Hid (LayT w) := hL
  clear hL
  go_enter Tryz.func129, Tryz.ntmps129
  go_wp2_with fail
  refine (bits16 u hu w K.out).mono ?_
  rintro e w' ⟨rfl, H⟩
  go_wp2_with fail
  go_ret
  exact ⟨rfl, H.out⟩
theorem fmt16 (u : Nat) (hu : u < 65536) (w : World) (hL : LayT w) :
    Calls Tryz.prog 101 #[.int .u64 u, .int .i64 16] w fun e w' => e = .returned (.string (lb (xhex u))) ∧ Hid (Below w.heap.size w w') := by
  have K : Hid (LayT w) := hL
  clear hL
  go_enter Tryz.func101, Tryz.ntmps101
  go_wp2_with fail
  refine (fmt16_in u hu w K.out).mono ?_
  rintro e w' ⟨rfl, H⟩
  go_wp2_with fail
  go_ret
  exact ⟨rfl, H.out⟩
end Go.Proofs.YtfkfjodfjgjbkaaGreatDoor
/- The library's ParseUint at base 16, of at most 16 bits; numbers in decimal digits, as the program reads them. -/
namespace Go.Proofs.YtfkfjodfjgjbkaaGreatDoor
open Go.ChangeShapes Go.WideShapes Go.ChangeAt Go.RowKit Go.Sort
set_option linter.unusedVariables false
set_option linter.unusedSimpArgs false

theorem low_all : ∀ c : Fin 256, (65 ≤ c.val ∧ c.val ≤ 90 → c.val ||| 32 = c.val + 32) ∧ (97 ≤ c.val ∧ c.val ≤ 122 → c.val ||| 32 = c.val) ∧ (¬ (65 ≤ c.val ∧ c.val ≤ 90) → ¬ (97 ≤ c.val ∧ c.val ≤ 122) → (c.val ||| 32 < 97 ∨ 122 < c.val ||| 32)) ∧ c.val ||| 32 < 256 := by decide +kernel
theorem low_any (c : Nat) (hc : c < 256) (w : World) : Calls Tryz.prog 163 #[.int .u8 (c : Int)] w fun e w' => e = .returned (.int .u8 ((c ||| 32 : Nat) : Int)) ∧ w' = w := by
  refine (Tryz.internal_strconv_lower (c : Int) w).mono ?_
  rintro e w' ⟨rfl, rfl⟩
  have := u8_or (c : Int) 32 (by omega) (by omega) (by omega) (by omega)
  rw [this]
  exact ⟨rfl, rfl⟩
def hx1 (v : Nat) : Option Nat := if 97 ≤ v ∧ v ≤ 102 then some (v - 87) else none
theorem xhv_low (c : Nat) (hc : c < 256) (hd : ¬ (48 ≤ c ∧ c ≤ 57)) : xhv (c : Int) = hx1 (c ||| 32) := by
  obtain ⟨h1, h2, h3, h4⟩ := low_all ⟨c, hc⟩
  simp only at h1 h2 h3 h4
  unfold xhv hx1
  rw [if_neg (by omega)]
  by_cases ha : 97 ≤ c ∧ c ≤ 122
  · rw [h2 ha]
    by_cases hb : c ≤ 102
    · rw [if_pos (by omega), if_pos (by omega)]; congr 1; omega
    · rw [if_neg (by omega), if_neg (by omega), if_neg (by omega)]
  · by_cases hb : 65 ≤ c ∧ c ≤ 90
    · rw [h1 hb, if_neg (by omega)]
      by_cases hb : c ≤ 70
      · rw [if_pos (by omega), if_pos (by omega)]; congr 1; omega
      · rw [if_neg (by omega), if_neg (by omega)]
    · have := h3 hb ha
      rw [if_neg (by omega), if_neg (by omega), if_neg (by omega)]

set_option maxHeartbeats 32000000 in
set_option maxRecDepth 100000 in
theorem pu16_in (t : ByteArray) (hne : t.size ≠ 0) (hmax : t.size ≤ 9223372036854775806) (w : World) :
    Calls Tryz.prog 138 #[.string t, .int .i64 16, .int .i64 16] w fun e w' => e = .returned (Lib.uintTupleM 182 65535 (puX 0 t.data.toList)) ∧ w' = Lib.bytesWorld w 5 t := by
  have hemp : t.toList.isEmpty = false := by
    rw [← decide_eq_emptyBytes]
    exact decide_eq_false (fun h => hne (by rw [h]; rfl))
  have hcv := Lib.run_convert_string_bytes (P := Tryz.prog) w 9 27 5 t (u := .string) Tryz.underlying9 Tryz.underlying27 Tryz.underlying5
  have hB : ∀ j, j < t.size → (Lib.bytesWorld w 5 t).cell? ⟨w.heap.size, j, none⟩ = some (.int .u8 (t.data.toList.getD j 0).toNat) := fun j hj => Lib.bytesWorld_cell w 5 t j hj
  obtain ⟨W1, hW1⟩ : ∃ W1, W1 = Lib.bytesWorld w 5 t := ⟨_, rfl⟩
  rw [← hW1] at hcv hB ⊢
  clear hW1
  obtain ⟨bs, hL⟩ : ∃ bs, bs = t.data.toList := ⟨_, rfl⟩
  have hLn : bs.length = t.size := by rw [hL, Lib.size_eq]
  rw [← hL] at hB ⊢
  clear hL
  have hmv : IntKind.u64.wrap (IntKind.u64.wrap 65536 - 1) = 65535 := by
    rw [IntKind.wrap_u64, IntKind.wrap_u64]
    decide
  go_enter Tryz.func138, Tryz.ntmps138
  go_wp2
  go_loop [12, 13, 101] (fun vu vn vi => ∃ (k acc : Nat) (a : Int), vu = .bool false ∧ vn = .int .u64 a ∧ vi = .int .i64 k ∧ k ≤ t.size ∧ Hid (a = (acc : Int) ∧ acc ≤ 65535 ∧ puX 0 bs = puX acc (bs.drop k)))
    (fun _ _ vi => t.size - (intOf vi).toNat)
  case atStart => exact ⟨0, 0, 0, rfl, rfl, rfl, by omega, rfl, by omega, rfl⟩
  case round =>
    obtain ⟨k, acc, a, rfl, rfl, rfl, hk, hh⟩ := hrel
    obtain ⟨ha, hacc, hdec⟩ := hh.out
    clear hh
    have a0 : 0 ≤ a := by omega
    have a1 : a ≤ 65535 := by omega
    by_cases hkn : k < t.size
    · have hc := hB k hkn
      have hdrop : bs.drop k = bs[k]'(by omega) :: bs.drop (k + 1) := List.drop_eq_getElem_cons (by omega)
      have hget : bs.getD k 0 = bs[k]'(by omega) := by simp [List.getD, List.getElem?_eq_getElem (show k < bs.length by omega)]
      rw [hdrop] at hdec
      rw [hget] at hc
      generalize bs[k]'(by omega) = c at hc hdec
      have hc256 : c.toNat < 256 := c.toNat_lt
      clear hB hdrop hget
      simp only [puX] at hdec
      generalize hR : bs.drop (k + 1) = R at hdec
      by_cases hdig : 48 ≤ c.toNat ∧ c.toNat ≤ 57
      · have hxv : xhv (c.toNat : Int) = some (c.toNat - 48) := by
          unfold xhv; rw [if_pos (by omega)]; congr 1; omega
        rw [hxv] at hdec
        simp only at hdec
        obtain ⟨hd0, hd1⟩ := hdig
        clear hxv
        by_cases hov : 65535 < acc * 16 + (c.toNat - 48)
        · rw [if_pos hov] at hdec
          have iov : 65535 < a * 16 + ((c.toNat : Int) - 48) := by omega
          clear hacc hov ha
          go_wp2
          go_ret2
          exact ⟨rfl, rfl⟩
        · rw [if_neg hov] at hdec
          have HN : Hid (a * 16 + ((c.toNat : Int) - 48) = ((acc * 16 + (c.toNat - 48) : Nat) : Int) ∧ acc * 16 + (c.toNat - 48) ≤ 65535 ∧ puX 0 bs = puX (acc * 16 + (c.toNat - 48)) (bs.drop (k + 1))) := Lib.hid ⟨by omega, by omega, by rw [hR]; exact hdec⟩
          have iov : a * 16 + ((c.toNat : Int) - 48) ≤ 65535 := by omega
          clear hacc hov hdec ha
          go_wp2
          refine ⟨⟨k + 1, acc * 16 + (c.toNat - 48), a * 16 + ((c.toNat : Int) - 48), rfl, (by first | rfl | (congr 1; omega)), (by first | rfl | (congr 1; omega)), by omega, HN⟩, by simp [intOf]; omega⟩
      · have KL := Lib.hid (low_any c.toNat hc256)
        rw [xhv_low c.toNat hc256 hdig] at hdec
        have hv256 := (low_all ⟨c.toNat, hc256⟩).2.2.2
        have h95 : c.toNat = 95 → c.toNat ||| 32 = 127 := by intro h; rw [h]; rfl
        simp only at hv256
        generalize c.toNat ||| 32 = v at *
        by_cases h97 : 97 ≤ v
        · by_cases h122 : v ≤ 122
          · have hn95 : ¬ (c.toNat : Int) = 95 := by intro h; have := h95 (by omega); omega
            have i97 : (97 : Int) ≤ (v : Int) := by omega
            have i122 : (v : Int) ≤ 122 := by omega
            by_cases h102 : v ≤ 102
            · have hxv : hx1 v = some (v - 87) := by unfold hx1; rw [if_pos ⟨h97, h102⟩]
              rw [hxv] at hdec
              simp only at hdec
              clear hxv
              have i102 : (v : Int) ≤ 102 := by omega
              by_cases hov : 65535 < acc * 16 + (v - 87)
              · rw [if_pos hov] at hdec
                have iov : 65535 < a * 16 + ((v : Int) - 97 + 10) := by omega
                clear hacc hov ha h95
                rcases (by omega : (c.toNat : Int) < 48 ∨ 57 < (c.toNat : Int)) with hq | hq
                all_goals
                  go_wp2_with (go_at_call 163; refine (KL.out _).mono ?_; rintro e w' ⟨rfl, hw⟩; subst w')
                  go_ret2
                  first | exact ⟨rfl, rfl⟩ | exact ⟨by rw [hdec]; rfl, rfl⟩
              · rw [if_neg hov] at hdec
                have HN : Hid (a * 16 + ((v : Int) - 97 + 10) = ((acc * 16 + (v - 87) : Nat) : Int) ∧ acc * 16 + (v - 87) ≤ 65535 ∧ puX 0 bs = puX (acc * 16 + (v - 87)) (bs.drop (k + 1))) := Lib.hid ⟨by omega, by omega, by rw [hR]; exact hdec⟩
                have iov : a * 16 + ((v : Int) - 97 + 10) ≤ 65535 := by omega
                clear hacc hov hdec ha h95
                rcases (by omega : (c.toNat : Int) < 48 ∨ 57 < (c.toNat : Int)) with hq | hq
                all_goals
                  go_wp2_with (go_at_call 163; refine (KL.out _).mono ?_; rintro e w' ⟨rfl, hw⟩; subst w')
                  refine ⟨⟨k + 1, acc * 16 + (v - 87), a * 16 + ((v : Int) - 97 + 10), rfl, (by first | rfl | (congr 1; omega)), (by first | rfl | (congr 1; omega)), by omega, HN⟩, by simp [intOf]; omega⟩
            · have hxv : hx1 v = none := by unfold hx1; rw [if_neg (by omega)]
              rw [hxv] at hdec
              simp only at hdec
              have i102 : 102 < (v : Int) := by omega
              clear hacc ha h95 hxv
              rcases (by omega : (c.toNat : Int) < 48 ∨ 57 < (c.toNat : Int)) with hq | hq
              all_goals
                go_wp2_with (go_at_call 163; refine (KL.out _).mono ?_; rintro e w' ⟨rfl, hw⟩; subst w')
                go_ret2
                first | exact ⟨rfl, rfl⟩ | exact ⟨by rw [hdec]; rfl, rfl⟩
          · have hxv : hx1 v = none := by unfold hx1; rw [if_neg (by omega)]
            rw [hxv] at hdec
            simp only at hdec
            have i97 : (97 : Int) ≤ (v : Int) := by omega
            have i122 : 122 < (v : Int) := by omega
            clear hacc ha h95 hxv
            rcases (by omega : (c.toNat : Int) < 48 ∨ (57 < (c.toNat : Int) ∧ (c.toNat : Int) < 95) ∨ 95 < (c.toNat : Int) ∨ c.toNat = 95) with hq | ⟨hq, hq2⟩ | hq | hq
            case inr.inr.inr =>
              have hq : (c.toNat : Int) = 95 := by omega
              rw [hq] at hc KL
              go_wp2_with (go_at_call 163; refine (KL.out _).mono ?_; rintro e w' ⟨rfl, hw⟩; subst w')
              go_ret2
              first | exact ⟨rfl, rfl⟩ | exact ⟨by rw [hdec]; rfl, rfl⟩
            all_goals
              go_wp2_with (go_at_call 163; refine (KL.out _).mono ?_; rintro e w' ⟨rfl, hw⟩; subst w')
              go_ret2
              first | exact ⟨rfl, rfl⟩ | exact ⟨by rw [hdec]; rfl, rfl⟩
        · have hxv : hx1 v = none := by unfold hx1; rw [if_neg (by omega)]
          rw [hxv] at hdec
          simp only at hdec
          have hn95 : ¬ (c.toNat : Int) = 95 := by intro h; have := h95 (by omega); omega
          have i97 : (v : Int) < 97 := by omega
          clear hacc ha h95 hxv
          rcases (by omega : (c.toNat : Int) < 48 ∨ 57 < (c.toNat : Int)) with hq | hq
          all_goals
            go_wp2_with (go_at_call 163; refine (KL.out _).mono ?_; rintro e w' ⟨rfl, hw⟩; subst w')
            go_ret2
            first | exact ⟨rfl, rfl⟩ | exact ⟨by rw [hdec]; rfl, rfl⟩
    · have hkk : k = t.size := by omega
      subst hkk
      have hF : puX acc (bs.drop t.size) = .ok acc := by rw [List.drop_eq_nil_of_le (by omega)]; rfl
      rw [hF] at hdec
      subst ha
      clear hacc hF a0 a1
      go_wp2
      go_ret2
      first | exact ⟨rfl, rfl⟩ | exact ⟨by rw [hdec]; rfl, rfl⟩
end Go.Proofs.YtfkfjodfjgjbkaaGreatDoor
/- Numbers and texts with escapes, as the program reads them. -/
namespace Go.Proofs.YtfkfjodfjgjbkaaGreatDoor
open Go.ChangeShapes Go.WideShapes Go.ChangeAt Go.RowKit Go.Sort
set_option linter.unusedVariables false
set_option linter.unusedSimpArgs false

theorem nums_bi (s : ByteArray) : nums s = bi s.data.toList := rfl
theorem bw_below {w w' : World} {s : ByteArray} (h : w' = w ∨ w' = Lib.bytesWorld w 5 s) : Below w.heap.size w w' := by
  rcases h with rfl | rfl
  · exact Below.refl _ _
  · exact Lib.bytesWorld_below _ _ _
theorem pu10_ok (B : Nat) (hB : B = 8 ∨ B = 32) (s : ByteArray) (hs : s.size ≤ 281474976710656) (u : Nat) (h : Lib.parseUintB B s.data.toList = .ok u) (w : World) :
    Calls Tryz.prog 124 #[.string s, .int .i64 10, .int .i64 (B : Int)] w fun e w' => e = .returned (.tuple #[.int .u64 u, .nilIface]) ∧ Hid (Below w.heap.size w w') := by
  rcases hB with rfl | rfl
  · refine (Tryz.strconv_ParseUint_10_at8_ok s (by omega) u h w).mono ?_
    rintro e w' ⟨rfl, hw⟩
    exact ⟨rfl, bw_below hw⟩
  · refine (Tryz.strconv_ParseUint_10_at32_ok s (by omega) u h w).mono ?_
    rintro e w' ⟨rfl, hw⟩
    exact ⟨rfl, bw_below hw⟩
theorem pu10_no (B : Nat) (hB : B = 8 ∨ B = 32) (s : ByteArray) (hs : s.size ≤ 281474976710656) (h : ∀ u, Lib.parseUintB B s.data.toList ≠ .ok u) (w : World) (hE : LayE w) :
    Calls Tryz.prog 124 #[.string s, .int .i64 10, .int .i64 (B : Int)] w fun e w' => ∃ x N, e = .returned (.tuple #[.int .u64 x, .iface 184 (.pointer (some ⟨N, 0, none⟩))]) ∧ (0 ≤ x ∧ x ≤ 4294967295) ∧ Hid (Below w.heap.size w w') := by
  obtain ⟨⟨tp, p, h1⟩, ⟨tq, q, h2⟩, _, _⟩ := hE
  cases hr : Lib.parseUintB B s.data.toList with
  | ok u => exact absurd hr (h u)
  | «syntax» =>
    rcases hB with rfl | rfl
    · refine (Tryz.strconv_ParseUint_10_at8_syntax_var s hs hr tp p w h1).mono ?_
      rintro e w' ⟨N, rfl, _, _, hb⟩
      exact ⟨_, N, rfl, by omega, hb⟩
    · refine (Tryz.strconv_ParseUint_10_at32_syntax_var s hs hr tp p w h1).mono ?_
      rintro e w' ⟨N, rfl, _, _, hb⟩
      exact ⟨_, N, rfl, by omega, hb⟩
  | range =>
    rcases hB with rfl | rfl
    · refine (Tryz.strconv_ParseUint_10_at8_range_var s hs hr tq q w h2).mono ?_
      rintro e w' ⟨N, rfl, _, _, hb⟩
      exact ⟨_, N, rfl, by omega, hb⟩
    · refine (Tryz.strconv_ParseUint_10_at32_range_var s hs hr tq q w h2).mono ?_
      rintro e w' ⟨N, rfl, _, _, hb⟩
      exact ⟨_, N, rfl, by omega, hb⟩
set_option maxRecDepth 100000 in
theorem pu16_empty (w : World) : Calls Tryz.prog 138 #[.string ⟨#[]⟩, .int .i64 16, .int .i64 16] w fun e w' => e = .returned (.tuple #[.int .u64 0, .iface 182 (.int .i64 2)]) ∧ w' = w := by
  go_enter Tryz.func138, Tryz.ntmps138
  go_wp2
  go_ret2
  exact ⟨rfl, rfl⟩
theorem size_ne {s : ByteArray} (h : s.data.toList ≠ []) : s.size ≠ 0 := by
  intro e
  apply h
  have : s.data.toList.length = s.size := rfl
  exact List.length_eq_zero_iff.1 (by omega)
theorem ba_nil {s : ByteArray} (h : s.data.toList = []) : s = ⟨#[]⟩ := by
  apply ByteArray.ext
  simpa using h
theorem pu16_ok (s : ByteArray) (hs : s.size ≤ 281474976710656) (u : Nat) (h : puH s.data.toList = .ok u) (w : World) :
    Calls Tryz.prog 124 #[.string s, .int .i64 16, .int .i64 16] w fun e w' => e = .returned (.tuple #[.int .u64 u, .nilIface]) ∧ Hid (Below w.heap.size w w') := by
  unfold puH at h
  split at h
  · cases h
  · next h0 =>
    have K := Lib.hid (pu16_in s (size_ne h0) (by omega) w)
    rw [h] at K
    go_enter Tryz.func124, Tryz.ntmps124
    go_wp2_with fail
    refine K.out.mono ?_
    rintro e w' ⟨rfl, hw⟩
    have HB : Hid (Below w.heap.size w w') := bw_below (.inr hw)
    clear hw
    simp only [Lib.uintTupleM]
    go_wp2_with fail
    go_ret2
    exact ⟨rfl, HB.out⟩
set_option maxRecDepth 100000 in
theorem pu16_no (s : ByteArray) (hs : s.size ≤ 281474976710656) (h : ∀ u, puH s.data.toList ≠ .ok u) (w : World) (hE : LayE w) :
    Calls Tryz.prog 124 #[.string s, .int .i64 16, .int .i64 16] w fun e w' => ∃ x N, e = .returned (.tuple #[.int .u64 x, .iface 184 (.pointer (some ⟨N, 0, none⟩))]) ∧ Hid (Below w.heap.size w w') := by
  have HE : Hid (LayE w) := hE
  have K : (∃ W1 x y, (y = 1 ∨ y = 2) ∧ Calls Tryz.prog 138 #[.string s, .int .i64 16, .int .i64 16] w fun e w' => e = .returned (.tuple #[.int .u64 x, .iface 182 (.int .i64 y)]) ∧ w' = W1 ∧ Below w.heap.size w W1) := by
    by_cases h0 : s.data.toList = []
    · have e := ba_nil h0
      subst e
      exact ⟨w, 0, 2, .inr rfl, (pu16_empty w).mono fun e w' ⟨h1, h2⟩ => ⟨h1, h2, Below.refl _ _⟩⟩
    · have K := pu16_in s (size_ne h0) (by omega) w
      have hp : puH s.data.toList = puX 0 s.data.toList := by unfold puH; rw [if_neg h0]
      rw [hp] at h
      cases hr : puX 0 s.data.toList with
      | ok u => exact absurd hr (h u)
      | «syntax» => rw [hr] at K; exact ⟨_, 0, 2, .inr rfl, K.mono fun e w' ⟨h1, h2⟩ => ⟨h1, h2, Lib.bytesWorld_below _ _ _⟩⟩
      | range => rw [hr] at K; exact ⟨_, 65535, 1, .inl rfl, K.mono fun e w' ⟨h1, h2⟩ => ⟨h1, h2, Lib.bytesWorld_below _ _ _⟩⟩
  clear hE h
  obtain ⟨W1, x, y, hy, K⟩ := K
  have K := Lib.hid K
  rcases hy with rfl | rfl
  · go_enter Tryz.func124, Tryz.ntmps124
    go_wp2_with fail
    refine K.out.mono ?_
    rintro e w' ⟨rfl, hw, hb⟩
    subst w'
    have HB : Hid (Below w.heap.size w W1) := hb
    have HE1 := Lib.hid (HE.out.below hb)
    clear hb HE
    obtain ⟨⟨tp, p, h1⟩, ⟨tq, q, h2⟩, _, _⟩ := HE1.out
    have g1 : W1.cell? ⟨2, 0, none⟩ = some (.iface tp p) := by have h0 := World.var?_cell gSyn h1 0; simpa using h0
    have g2 : W1.cell? ⟨3, 0, none⟩ = some (.iface tq q) := by have h0 := World.var?_cell gRng h2 0; simpa using h0
    have G1 := Lib.hid g1
    have G2 := Lib.hid g2
    clear g1 g2 h1 h2
    go_wp2_with fail
    refine (Tryz.strconv_toError_range _ s 16 16 (.iface tq q) W1 hs G2.out (Or.inr ⟨tq, q, rfl⟩)).mono ?_
    rintro e w' ⟨N, rfl, _, _, hb⟩
    have HB2 : Hid (Below w.heap.size w w') := HB.out.trans (hb.mono HB.out.size)
    clear hb
    go_wp2_with fail
    go_ret2
    exact ⟨_, N, rfl, HB2.out⟩
  · go_enter Tryz.func124, Tryz.ntmps124
    go_wp2_with fail
    refine K.out.mono ?_
    rintro e w' ⟨rfl, hw, hb⟩
    subst w'
    have HB : Hid (Below w.heap.size w W1) := hb
    have HE1 := Lib.hid (HE.out.below hb)
    clear hb HE
    obtain ⟨⟨tp, p, h1⟩, ⟨tq, q, h2⟩, _, _⟩ := HE1.out
    have g1 : W1.cell? ⟨2, 0, none⟩ = some (.iface tp p) := by have h0 := World.var?_cell gSyn h1 0; simpa using h0
    have g2 : W1.cell? ⟨3, 0, none⟩ = some (.iface tq q) := by have h0 := World.var?_cell gRng h2 0; simpa using h0
    have G1 := Lib.hid g1
    have G2 := Lib.hid g2
    clear g1 g2 h1 h2
    go_wp2_with fail
    refine (Tryz.strconv_toError_syntax _ s 16 16 (.iface tp p) W1 hs G1.out (Or.inr ⟨tp, p, rfl⟩)).mono ?_
    rintro e w' ⟨N, rfl, _, _, hb⟩
    have HB2 : Hid (Below w.heap.size w w') := HB.out.trans (hb.mono HB.out.size)
    clear hb
    go_wp2_with fail
    go_ret2
    exact ⟨_, N, rfl, HB2.out⟩

theorem head_at (s : ByteArray) (h : 0 < s.size) : (nums s).head? = some (s[0].toNat : Int) := by
  have h1 := nums_at s 0 h
  have h2 : 0 < (nums s).length := by rw [nums_len]; exact h
  rw [List.getD_eq_getElem?_getD, List.getElem?_eq_getElem h2] at h1
  rw [List.head?_eq_getElem?, List.getElem?_eq_getElem h2, ← h1]
  rfl
theorem pow2B {B : Nat} (hB : B = 8 ∨ B = 32) : 2 ^ B - 1 < 1844674407370955162 ∧ 2 ^ B ≤ 4294967296 := by rcases hB with rfl | rfl <;> decide
set_option maxHeartbeats 1000000 in
theorem num_yes (B : Nat) (hB : B = 8 ∨ B = 32) (s : ByteArray) (hs : s.size ≤ 281474976710656) (n : Nat) (h : xnum (nums s) (2 ^ B) = some n) (w : World) :
    Calls Tryz.prog 96 #[.string s, .int .i64 (B : Int)] w fun e w' => e = .returned (.tuple #[.int .u32 (n : Int), .bool true]) ∧ Hid (Below w.heap.size w w') := by
  have hn : n < 4294967296 := by have := (xnum_some h).2; have := (pow2B hB).2; omega
  have hz : ¬ (1 < s.data.toList.length ∧ (bi s.data.toList).head? = some 48) := by
    rintro ⟨h1, h2⟩
    rw [lnum_zero (nums s) (2 ^ B) (by rw [nums_bi, bi_len]; exact h1) h2] at h
    cases h
  have K := Lib.hid (fun W => pu10_ok B hB s hs n ((lnum_ok B (pow2B hB).1 _ n hz).2 h) W)
  clear h
  by_cases h1 : 1 < s.size
  · have h1' : (1 : Int) < (s.size : Int) := by omega
    have h0' : (0 : Int) < (s.size : Int) := by omega
    have h48 : ((s[0].toNat : Int) == 48) = false := by
      rw [beq_eq_false_iff_ne]
      intro e
      exact hz ⟨h1, by rw [← nums_bi, head_at s (by omega), e]⟩
    clear hz
    go_enter Tryz.func96, Tryz.ntmps96
    go_wp2_with fail
    refine (K.out _).mono ?_
    rintro e w' ⟨rfl, H⟩
    go_wp2_with fail
    go_quiet (fail)
    go_wp2_with fail
    go_ret2
    exact ⟨rfl, H.out.trans ⟨rfl, rfl, rfl, Nat.le_refl _, fun _ _ => rfl⟩⟩
  · have h1' : ¬ (1 : Int) < (s.size : Int) := by omega
    clear hz
    go_enter Tryz.func96, Tryz.ntmps96
    go_wp2_with fail
    refine (K.out _).mono ?_
    rintro e w' ⟨rfl, H⟩
    go_wp2_with fail
    go_quiet (fail)
    go_wp2_with fail
    go_ret2
    exact ⟨rfl, H.out.trans ⟨rfl, rfl, rfl, Nat.le_refl _, fun _ _ => rfl⟩⟩
set_option maxHeartbeats 1000000 in
theorem num_no (B : Nat) (hB : B = 8 ∨ B = 32) (s : ByteArray) (hs : s.size ≤ 281474976710656) (h : xnum (nums s) (2 ^ B) = none) (w : World) (hE : LayE w) :
    Calls Tryz.prog 96 #[.string s, .int .i64 (B : Int)] w fun e w' => ∃ x, e = .returned (.tuple #[.int .u32 x, .bool false]) ∧ Hid (Below w.heap.size w w') := by
  by_cases hz : 1 < s.data.toList.length ∧ (bi s.data.toList).head? = some 48
  · have h1 : 1 < s.size := hz.1
    have h1' : (1 : Int) < (s.size : Int) := by omega
    have h0' : (0 : Int) < (s.size : Int) := by omega
    have h48 : (s[0].toNat : Int) = 48 := by
      have := hz.2
      rw [← nums_bi, head_at s (by omega)] at this
      injection this
    clear hz
    go_enter Tryz.func96, Tryz.ntmps96
    go_wp2_with fail
    go_ret2
    exact ⟨0, rfl, Below.refl _ _⟩
  · have K := Lib.hid (pu10_no B hB s hs (fun u hu => by have := (lnum_ok B (pow2B hB).1 _ u hz).1 hu; rw [← nums_bi, h] at this; cases this) w hE)
    clear h hE
    by_cases h1 : 1 < s.size
    · have h1' : (1 : Int) < (s.size : Int) := by omega
      have h0' : (0 : Int) < (s.size : Int) := by omega
      have h48 : ((s[0].toNat : Int) == 48) = false := by
        rw [beq_eq_false_iff_ne]
        intro e
        exact hz ⟨h1, by rw [← nums_bi, head_at s (by omega), e]⟩
      clear hz
      go_enter Tryz.func96, Tryz.ntmps96
      go_wp2_with fail
      refine K.out.mono ?_
      rintro e w' ⟨x, N, rfl, hx, H⟩
      go_wp2_with fail
      go_quiet (fail)
      go_wp2_with fail
      go_ret2
      exact ⟨_, rfl, H.out.trans ⟨rfl, rfl, rfl, Nat.le_refl _, fun _ _ => rfl⟩⟩
    · have h1' : ¬ (1 : Int) < (s.size : Int) := by omega
      clear hz
      go_enter Tryz.func96, Tryz.ntmps96
      go_wp2_with fail
      refine K.out.mono ?_
      rintro e w' ⟨x, N, rfl, hx, H⟩
      go_wp2_with fail
      go_quiet (fail)
      go_wp2_with fail
      go_ret2
      exact ⟨_, rfl, H.out.trans ⟨rfl, rfl, rfl, Nat.le_refl _, fun _ _ => rfl⟩⟩
end Go.Proofs.YtfkfjodfjgjbkaaGreatDoor
/- Names out of bytes, as the document reads them. -/
namespace Go.Proofs.YtfkfjodfjgjbkaaGreatDoor
open Go.ChangeShapes Go.WideShapes Go.ChangeAt Go.RowKit
set_option linter.unusedVariables false
set_option linter.unusedSimpArgs false


/-- The labels from a place of bytes on, and the place behind them; none, if no name's bytes stand there. -/
def rgo (l : List Int) (p : Nat) (out : List ByteArray) : Option (List ByteArray × Nat) :=
  if h : p < l.length ∧ l.getD p 0 ≤ 63 then
    if l.getD p 0 = 0 then some (out, p + 1)
    else if (l.length : Int) - ((p : Int) + 1) < l.getD p 0 then none
    else rgo l (p + 1 + (l.getD p 0).toNat) (out ++ [lb ((l.drop (p + 1)).take (l.getD p 0).toNat)])
  else none
termination_by l.length - p
decreasing_by omega
def nread (l : List Int) (d : Int) : List ByteArray × Int × Int :=
  if d < 0 ∨ (l.length : Int) ≤ d then ([], 0, 2)
  else match rgo l d.toNat [] with
    | none => ([], 0, 8)
    | some (out, q) => if nck out = 0 then (out, (q : Int), 0) else ([], 0, 8)
theorem rgo_end (l : List Int) (p : Nat) (out : List ByteArray) (h : ¬ (p < l.length ∧ l.getD p 0 ≤ 63)) : rgo l p out = none := by rw [rgo, dif_neg h]
theorem rgo_zero (l : List Int) (p : Nat) (out : List ByteArray) (h : p < l.length ∧ l.getD p 0 ≤ 63) (h0 : l.getD p 0 = 0) : rgo l p out = some (out, p + 1) := by rw [rgo, dif_pos h, if_pos h0]
theorem rgo_short (l : List Int) (p : Nat) (out : List ByteArray) (h : p < l.length ∧ l.getD p 0 ≤ 63) (h0 : ¬ l.getD p 0 = 0) (h1 : (l.length : Int) - ((p : Int) + 1) < l.getD p 0) : rgo l p out = none := by rw [rgo, dif_pos h, if_neg h0, if_pos h1]
theorem rgo_step (l : List Int) (p : Nat) (out : List ByteArray) (h : p < l.length ∧ l.getD p 0 ≤ 63) (h0 : ¬ l.getD p 0 = 0) (h1 : ¬ (l.length : Int) - ((p : Int) + 1) < l.getD p 0) : rgo l p out = rgo l (p + 1 + (l.getD p 0).toNat) (out ++ [lb ((l.drop (p + 1)).take (l.getD p 0).toNat)]) := by
  rw [rgo, dif_pos h, if_neg h0, if_neg h1]
def RPost (r : List ByteArray × Int × Int) (w : World) (e : Ending) (w' : World) : Prop :=
  ∃ v ys, e = .returned (.tuple #[v, .int .i64 r.2.1, .int .i64 r.2.2]) ∧ Hid (OwnT w.heap.size w' v r.1.length ys 1000000000000 ∧ ys.take r.1.length = r.1 ∧ Below w.heap.size w w')
theorem rpost_none {k : Int} {w w' : World} {e : Ending} (he : e = .returned (.tuple #[.slice none 0 0, .int .i64 0, .int .i64 k])) (hb : Below w.heap.size w w') : RPost ([], 0, k) w e w' :=
  ⟨.slice none 0 0, [], he, OwnT.nil _ _ _, rfl, hb⟩
end Go.Proofs.YtfkfjodfjgjbkaaGreatDoor
/- A label's text is read as the label. -/
namespace Go.Proofs.YtfkfjodfjgjbkaaGreatDoor
open Go.ChangeShapes Go.WideShapes Go.ChangeAt Go.RowKit
set_option linter.unusedVariables false
set_option linter.unusedSimpArgs false


theorem fr_tx1 (c : Int) (h : 0 ≤ c ∧ c ≤ 255) (r : List Int) : fr (tx1 c ++ r) = (c, ((tx1 c).length : Int)) := by
  unfold tx1
  by_cases hu : c < 33 ∨ 126 < c
  · rw [if_pos hu]
    have hv : v3 (48 + c / 100) (48 + c / 10 % 10) (48 + c % 10) = c := by unfold v3; omega
    have d1 : dgt (48 + c / 100) = true := (dgt_iff _).2 (by omega)
    have d2 : dgt (48 + c / 10 % 10) = true := (dgt_iff _).2 (by omega)
    have d3 : dgt (48 + c % 10) = true := (dgt_iff _).2 (by omega)
    have hd : decide (c ≤ 255) = true := by simp [h.2]
    simp [fr, esc, num3, vis, d1, d2, d3, hv, h.2]
  · rw [if_neg hu]
    rcases spc_cases c with hs | ⟨hs, e1, e2, _⟩
    · rcases hs with rfl | rfl | rfl | rfl | rfl | rfl | rfl | rfl <;> simp [fr, esc, spc, vis, dgt]
    · rw [hs]
      have hv : vis c = true := (vis_iff c).2 (by omega)
      have e2' : ¬ c = 92 := by simpa using e2
      simp [fr, hv, e2']
theorem head_tx1 (c : Int) (h : 0 ≤ c ∧ c ≤ 255) (r : List Int) : (tx1 c ++ r).getD 0 0 ≠ 46 := by
  unfold tx1
  by_cases hu : c < 33 ∨ 126 < c
  · rw [if_pos hu]; simp
  · rw [if_neg hu]
    rcases spc_cases c with hs | ⟨hs, e1, e2, _⟩
    · rcases hs with rfl | rfl | rfl | rfl | rfl | rfl | rfl | rfl <;> simp [spc]
    · rw [hs]; simpa using e1
theorem go_tx (l : List Int) : ∀ (P out R : List Int), (∀ z ∈ l, 0 ≤ z ∧ z ≤ 255) → (R = [] ∨ ∃ r, R = 46 :: r) → go (P ++ (tx l ++ R)) P.length out = some (out ++ l, P.length + (tx l).length) := by
  induction l with
  | nil =>
    intro P out R _ hR
    rw [go_stop]
    · simp [tx]
    · rcases hR with rfl | ⟨r, rfl⟩
      · simp [tx]
      · simp [tx, List.getD_eq_getElem?_getD]
  | cons c l ih =>
    intro P out R hb hR
    have hc := hb c (by simp)
    have e : tx (c :: l) ++ R = tx1 c ++ (tx l ++ R) := by simp [tx]
    have hd : (P ++ (tx1 c ++ (tx l ++ R))).drop P.length = tx1 c ++ (tx l ++ R) := by simp
    have hf := fr_tx1 c hc (tx l ++ R)
    have hlen := tx1_len c
    rw [e, go_step]
    · rw [hd, hf]
      have := ih (P ++ tx1 c) (out ++ [c]) R (fun z hz => hb z (by simp [hz])) hR
      simp only [Int.toNat_natCast]
      rw [List.append_assoc, List.length_append] at this
      rw [this]
      simp [tx]
      omega
    · refine ⟨by simp only [List.length_append]; omega, ?_⟩
      have := head_tx1 c hc (tx l ++ R)
      rw [← hd, show ((P ++ (tx1 c ++ (tx l ++ R))).drop P.length).getD 0 0 = (P ++ (tx1 c ++ (tx l ++ R))).getD P.length 0 by rw [List.getD_eq_getElem?_getD, List.getD_eq_getElem?_getD, List.getElem?_drop, Nat.add_zero]] at this
      exact this
    · rw [hd, hf]; simp only; omega
theorem pres_tx (l R : List Int) (hb : ∀ z ∈ l, 0 ≤ z ∧ z ≤ 255) (hR : R = [] ∨ ∃ r, R = 46 :: r) (hl : 1 ≤ l.length ∧ l.length ≤ 63) : pres (tx l ++ R) = (l, ((tx l).length : Int), 0) := by
  have := go_tx l [] [] R hb hR
  simp only [List.nil_append, List.length_nil, Nat.zero_add] at this
  exact pres_ok this (by unfold chk; rw [if_pos hl])
theorem pres_a : pres [97, 92] = ([], 0, 120) := by
  apply pres_bad
  rw [go_step _ _ _ (by decide) (by decide)]
  exact go_bad _ _ _ (by decide) (by decide)
theorem nums_cat (a b : ByteArray) : nums (a ++ b) = nums a ++ nums b := by
  simp [nums]
theorem nums_back (l : List Int) (h : ∀ z ∈ l, 0 ≤ z ∧ z ≤ 255) : nums ⟨(txt l).toArray⟩ = l := by
  unfold nums txt
  simp only [List.map_map]
  conv => rhs; rw [← List.map_id l]
  apply List.map_congr_left
  intro z hz
  have := h z hz
  simp
  omega
theorem txt_back (s : ByteArray) : (⟨(txt (nums s)).toArray⟩ : ByteArray) = s := by
  have : txt (nums s) = s.data.toList := by
    unfold nums txt
    rw [List.map_map]
    conv => rhs; rw [← List.map_id s.data.toList]
    apply List.map_congr_left
    intro b _
    simp
  rw [this]
end Go.Proofs.YtfkfjodfjgjbkaaGreatDoor
/- What follows of names: what was written is read so; the order is one. -/
namespace Go.Proofs.YtfkfjodfjgjbkaaGreatDoor
open Go.ChangeShapes Go.WideShapes Go.ChangeAt Go.RowKit
set_option linter.unusedVariables false
set_option linter.unusedSimpArgs false


/-- The text of labels, as numbers. -/
def flat (l : List ByteArray) : List Int := l.flatMap fun s => tx (nums s) ++ [46]
theorem nums_tb (s : ByteArray) : nums (tb s) = tx (nums s) := nums_back _ (tx_bd _ (nums_all s))
theorem nums_ntxt (l : List ByteArray) : nums (ntxt l) = flat l := by
  have : ∀ (l : List ByteArray) (acc : ByteArray), nums (l.foldl (fun acc s => acc ++ tb s ++ ⟨#[46]⟩) acc) = nums acc ++ flat l := by
    intro l
    induction l with
    | nil => intro acc; simp [flat]
    | cons s l ih =>
      intro acc
      rw [List.foldl_cons, ih, nums_cat, nums_cat, nums_tb]
      simp [flat]
      rfl
  have h := this l ⟨#[]⟩
  rw [show nums ⟨#[]⟩ = [] from rfl, List.nil_append] at h
  exact h
theorem chk_ok {n : Nat} (h : chk n = 0) : 1 ≤ n ∧ n ≤ 63 := by
  unfold chk at h
  split at h
  · assumption
  · cases h
theorem lgo_flat : ∀ (ss : List ByteArray) (out : List ByteArray), ss ≠ [] → labsOk ss → lgo (flat ss) out = (out ++ ss, true, 0)
  | [], _, h, _ => absurd rfl h
  | s :: r, out, _, hok => by
    have hs := chk_ok (hok s (by simp))
    have hf : flat (s :: r) = tx (nums s) ++ (46 :: flat r) := by simp [flat]
    have hp := pres_tx (nums s) (46 :: flat r) (nums_all s) (.inr ⟨_, rfl⟩) (by rw [nums_len]; exact hs)
    rw [← hf] at hp
    have hd : (flat (s :: r)).drop ((tx (nums s)).length + 1) = flat r := by
      rw [hf, List.drop_append, List.drop_eq_nil_of_le (by omega), Nat.add_sub_cancel_left]; rfl
    rw [lgo, hp]
    have hlb : lb (nums s) = s := txt_back s
    simp only [if_true, Int.toNat_natCast, hd, hlb]
    rw [if_neg (by rw [hf, List.length_append]; simp; omega)]
    by_cases hr : r = []
    · subst hr
      rw [dif_pos (by simp [flat])]
    · have hne : ¬ (flat r).length = 0 := by
        obtain ⟨x, r', rfl⟩ := List.exists_cons_of_ne_nil hr
        simp [flat]
      rw [dif_neg hne, lgo_flat r (out ++ [s]) hr (fun x hx => hok x (by simp [hx]))]
      simp
theorem ba_list (s : ByteArray) : (nums s) = s.toList.map fun b => (b.toNat : Int) := by rw [ba_toList]; rfl
theorem flat_two (ss : List ByteArray) (h : ss ≠ []) (hok : labsOk ss) : 2 ≤ (flat ss).length := by
  obtain ⟨s, r, rfl⟩ := List.exists_cons_of_ne_nil h
  have hs := chk_ok (hok s (by simp))
  have hne : nums s ≠ [] := fun e => by have := nums_len s; rw [e] at this; simp at this; omega
  obtain ⟨c, l, hcl⟩ := List.exists_cons_of_ne_nil hne
  have h1 := tx1_len c
  have : 1 ≤ (tx (nums s)).length := by rw [hcl]; simp only [tx, List.flatMap_cons, List.length_append]; omega
  simp only [flat, List.flatMap_cons, List.length_append, List.length_cons, List.length_nil]
  omega
theorem ntxt_not (ss : List ByteArray) (h : ss ≠ []) (hok : labsOk ss) (x : UInt8) : ¬ (ntxt ss).toList = [x] := by
  intro e
  have h1 := flat_two ss h hok
  have h2 := nums_ntxt ss
  rw [ba_list, e] at h2
  have := congrArg List.length h2
  simp at this
  omega
/-- A name's text is read as the name. -/
theorem parse_text (ss : List ByteArray) (h : nck ss = 0) : nparse (ntext ss).1 = (ss, 0) := by
  have hok := (nck_small h).2
  unfold ntext
  rw [if_pos h]
  by_cases h0 : ss = []
  · subst h0
    rw [if_pos (show ([] : List ByteArray).length = 0 from rfl)]
    unfold nparse
    rw [if_pos (by rw [ba_toList])]
  · have hl : ¬ ss.length = 0 := fun e => h0 (List.eq_nil_of_length_eq_zero e)
    rw [if_neg hl]
    unfold nparse
    rw [if_neg (ntxt_not ss h0 hok 46)]
    simp only [nums_ntxt, lgo_flat ss [] h0 hok, List.nil_append, if_true, h]
theorem rel_text (ss og : List ByteArray) (h : nck ss = 0) (hg : nck og = 0) : nrel (ntext ss).1 og = (ss, 0) := by
  have hok := (nck_small h).2
  have hp := parse_text ss h
  unfold nrel
  rw [if_pos hg]
  unfold ntext at hp ⊢
  rw [if_pos h] at hp ⊢
  by_cases h0 : ss = []
  · subst h0
    rw [if_pos (show ([] : List ByteArray).length = 0 from rfl)]
    simp only
    rw [if_neg (by rw [ba_toList]; decide), if_pos (by rw [ba_toList])]
  · have hl : ¬ ss.length = 0 := fun e => h0 (List.eq_nil_of_length_eq_zero e)
    rw [if_neg hl] at hp ⊢
    simp only at hp ⊢
    rw [if_neg (ntxt_not ss h0 hok 64), if_neg (ntxt_not ss h0 hok 46)]
    simp only [nums_ntxt, lgo_flat ss [] h0 hok, if_true, hp]
theorem rgo_nby : ∀ (ss : List ByteArray) (P R : List Int) (out : List ByteArray), labsOk ss → rgo (P ++ (nby ss ++ (0 :: R))) P.length out = some (out ++ ss, P.length + (nby ss).length + 1)
  | [], P, R, out, _ => by
    rw [rgo_zero]
    · simp [nby]
    · simp [nby, List.getD_eq_getElem?_getD]
    · simp [nby, List.getD_eq_getElem?_getD]
  | s :: r, P, R, out, hok => by
    have hs := chk_ok (hok s (by simp))
    have hf : nby (s :: r) ++ (0 :: R) = (s.size : Int) :: (nums s ++ (nby r ++ (0 :: R))) := by simp [nby]
    have hg : (P ++ (nby (s :: r) ++ (0 :: R))).getD P.length 0 = (s.size : Int) := by
      rw [hf]; simp [List.getD_eq_getElem?_getD]
    have hlen : (P ++ (nby (s :: r) ++ (0 :: R))).length = P.length + (1 + (s.size + ((nby r).length + (1 + R.length)))) := by
      rw [hf]; simp [nums_len]; omega
    have hd : ((P ++ (nby (s :: r) ++ (0 :: R))).drop (P.length + 1)).take s.size = nums s := by
      rw [hf, List.drop_append, List.drop_eq_nil_of_le (by omega), Nat.add_sub_cancel_left, List.nil_append]
      show (nums s ++ _).take s.size = nums s
      rw [List.take_append_of_le_length (by rw [nums_len]; exact Nat.le_refl _), List.take_of_length_le (by rw [nums_len]; exact Nat.le_refl _)]
    have hlb : lb (nums s) = s := txt_back s
    rw [rgo_step _ _ _ ⟨by rw [hlen]; omega, by rw [hg]; omega⟩ (by rw [hg]; omega) (by rw [hg, hlen]; omega)]
    rw [hg, Int.toNat_natCast, hd, hlb]
    have ih := rgo_nby r (P ++ ((s.size : Int) :: nums s)) R (out ++ [s]) (fun x hx => hok x (by simp [hx]))
    have e1 : P ++ (nby (s :: r) ++ (0 :: R)) = P ++ ((s.size : Int) :: nums s) ++ (nby r ++ (0 :: R)) := by rw [hf]; simp
    have e2 : (P ++ ((s.size : Int) :: nums s)).length = P.length + 1 + s.size := by simp [nums_len]; omega
    rw [e2] at ih
    rw [e1, ih]
    simp [nby, nums_len]
    omega
/-- A name's bytes are read as the name, whatever stands behind. -/
theorem read_bytes (ss : List ByteArray) (R : List Int) (h : nck ss = 0) : nread ((nbytes ss).1 ++ R) 0 = (ss, (nsz ss : Int), 0) := by
  have hok := (nck_small h).2
  unfold nbytes
  rw [if_pos h]
  unfold nread
  rw [if_neg (by simp; omega)]
  have := rgo_nby ss [] R [] hok
  simp only [List.nil_append, List.length_nil, Nat.zero_add] at this
  have e : nby ss ++ [0] ++ R = nby ss ++ (0 :: R) := by simp
  simp only [e, show (0 : Int).toNat = 0 from rfl, this, h, if_true]
  have := nby_len ss
  simp
  omega
theorem cmp_neg (x y : ByteArray) : cmp y x = - cmp x y := cb_neg _ _
theorem cmp_refl (x : ByteArray) : cmp x x = 0 := cb_refl _
theorem cmp_range (x y : ByteArray) : cmp x y = -1 ∨ cmp x y = 0 ∨ cmp x y = 1 := cb_range _ _
theorem cmp_trans (x y z : ByteArray) (h1 : cmp x y ≤ 0) (h2 : cmp y z ≤ 0) : cmp x z ≤ 0 := cb_trans _ _ _ h1 h2
theorem cmp_left (x y z : ByteArray) (h : cmp x y = 0) : cmp x z = cmp y z := by
  have := cb_zero _ _ h
  unfold cmp at *
  rw [this]
theorem cmp_right (x y z : ByteArray) (h : cmp x y = 0) : cmp z x = cmp z y := by
  have := cb_zero _ _ h
  unfold cmp at *
  rw [this]
theorem cmpR_neg : ∀ a b : List ByteArray, cmpR b a = - cmpR a b
  | [], [] => rfl
  | [], _ :: _ => rfl
  | _ :: _, [] => rfl
  | x :: a, y :: b => by
    unfold cmpR
    have h := cmp_neg x y
    by_cases h0 : cmp x y = 0
    · rw [if_pos h0, if_pos (by omega), cmpR_neg a b]
    · rw [if_neg h0, if_neg (by omega), h]
theorem cmpR_range : ∀ a b : List ByteArray, cmpR a b = -1 ∨ cmpR a b = 0 ∨ cmpR a b = 1
  | [], [] => .inr (.inl rfl)
  | [], _ :: _ => .inl rfl
  | _ :: _, [] => .inr (.inr rfl)
  | x :: a, y :: b => by
    unfold cmpR
    split
    · exact cmpR_range a b
    · exact cmp_range x y
theorem cmpR_trans : ∀ a b c : List ByteArray, cmpR a b ≤ 0 → cmpR b c ≤ 0 → cmpR a c ≤ 0
  | [], _, [] => fun _ _ => by decide
  | [], _, _ :: _ => fun _ _ => by simp [cmpR]
  | _ :: _, [], _ => fun h _ => by simp [cmpR] at h
  | x :: a, y :: b, [] => fun _ h => by simp [cmpR] at h
  | x :: a, y :: b, z :: c => fun h1 h2 => by
    unfold cmpR at h1 h2 ⊢
    by_cases e1 : cmp x y = 0
    · rw [if_pos e1] at h1
      rw [cmp_left x y z e1]
      by_cases e2 : cmp y z = 0
      · rw [if_pos e2] at h2 ⊢
        exact cmpR_trans a b c h1 h2
      · rw [if_neg e2] at h2 ⊢
        exact h2
    · rw [if_neg e1] at h1
      by_cases e2 : cmp y z = 0
      · rw [← cmp_right y z x e2, if_neg e1]
        exact h1
      · rw [if_neg e2] at h2
        have h3 := cmp_trans x y z h1 h2
        by_cases e3 : cmp x z = 0
        · exfalso
          have h4 : cmp x y = cmp z y := cmp_left x z y e3
          have h5 := cmp_neg y z
          omega
        · rw [if_neg e3]; exact h3
theorem comR_same : ∀ a b : List ByteArray, cmpR a b = 0 ↔ (a.length = b.length ∧ comR a b = a.length)
  | [], [] => by simp [cmpR, comR]
  | [], _ :: _ => by simp [cmpR]
  | _ :: _, [] => by simp [cmpR]
  | x :: a, y :: b => by
    unfold cmpR comR
    by_cases h : cmp x y = 0
    · rw [if_pos h, if_pos h, comR_same a b]
      simp
    · rw [if_neg h, if_neg h]
      simp [h]
/-- What is at or under a name is not ahead of it; what stands between is under it, too. -/
theorem under_le : ∀ a b : List ByteArray, comR b a = a.length → cmpR a b ≤ 0
  | [], [], _ => by decide
  | [], _ :: _, _ => by simp [cmpR]
  | _ :: _, [], h => by simp [comR] at h
  | x :: a, y :: b, h => by
    unfold comR at h
    unfold cmpR
    by_cases e : cmp y x = 0
    · rw [if_pos e] at h
      have e' : cmp x y = 0 := by have := cmp_neg y x; omega
      rw [if_pos e']
      exact under_le a b (by simpa using h)
    · rw [if_neg e] at h
      simp at h
theorem under_mid : ∀ a b c : List ByteArray, cmpR a b ≤ 0 → cmpR b c ≤ 0 → comR c a = a.length → comR b a = a.length
  | [], b, _, _, _, _ => by cases b <;> simp [comR]
  | _ :: _, [], _, h, _, _ => by simp [cmpR] at h
  | _ :: _, _ :: _, [], _, h, _ => by simp [cmpR] at h
  | x :: a, y :: b, z :: c, h1, h2, h3 => by
    unfold comR at h3 ⊢
    unfold cmpR at h1 h2
    by_cases e : cmp z x = 0
    · rw [if_pos e] at h3
      have hzx : cmp x z = 0 := by have := cmp_neg z x; omega
      by_cases e1 : cmp x y = 0
      · have e1' : cmp y x = 0 := by have := cmp_neg x y; omega
        rw [if_pos e1] at h1
        have e2 : cmp y z = 0 := by rw [← cmp_left x y z e1]; exact hzx
        rw [if_pos e2] at h2
        rw [if_pos e1']
        simpa using under_mid a b c h1 h2 (by simpa using h3)
      · rw [if_neg e1] at h1
        exfalso
        have h4 : cmp y z = cmp y x := (cmp_right x z y hzx).symm
        have h5 := cmp_neg x y
        have h6 : ¬ cmp y z = 0 := by omega
        rw [if_neg h6] at h2
        omega
    · rw [if_neg e] at h3
      simp at h3
theorem comR_pre : ∀ p q : List ByteArray, comR (p ++ q) p = p.length
  | [], q => by cases q <;> simp [comR]
  | x :: p, q => by
    rw [List.cons_append]
    unfold comR
    rw [if_pos (cmp_refl x), comR_pre p q]
    rfl
theorem under_drop (ss : List ByteArray) (k : Nat) : nunder ss (ss.drop k) = true := by
  unfold nunder ncom
  have e : ss.reverse = (ss.drop k).reverse ++ (ss.take k).reverse := by rw [← List.reverse_append, List.take_append_drop]
  rw [e, comR_pre]
  simp
theorem nck_of {ss : List ByteArray} (h1 : nsz ss ≤ 255) (h2 : labsOk ss) : nck ss = 0 := by
  unfold nck
  rw [if_pos h2, if_neg (by omega)]
theorem nck_take (ss : List ByteArray) (k : Nat) (h : nck ss = 0) : nck (ss.take k) = 0 := by
  have := nck_small h
  exact nck_of (Nat.le_trans (nsz_le ss k) this.1) (fun s hs => this.2 s (List.mem_of_mem_take hs))
theorem nck_drop (ss : List ByteArray) (k : Nat) (h : nck ss = 0) : nck (ss.drop k) = 0 := by
  have := nck_small h
  exact nck_of (Nat.le_trans (nsz_drop ss k) this.1) (fun s hs => this.2 s (List.mem_of_mem_drop hs))
/-- A name is its first labels and its last ones, joined. -/
theorem join_parts (ss : List ByteArray) (k : Nat) (h : nck ss = 0) : njoin (ss.take k) (ss.drop k) = (ss, 0) := by
  unfold njoin
  rw [if_pos (nck_take ss k h), if_pos (nck_drop ss k h), List.take_append_drop, if_pos h]
theorem wild_ok (ss : List ByteArray) (h : nck ss = 0) : njoin [⟨#[42]⟩] ss = if nsz ss ≤ 253 then (⟨#[42]⟩ :: ss, 0) else ([], 5) := by
  have h1 : nck [⟨#[42]⟩] = 0 := by decide
  have hs := nck_small h
  have hz : nsz (⟨#[42]⟩ :: ss) = 2 + nsz ss := rfl
  unfold njoin
  rw [if_pos h1, if_pos h]
  show (if nck (⟨#[42]⟩ :: ss) = 0 then _ else _) = _
  have hok : labsOk (⟨#[42]⟩ :: ss) := by
    intro s hs2
    rcases List.mem_cons.1 hs2 with rfl | hs2
    · decide
    · exact hs.2 s hs2
  by_cases hl : nsz ss ≤ 253
  · rw [if_pos hl, if_pos (nck_of (by omega) hok)]
    rfl
  · rw [if_neg hl, if_neg]
    unfold nck
    rw [if_pos hok, if_pos (by omega)]
    decide
end Go.Proofs.YtfkfjodfjgjbkaaGreatDoor
