/- Which label a text begins with, as the program reads it. -/
import Derived.Test.YtkbpjaojgkpffaaByt
namespace Go.Proofs.Ytkbpjaojgkpffaa
open Go.ChangeShapes Go.WideShapes Go.ChangeAt Go.RowKit
set_option linter.unusedVariables false
set_option linter.unusedSimpArgs false

theorem getD_bd (l : List Int) (h : ∀ z ∈ l, 0 ≤ z ∧ z ≤ 255) (i : Nat) : 0 ≤ l.getD i 0 ∧ l.getD i 0 ≤ 255 := by
  by_cases hi : i < l.length
  · have := h (l.getD i 0) (by rw [List.getD_eq_getElem?_getD, List.getElem?_eq_getElem hi]; simp)
    exact this
  · rw [List.getD_eq_getElem?_getD, List.getElem?_eq_none (by omega)]; simp
theorem num3_bd (l : List Int) : 0 ≤ (num3 l).1 ∧ (num3 l).1 ≤ 255 ∧ 0 ≤ (num3 l).2 ∧ (num3 l).2 ≤ l.length := by
  unfold num3
  split
  · simp
  · split
    · rename_i h1 h2
      simp only [Bool.and_eq_true, dgt_iff, decide_eq_true_eq] at h2
      simp only
      unfold v3 at *
      omega
    · simp
theorem esc_bd (l : List Int) (h : ∀ z ∈ l, 0 ≤ z ∧ z ≤ 255) : 0 ≤ (esc l).1 ∧ (esc l).1 ≤ 255 ∧ 0 ≤ (esc l).2 ∧ (esc l).2 ≤ l.length := by
  unfold esc
  split
  · simp
  · split
    · exact num3_bd l
    · split
      · have := getD_bd l h 1
        simp only
        omega
      · simp
theorem fr_bd (l : List Int) (h : ∀ z ∈ l, 0 ≤ z ∧ z ≤ 255) (hl : 0 < l.length) : 0 ≤ (fr l).1 ∧ (fr l).1 ≤ 255 ∧ 0 ≤ (fr l).2 ∧ (fr l).2 ≤ l.length := by
  unfold fr
  split
  · simp
  · split
    · exact esc_bd l h
    · have := getD_bd l h 0
      simp only
      omega
theorem nums_all (s : ByteArray) : ∀ z ∈ nums s, 0 ≤ z ∧ z ≤ 255 := by
  intro z hz
  simp only [nums, List.mem_map] at hz
  obtain ⟨b, _, rfl⟩ := hz
  have := b.toNat_lt
  omega

/-- The label's bytes and the place behind them; none, if a byte can't be read. -/
def go (l : List Int) (p : Nat) (out : List Int) : Option (List Int × Nat) :=
  if h : p < l.length ∧ l.getD p 0 ≠ 46 then
    if hn : (fr (l.drop p)).2 ≤ 0 then none
    else go l (p + (fr (l.drop p)).2.toNat) (out ++ [(fr (l.drop p)).1])
  else some (out, p)
termination_by l.length - p
decreasing_by omega

/-- What Parse answers: the label's bytes, how much of the text it is, the error. -/
def pres (l : List Int) : List Int × Int × Int :=
  match go l 0 [] with
  | none => ([], 0, 120)
  | some (out, p) => if 1 ≤ out.length ∧ out.length ≤ 63 then (out, (p : Int), 0) else ([], 0, 4)
def chk (n : Nat) : Int := if 1 ≤ n ∧ n ≤ 63 then 0 else 4

set_option maxRecDepth 100000 in
set_option maxHeartbeats 400000 in
theorem chk_any (s : ByteArray) (w : World) (hs : s.size ≤ 9223372036854775807) :
    Calls Try.prog 54 #[.string s] w fun e w' => e = .returned (.int .i64 (chk s.size)) ∧ w' = w := by
  by_cases h : 1 ≤ s.size ∧ s.size ≤ 63
  · have h1 : ¬ (s.size : Int) < 1 := by omega
    have h2 : ¬ (63 : Int) < (s.size : Int) := by omega
    have HE : Hid (chk s.size = 0) := by show _ = _; unfold chk; rw [if_pos h]
    clear h
    go_enter Try.func54, Try.ntmps54
    go_wp2
    go_ret
    exact ⟨by rw [HE.out]; rfl, rfl⟩
  · have HE : Hid (chk s.size = 4) := by show _ = _; unfold chk; rw [if_neg h]
    have ho : (s.size : Int) < 1 ∨ (63 : Int) < (s.size : Int) := by omega
    clear h
    rcases ho with ho | ho
    all_goals
      go_enter Try.func54, Try.ntmps54
      go_wp2
      go_ret
      exact ⟨by rw [HE.out]; rfl, rfl⟩
set_option maxRecDepth 100000 in
set_option maxHeartbeats 400000 in
theorem rchk_any (s : ByteArray) (w : World) (hs : s.size ≤ 9223372036854775807) :
    Calls Try.prog 55 #[.string s] w fun e w' => e = .returned (.int .i64 (chk s.size)) ∧ w' = w := by
  by_cases h : 1 ≤ s.size ∧ s.size ≤ 63
  · have h1 : ¬ (s.size : Int) < 1 := by omega
    have h2 : ¬ (63 : Int) < (s.size : Int) := by omega
    have HE : Hid (chk s.size = 0) := by show _ = _; unfold chk; rw [if_pos h]
    clear h
    go_enter Try.func55, Try.ntmps55
    go_wp2
    go_ret
    exact ⟨by rw [HE.out]; rfl, rfl⟩
  · have HE : Hid (chk s.size = 4) := by show _ = _; unfold chk; rw [if_neg h]
    have ho : (s.size : Int) < 1 ∨ (63 : Int) < (s.size : Int) := by omega
    clear h
    rcases ho with ho | ho
    all_goals
      go_enter Try.func55, Try.ntmps55
      go_wp2
      go_ret
      exact ⟨by rw [HE.out]; rfl, rfl⟩

theorem nums_extract (s : ByteArray) (p : Nat) : nums (s.extract p s.size) = (nums s).drop p := by
  simp only [nums, ByteArray.data_extract]
  rw [Array.toList_extract, List.extract_eq_take_drop, ← List.map_drop, List.take_of_length_le (by simp)]
theorem txt_size (l : List Int) : (⟨(txt l).toArray⟩ : ByteArray).size = l.length := by
  show (txt l).toArray.size = _
  simp [txt]
theorem go_stop (l : List Int) (p : Nat) (out : List Int) (h : ¬ (p < l.length ∧ l.getD p 0 ≠ 46)) : go l p out = some (out, p) := by
  rw [go, dif_neg h]
theorem go_bad (l : List Int) (p : Nat) (out : List Int) (h : p < l.length ∧ l.getD p 0 ≠ 46) (hn : (fr (l.drop p)).2 ≤ 0) : go l p out = none := by
  rw [go, dif_pos h, dif_pos hn]
theorem go_step (l : List Int) (p : Nat) (out : List Int) (h : p < l.length ∧ l.getD p 0 ≠ 46) (hn : ¬ (fr (l.drop p)).2 ≤ 0) : go l p out = go l (p + (fr (l.drop p)).2.toNat) (out ++ [(fr (l.drop p)).1]) := by
  rw [go, dif_pos h, dif_neg hn]
def PPost (s : ByteArray) (w : World) (e : Ending) (w' : World) : Prop :=
  e = .returned (.tuple #[.string ⟨(txt (pres (nums s)).1).toArray⟩, .int .i64 (pres (nums s)).2.1, .int .i64 (pres (nums s)).2.2]) ∧ Hid (Below w.heap.size w w')
theorem pres_ok {l out : List Int} {p : Nat} (h : go l 0 [] = some (out, p)) (hc : chk out.length = 0) : pres l = (out, (p : Int), 0) := by
  unfold pres
  rw [h]
  simp only
  unfold chk at hc
  split at hc
  · rename_i h1; rw [if_pos h1]
  · cases hc
theorem pres_no {l out : List Int} {p : Nat} (h : go l 0 [] = some (out, p)) (hc : ¬ chk out.length = 0) : pres l = ([], 0, 4) ∧ chk out.length = 4 := by
  unfold pres
  rw [h]
  simp only
  unfold chk at hc ⊢
  split at hc
  · exact absurd rfl hc
  · rename_i h1; rw [if_neg h1, if_neg h1]; exact ⟨rfl, rfl⟩
theorem pres_bad {l : List Int} (h : go l 0 [] = none) : pres l = ([], 0, 120) := by
  unfold pres
  rw [h]

set_option maxRecDepth 100000 in
set_option maxHeartbeats 1000000 in
theorem parse_any (s : ByteArray) (w : World) (hs : s.size ≤ 140737488355000) : Calls Try.prog 89 #[.string s] w (PPost s w) := by
  go_enter Try.func89, Try.ntmps89
  go_wp2_with fail
  go_loopw [5, 6] (fun v x wr => ∃ (p : Nat) (out : List Int), p ≤ s.size ∧ x = .int .i64 p ∧ Hid (go (nums s) 0 [] = go (nums s) p out ∧ out.length ≤ p) ∧ Hid (∃ ys, Own w.heap.size wr v out.length ys ∧ ys.take out.length = out) ∧ Hid (Below w.heap.size w wr)) (fun _ x _ => s.size - (intOf x).toNat)
  case atStart => exact ⟨0, [], Nat.zero_le _, rfl, ⟨rfl, Nat.le_refl _⟩, ⟨[], .inl ⟨rfl, rfl, rfl⟩, rfl⟩, Below.refl _ _⟩
  case round =>
    obtain ⟨p, out, hp, rfl, HG, HW, HB⟩ := hrel
    by_cases hlt : p < s.size ∧ (nums s).getD p 0 ≠ 46
    · obtain ⟨hlt, hd⟩ := hlt
      have HC : Hid (p < (nums s).length ∧ (nums s).getD p 0 ≠ 46) := ⟨by rw [nums_len]; exact hlt, hd⟩
      rw [nums_at s p hlt] at hd
      have hd' : ((s[p].toNat : Int) != 46) = true := bne_iff_ne.2 hd
      have hlt' : (p : Int) < (s.size : Int) := by omega
      clear hd
      have hol : out.length ≤ p := HG.out.2
      have HF : Hid (∀ W, Calls Try.prog 97 #[.string (s.extract p s.size)] W fun e w' => e = .returned (.tuple #[.int .u8 (fr ((nums s).drop p)).1, .int .i64 (fr ((nums s).drop p)).2]) ∧ w' = W) := by
        intro W
        have := fr_any (s.extract p s.size) W (by simp; omega) (by simp; omega)
        rw [nums_extract] at this
        exact this
      have hfb := fr_bd ((nums s).drop p) (fun z hz => nums_all s z (List.mem_of_mem_drop hz)) (by rw [List.length_drop, nums_len]; omega)
      rw [List.length_drop, nums_len] at hfb
      have HS1 : Hid ((fr ((nums s).drop p)).2 ≤ 0 → go (nums s) 0 [] = none) := fun h => HG.out.1.trans (go_bad _ _ _ HC.out h)
      have HS2 : Hid (¬ (fr ((nums s).drop p)).2 ≤ 0 → go (nums s) 0 [] = go (nums s) (p + (fr ((nums s).drop p)).2.toNat) (out ++ [(fr ((nums s).drop p)).1])) := fun h => HG.out.1.trans (go_step _ _ _ HC.out h)
      generalize (fr ((nums s).drop p)).1 = c at *
      generalize (fr ((nums s).drop p)).2 = n at *
      go_wp2_with fail
      refine (HF.out _).mono ?_
      rintro e w1 ⟨rfl, rfl⟩
      by_cases hn : n = 0
      · subst hn
        go_wp2
        go_ret3
        exact ⟨by rw [pres_bad (HS1.out (by omega))]; rfl, HB.out⟩
      · have hn' : (n == 0) = false := by simp [hn]
        obtain ⟨ys, hO, hT⟩ := HW.out
        have hnb : Below w1.heap.size w1 (w1.alloc (.cells #[.int .u8 c] 5)) := (Below.refl _ _).alloc (Nat.le_refl _) _
        have HO2 : Hid (Own w.heap.size (w1.alloc (.cells #[.int .u8 c] 5)) u5 out.length ys ∧ ys.take out.length = out) := ⟨hO.below hnb, hT⟩
        have HR2 : Hid (Rd (w1.alloc (.cells #[.int .u8 c] 5)) (some ⟨w1.heap.size, 0, none⟩) [c]) := new_rd w1 c (by omega)
        have HNB : Hid (Below w1.heap.size w1 (w1.alloc (.cells #[.int .u8 c] 5))) := hnb
        clear hO hT hnb
        go_wp2_with (at_builtin; refine wpList_append_blk _ rfl _ _ rfl w.heap.size _ out.length ys rfl HO2.out.1 (some ⟨w1.heap.size, 0, none⟩) 1 1 [c] rfl HR2.out rfl (by simp) (by omega) (Nat.le_trans HB.out.size HNB.out.size) ?_; intro v' w' ys' hO' hT' hG')
        have hrow := HO2.out.1.lt
        refine ⟨⟨p + n.toNat, out ++ [c], by omega, congrArg _ (by omega), ⟨HS2.out (by omega), by simp; omega⟩, ⟨ys', ?_, ?_⟩, ?_⟩, by simp [intOf]; omega⟩
        · rw [List.length_append]; exact hO'.out
        · rw [List.length_append]; exact hT'.out.trans (by rw [HO2.out.2])
        · exact (HB.out.trans (HNB.out.mono HB.out.size)).grown hG' (Nat.le_trans HB.out.size HNB.out.size) hrow
    · have HS : Hid (go (nums s) 0 [] = some (out, p)) := HG.out.1.trans (go_stop _ _ _ (by rw [nums_len]; exact hlt))
      obtain ⟨ys, hO, hT⟩ := HW.out
      obtain ⟨ao, rfl, hoa⟩ := hO.addr
      have hrd := hoa.rdTake out.length
      rw [hT] at hrd
      have hcv := conv_rd ao out.length ys.length out wr hrd rfl
      have HK : Hid (∀ W, Calls Try.prog 54 #[.string ⟨(txt out).toArray⟩] W fun e w' => e = .returned (.int .i64 (chk out.length)) ∧ w' = W) := by
        intro W
        have := chk_any ⟨(txt out).toArray⟩ W (by rw [txt_size]; have := HG.out.2; omega)
        rw [txt_size] at this
        exact this
      clear hO hT hoa hrd
      have HX : Hid (chk out.length = 0 → pres (nums s) = (out, (p : Int), 0)) := fun h => pres_ok HS.out h
      have HY : Hid (¬ chk out.length = 0 → pres (nums s) = ([], 0, 4) ∧ chk out.length = 4) := fun h => pres_no HS.out h
      generalize chk out.length = k at *
      have hor : (s.size : Int) ≤ (p : Int) ∨ (∃ h : p < s.size, (s[p].toNat : Int) = 46) := by
        by_cases h : p < s.size
        · right
          refine ⟨h, ?_⟩
          rw [← nums_at s p h]
          exact Classical.byContradiction fun hne => hlt ⟨h, hne⟩
        · left; omega
      clear hlt
      generalize out.length = ol at *
      generalize ys.length = yl at *
      rcases hor with hge | ⟨hlt, hd⟩
      · by_cases hk : k = 0
        · have HQ : Hid (pres (nums s) = (out, (p : Int), 0)) := HX.out hk
          clear HX HY
          subst hk
          go_wp2_with fail
          refine (HK.out _).mono ?_
          rintro e w1 ⟨rfl, rfl⟩
          go_wp2
          go_ret3
          exact ⟨by rw [HQ.out]; rfl, HB.out⟩
        · obtain ⟨hq, hk4⟩ := HY.out hk
          have HQ : Hid (pres (nums s) = ([], 0, 4)) := hq
          clear hq hk HX HY
          subst hk4
          go_wp2_with fail
          refine (HK.out _).mono ?_
          rintro e w1 ⟨rfl, rfl⟩
          go_wp2
          go_ret3
          exact ⟨by rw [HQ.out]; rfl, HB.out⟩
      · have hd' : ((s[p].toNat : Int) != 46) = false := by rw [hd]; rfl
        have hlt' : (p : Int) < (s.size : Int) := by omega
        clear hd
        by_cases hk : k = 0
        · have HQ : Hid (pres (nums s) = (out, (p : Int), 0)) := HX.out hk
          clear HX HY
          subst hk
          go_wp2_with fail
          refine (HK.out _).mono ?_
          rintro e w1 ⟨rfl, rfl⟩
          go_wp2
          go_ret3
          exact ⟨by rw [HQ.out]; rfl, HB.out⟩
        · obtain ⟨hq, hk4⟩ := HY.out hk
          have HQ : Hid (pres (nums s) = ([], 0, 4)) := hq
          clear hq hk HX HY
          subst hk4
          go_wp2_with fail
          refine (HK.out _).mono ?_
          rintro e w1 ⟨rfl, rfl⟩
          go_wp2
          go_ret3
          exact ⟨by rw [HQ.out]; rfl, HB.out⟩
end Go.Proofs.Ytkbpjaojgkpffaa
