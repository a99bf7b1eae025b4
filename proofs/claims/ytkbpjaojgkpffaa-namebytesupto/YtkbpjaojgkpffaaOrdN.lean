/- The statement's function about the order of names returns true and leaves what was there. -/
import Derived.Test.YtkbpjaojgkpffaaNx
namespace Go.Proofs.Ytkbpjaojgkpffaa
open Go.ChangeShapes Go.WideShapes Go.ChangeAt Go.RowKit
set_option linter.unusedVariables false
set_option linter.unusedSimpArgs false

def fewB (ss : List ByteArray) : Prop := (∀ s ∈ ss, s.size ≤ 300) ∧ ss.length ≤ 300
instance (ss : List ByteArray) : Decidable (fewB ss) := by unfold fewB; exact inferInstance
set_option maxRecDepth 100000 in
set_option maxHeartbeats 1000000 in
theorem few_any (a : Option Addr) (n c : Nat) (ss : List ByteArray) (w : World) (hr : RdT w a ss) (hl : ss.length = n) (hn : n ≤ 9223372036854775807) (hz : ∀ s ∈ ss, s.size ≤ 9223372036854775807) :
    Calls Try.prog 9 #[.slice a n c] w fun e w' => e = .returned (.bool (decide (fewB ss))) ∧ w' = w := by
  have HR : Hid (RdT w a ss) := hr
  have HL : Hid (ss.length = n ∧ ∀ s ∈ ss, s.size ≤ 9223372036854775807) := ⟨hl, hz⟩
  clear hr hl hz
  go_enter Try.func9, Try.ntmps9
  go_wp2_with fail
  go_loopw [3] (fun x wr => ∃ k : Nat, k ≤ n ∧ x = .int .i64 k ∧ wr = w ∧ Hid (∀ i (h : i < ss.length), i < k → ss[i].size ≤ 300)) (fun x _ => n - (intOf x).toNat)
  case atStart => exact ⟨0, Nat.zero_le _, rfl, rfl, fun i _ h => absurd h (by omega)⟩
  case round =>
    obtain ⟨k, hk, rfl, rfl, HK⟩ := hrel
    by_cases hlt : k < n
    · have hlt' : (k : Int) < (n : Int) := by omega
      have hks : k < ss.length := by rw [HL.out.1]; exact hlt
      obtain ⟨b, o, rfl, hb, hc⟩ := HR.out.at k hks
      have hsz := HL.out.2 _ (List.getElem_mem hks)
      by_cases hs : ss[k].size ≤ 300
      · have HN : Hid (∀ i (h : i < ss.length), i < k + 1 → ss[i].size ≤ 300) := by
          intro i h hi
          by_cases e : i = k
          · subst e; exact hs
          · exact HK.out i h (by omega)
        have hs' : ¬ (300 : Int) < (ss[k].size : Int) := by omega
        clear HK hs
        generalize ss[k] = s at *
        go_wp2
        exact ⟨⟨k + 1, by omega, by go_num, trivial, HN⟩, by simp [intOf]; omega⟩
      · have HE : Hid (decide (fewB ss) = false) := by
          show _ = _
          rw [decide_eq_false_iff_not]
          intro h
          exact hs (h.1 _ (List.getElem_mem hks))
        have hs' : (300 : Int) < (ss[k].size : Int) := by omega
        clear HK hs
        generalize ss[k] = s at *
        go_wp2
        go_ret
        exact ⟨by rw [HE.out]; rfl, rfl⟩
    · have hge : (n : Int) ≤ (k : Int) := by omega
      have HO : Hid (decide (fewB ss) = decide ((n : Int) ≤ 300)) := by
        show _ = _
        have h1 : ∀ s ∈ ss, s.size ≤ 300 := by
          intro s hs
          obtain ⟨i, hi, rfl⟩ := List.getElem_of_mem hs
          exact HK.out i hi (by have := HL.out.1; omega)
        by_cases h : n ≤ 300
        · rw [decide_eq_true (show (n : Int) ≤ 300 by omega), decide_eq_true]
          exact ⟨h1, by rw [HL.out.1]; exact h⟩
        · rw [decide_eq_false (show ¬ (n : Int) ≤ 300 by omega), decide_eq_false]
          intro h2
          exact h (by have := h2.2; rw [HL.out.1] at this; exact this)
      clear HK
      go_wp2
      go_ret
      exact ⟨by rw [HO.out]; rfl, rfl⟩
theorem few_nm {w : World} {a : Option Addr} {n : Nat} {ss : List ByteArray} (hr : RdT w a ss) (hl : ss.length = n) (h : fewB ss) : Nm w a n ss := by
  refine ⟨hr, hl, ?_⟩
  have : ∀ l : List ByteArray, (∀ s ∈ l, s.size ≤ 300) → nsz l ≤ 301 * l.length + 1 := by
    intro l
    induction l with
    | nil => intro _; simp [nsz]
    | cons x l ih =>
      intro hx
      have := ih (fun y hy => hx y (by simp [hy]))
      have := hx x (by simp)
      simp only [nsz, List.length_cons]
      omega
  have h1 := this ss h.1
  have h2 := h.2
  omega

/-- A name that came in: it lies there; its labels and their number are what a machine can hold. -/
structure Arg (w : World) (a : Option Addr) (n : Nat) (ss : List ByteArray) : Prop where
  rd : RdT w a ss
  len : ss.length = n
  n63 : n ≤ 9223372036854775807
  z63 : ∀ s ∈ ss, s.size ≤ 9223372036854775807
theorem Arg.few {w : World} {a : Option Addr} {n : Nat} {ss : List ByteArray} (h : Arg w a n ss) (c : Nat) : Calls Try.prog 9 #[.slice a n c] w fun e w' => e = .returned (.bool (decide (fewB ss))) ∧ w' = w := few_any a n c ss w h.rd h.len h.n63 h.z63

set_option maxRecDepth 100000 in
set_option maxHeartbeats 2000000 in
theorem order_main (a b d : Option Addr) (n m k c1 c2 c3 : Nat) (ss ts us : List ByteArray) (w : World) (hs : Nm w a n ss) (ht : Nm w b m ts) (hu : Nm w d k us) (K1 : Hid (∀ W, Below w.heap.size w W → Calls Try.prog 9 #[.slice a n c1] W fun e w' => e = .returned (.bool true) ∧ w' = W)) (K2 : Hid (∀ W, Below w.heap.size w W → Calls Try.prog 9 #[.slice b m c2] W fun e w' => e = .returned (.bool true) ∧ w' = W)) (K3 : Hid (∀ W, Below w.heap.size w W → Calls Try.prog 9 #[.slice d k c3] W fun e w' => e = .returned (.bool true) ∧ w' = W)) :
    Calls Try.prog 7 #[.slice a n c1, .slice b m c2, .slice d k c3] w fun e w' => e = .returned (.bool true) ∧ Below w.heap.size w w' := by
  have HAB : Hid (∀ W, Below w.heap.size w W → Calls Try.prog 17 #[.slice a n c1, .slice b m c2] W fun e w' => e = .returned (.int .i64 (ncmp ss ts)) ∧ Hid (Below W.heap.size W w')) := fun W h => pcompare_any a b n m c1 c2 ss ts W (hs.below h) (ht.below h)
  have HBC : Hid (∀ W, Below w.heap.size w W → Calls Try.prog 17 #[.slice b m c2, .slice d k c3] W fun e w' => e = .returned (.int .i64 (ncmp ts us)) ∧ Hid (Below W.heap.size W w')) := fun W h => pcompare_any b d m k c2 c3 ts us W (ht.below h) (hu.below h)
  have HAC : Hid (∀ W, Below w.heap.size w W → Calls Try.prog 17 #[.slice a n c1, .slice d k c3] W fun e w' => e = .returned (.int .i64 (ncmp ss us)) ∧ Hid (Below W.heap.size W w')) := fun W h => pcompare_any a d n k c1 c3 ss us W (hs.below h) (hu.below h)
  have HBA : Hid (∀ W, Below w.heap.size w W → Calls Try.prog 17 #[.slice b m c2, .slice a n c1] W fun e w' => e = .returned (.int .i64 (- ncmp ss ts)) ∧ Hid (Below W.heap.size W w')) := fun W h => by
    have := pcompare_any b a m n c2 c1 ts ss W (ht.below h) (hs.below h)
    rw [show ncmp ts ss = - ncmp ss ts from cmpR_neg _ _] at this
    exact this
  have hsm : nsame ss ts = (ncmp ss ts == 0) := by
    have := comR_same ss.reverse ts.reverse
    rw [List.length_reverse, List.length_reverse] at this
    unfold nsame
    by_cases h0 : ncmp ss ts = 0
    · have h1 := this.1 h0
      rw [show ncom ss ts = ss.length from h1.2, h0, h1.1]; simp
    · rw [beq_false_of_ne h0]
      by_cases h2 : ss.length = ts.length
      · have h3 : ¬ ncom ss ts = ss.length := fun h4 => h0 (this.2 ⟨h2, h4⟩)
        simp [h2]; rw [← h2]; exact h3
      · simp [h2]
  have HS : Hid (∀ W, Below w.heap.size w W → Calls Try.prog 15 #[.slice a n c1, .slice b m c2] W fun e w' => e = .returned (.bool (ncmp ss ts == 0)) ∧ Hid (Below W.heap.size W w')) := fun W h => by
    have := psame_any a b n m c1 c2 ss ts W (hs.below h) (ht.below h)
    rw [hsm] at this
    exact this
  have HU : Hid (∀ W, Below w.heap.size w W → Calls Try.prog 19 #[.slice b m c2, .slice a n c1] W fun e w' => e = .returned (.bool (nunder ts ss)) ∧ Hid (Below W.heap.size W w')) := fun W h => punder_any b a m n c2 c1 ts ss W (ht.below h) (hs.below h)
  have HV : Hid (∀ W, Below w.heap.size w W → Calls Try.prog 19 #[.slice d k c3, .slice a n c1] W fun e w' => e = .returned (.bool (nunder us ss)) ∧ Hid (Below W.heap.size W w')) := fun W h => punder_any d a k n c3 c1 us ss W (hu.below h) (hs.below h)
  have HM : Hid (∀ W, Below w.heap.size w W → Calls Try.prog 21 #[.slice b m c2, .slice a n c1] W fun e w' => e = .returned (.int .i64 (ncom ts ss)) ∧ Hid (Below W.heap.size W w')) := fun W h => pcommon_any b a m n c2 c1 ts ss W (ht.below h) (hs.below h)
  have HK : Hid (∀ W : World, Calls Try.prog 17 #[.slice (some ⟨W.heap.size, 0, none⟩) 1 1, .slice (some ⟨W.heap.size + 1, 0, none⟩) 1 1] ((W.alloc (.cells #[.string ⟨#[97]⟩] 9)).alloc (.cells #[.string ⟨#[66]⟩] 9)) fun e w' => e = .returned (.int .i64 (-1)) ∧ Hid (Below W.heap.size W w')) := fun W => by
    have b2 : Below (W.alloc (.cells #[.string ⟨#[97]⟩] 9)).heap.size (W.alloc (.cells #[.string ⟨#[97]⟩] 9)) ((W.alloc (.cells #[.string ⟨#[97]⟩] 9)).alloc (.cells #[.string ⟨#[66]⟩] 9)) := (Below.refl _ _).alloc (Nat.le_refl _) _
    have n1 : Nm (W.alloc (.cells #[.string ⟨#[97]⟩] 9)) (some ⟨W.heap.size, 0, none⟩) 1 [⟨#[97]⟩] := ⟨one_rdT W _, rfl, by decide⟩
    have n2 : Nm ((W.alloc (.cells #[.string ⟨#[97]⟩] 9)).alloc (.cells #[.string ⟨#[66]⟩] 9)) (some ⟨W.heap.size + 1, 0, none⟩) 1 [⟨#[66]⟩] := by
      have := one_rdT (W.alloc (.cells #[.string ⟨#[97]⟩] 9)) ⟨#[66]⟩
      have e : (W.alloc (.cells #[.string ⟨#[97]⟩] 9)).heap.size = W.heap.size + 1 := by simp
      rw [e] at this
      exact ⟨this, rfl, by decide⟩
    have := pcompare_any _ _ 1 1 1 1 [⟨#[97]⟩] [⟨#[66]⟩] _ (n1.below b2) n2
    refine this.mono ?_
    rintro e w' ⟨he, hb⟩
    refine ⟨he.trans (ret_int (by decide)), ?_⟩
    have hb0 : Below W.heap.size W ((W.alloc (.cells #[.string ⟨#[97]⟩] 9)).alloc (.cells #[.string ⟨#[66]⟩] 9)) := ((Below.refl _ _).alloc (Nat.le_refl _) _).alloc (by simp) _
    exact hb0.trans (hb.out.mono hb0.size)
  have hun : nunder ts ss = (ncom ts ss == n) := by unfold nunder; rw [hs.len]
  have f1 : ncmp ss ts = -1 ∨ ncmp ss ts = 0 ∨ ncmp ss ts = 1 := cmpR_range _ _
  have f2 : ncmp ts us = -1 ∨ ncmp ts us = 0 ∨ ncmp ts us = 1 := cmpR_range _ _
  have f3 : ncmp ss us = -1 ∨ ncmp ss us = 0 ∨ ncmp ss us = 1 := cmpR_range _ _
  have f4 : ncmp ss ts ≤ 0 → ncmp ts us ≤ 0 → ncmp ss us ≤ 0 := cmpR_trans _ _ _
  have f5 : nunder ts ss = true → ncmp ss ts ≤ 0 := fun h => under_le _ _ (by unfold nunder ncom at h; simpa using h)
  have f6 : ncmp ss ts ≤ 0 → ncmp ts us ≤ 0 → nunder us ss = true → nunder ts ss = true := fun h1 h2 h3 => by
    have := under_mid ss.reverse ts.reverse us.reverse h1 h2 (by unfold nunder ncom at h3; simpa using h3)
    unfold nunder ncom
    simpa using this
  have hn := hs.n63
  clear hs ht hu hsm
  have hcn : ((ncom ts ss : Int) == (n : Int)) = nunder ts ss := by rw [beq_nat, hun]
  clear hun
  generalize ncmp ss ts = x at *
  generalize ncmp ts us = y at *
  generalize ncmp ss us = z at *
  generalize nunder ts ss = ub at *
  generalize nunder us ss = uc at *
  generalize ncom ts ss = cm at *
  have HFF : Hid ((x ≤ 0 → y ≤ 0 → z ≤ 0) ∧ (ub = true → x ≤ 0) ∧ (x ≤ 0 → y ≤ 0 → uc = true → ub = true)) := ⟨f4, f5, f6⟩
  clear f4 f5 f6
  go_enter Try.func7, Try.ntmps7
  go_wp2_with fail
  refine (K1.out _ (Below.refl _ _)).mono ?_
  rintro e w1 ⟨rfl, rfl⟩
  go_wp2_with fail
  refine (K2.out _ (Below.refl _ _)).mono ?_
  rintro e w1 ⟨rfl, rfl⟩
  go_wp2_with fail
  refine (K3.out _ (Below.refl _ _)).mono ?_
  rintro e w1 ⟨rfl, rfl⟩
  go_wp2_with fail
  refine (HAB.out _ (Below.refl _ _)).mono ?_
  rintro e w2 ⟨rfl, B2⟩
  go_wp2_with fail
  refine (HBC.out _ B2.out).mono ?_
  rintro e w3 ⟨rfl, B3'⟩
  have B3 : Hid (Below w1.heap.size w1 w3) := B2.out.trans (B3'.out.mono B2.out.size)
  go_wp2_with fail
  refine (HAC.out _ B3.out).mono ?_
  rintro e w4 ⟨rfl, B4'⟩
  have B4 : Hid (Below w1.heap.size w1 w4) := B3.out.trans (B4'.out.mono B3.out.size)
  clear B2 B3 B3' B4'
  go_wp2_with fail
  refine (HBA.out _ B4.out).mono ?_
  rintro e w5 ⟨rfl, B5'⟩
  have B5 : Hid (Below w1.heap.size w1 w5) := B4.out.trans (B5'.out.mono B4.out.size)
  clear B4 B5'
  go_wp2_with fail
  refine (HS.out _ B5.out).mono ?_
  rintro e w6 ⟨rfl, B6'⟩
  have B6 : Hid (Below w1.heap.size w1 w6) := B5.out.trans (B6'.out.mono B5.out.size)
  clear B5 B6' K1 K2 K3 HAB HBC HAC HBA HS
  have hyz : (0 < y) ∨ (y ≤ 0 ∧ (x ≤ 0 → z ≤ 0)) := by
    by_cases h : 0 < y
    · exact .inl h
    · exact .inr ⟨by omega, fun hx => HFF.out.1 hx (by omega)⟩
  have hub : ub = true → x ≤ 0 := HFF.out.2.1
  have huc : x ≤ 0 → y ≤ 0 → uc = true → ub = true := HFF.out.2.2
  have HC : Hid ((ub = true → x ≤ 0) ∧ (x ≤ 0 → y ≤ 0 → uc = true → ub = true)) := ⟨hub, huc⟩
  clear HFF f2 f3 hub huc
  rcases f1 with h | h | h
  all_goals
    subst h
    rcases hyz with hy | ⟨hy, hz⟩
  all_goals
    cases ub
  all_goals
    cases uc
  all_goals
    first
      | (exfalso; have := HC.out; simp at this; done)
      | (exfalso; have := HC.out; simp at this; omega)
      | skip
  all_goals
    clear HC
    try (have hz' := hz (by omega); clear hz)
    go_wp2_with fail
    refine (HK.out _).mono ?_
    rintro e w7 ⟨rfl, B7'⟩
    have B7 : Hid (Below w1.heap.size w1 w7) := B6.out.trans (B7'.out.mono B6.out.size)
    clear B7'
    go_wp2_with fail
    refine (HU.out _ B7.out).mono ?_
    rintro e w8 ⟨rfl, B8'⟩
    have B8 : Hid (Below w1.heap.size w1 w8) := B7.out.trans (B8'.out.mono B7.out.size)
    clear B8'
    go_wp2_with fail
    refine (HU.out _ B8.out).mono ?_
    rintro e w9 ⟨rfl, B9'⟩
    have B9 : Hid (Below w1.heap.size w1 w9) := B8.out.trans (B9'.out.mono B8.out.size)
    clear B9'
    go_wp2_with fail
    refine (HM.out _ B9.out).mono ?_
    rintro e w10 ⟨rfl, B10'⟩
    have B10 : Hid (Below w1.heap.size w1 w10) := B9.out.trans (B10'.out.mono B9.out.size)
    clear B10' B9 B8 B7
    go_wp2_with fail
    first
      | (go_ret; exact ⟨rfl, B10.out⟩)
      | (refine (HV.out _ B10.out).mono ?_
         rintro e w11 ⟨rfl, B11'⟩
         have B11 : Hid (Below w1.heap.size w1 w11) := B10.out.trans (B11'.out.mono B10.out.size)
         clear B11'
         go_wp2_with fail
         first
           | (go_ret; exact ⟨rfl, B11.out⟩)
           | (refine (HU.out _ B11.out).mono ?_
              rintro e w12 ⟨rfl, B12'⟩
              have B12 : Hid (Below w1.heap.size w1 w12) := B11.out.trans (B12'.out.mono B11.out.size)
              go_wp2
              go_ret
              exact ⟨rfl, B12.out⟩))

set_option maxRecDepth 100000 in
set_option maxHeartbeats 2000000 in
theorem order_walkN (a b d : Option Addr) (n m k c1 c2 c3 : Nat) (ss ts us : List ByteArray) (w : World) (hs : Arg w a n ss) (ht : Arg w b m ts) (hu : Arg w d k us) :
    Calls Try.prog 7 #[.slice a n c1, .slice b m c2, .slice d k c3] w fun e w' => e = .returned (.bool true) ∧ Below w.heap.size w w' := by
  have K1 := fun W (h : Below w.heap.size w W) => (⟨hs.rd.below h, hs.len, hs.n63, hs.z63⟩ : Arg W a n ss).few c1
  have K2 := fun W (h : Below w.heap.size w W) => (⟨ht.rd.below h, ht.len, ht.n63, ht.z63⟩ : Arg W b m ts).few c2
  have K3 := fun W (h : Below w.heap.size w W) => (⟨hu.rd.below h, hu.len, hu.n63, hu.z63⟩ : Arg W d k us).few c3
  by_cases h1 : fewB ss
  · by_cases h2 : fewB ts
    · by_cases h3 : fewB us
      · rw [decide_eq_true h1] at K1
        rw [decide_eq_true h2] at K2
        rw [decide_eq_true h3] at K3
        exact order_main a b d n m k c1 c2 c3 ss ts us w (few_nm hs.rd hs.len h1) (few_nm ht.rd ht.len h2) (few_nm hu.rd hu.len h3) K1 K2 K3
      · have Q1 : Hid (Calls Try.prog 9 #[.slice a n c1] w fun e w' => e = .returned (.bool true) ∧ w' = w) := by have := K1 w (Below.refl _ _); rw [decide_eq_true h1] at this; exact this
        have Q2 : Hid (Calls Try.prog 9 #[.slice b m c2] w fun e w' => e = .returned (.bool true) ∧ w' = w) := by have := K2 w (Below.refl _ _); rw [decide_eq_true h2] at this; exact this
        have Q3 : Hid (Calls Try.prog 9 #[.slice d k c3] w fun e w' => e = .returned (.bool false) ∧ w' = w) := by have := K3 w (Below.refl _ _); rw [decide_eq_false h3] at this; exact this
        clear K1 K2 K3 hs ht hu h1 h2 h3
        go_enter Try.func7, Try.ntmps7
        go_wp2_with fail
        refine Q1.out.mono ?_
        rintro e w1 ⟨rfl, rfl⟩
        go_wp2_with fail
        refine Q2.out.mono ?_
        rintro e w1 ⟨rfl, rfl⟩
        go_wp2_with fail
        refine Q3.out.mono ?_
        rintro e w1 ⟨rfl, rfl⟩
        go_wp2
        go_ret
        exact ⟨rfl, Below.refl _ _⟩
    · have Q1 : Hid (Calls Try.prog 9 #[.slice a n c1] w fun e w' => e = .returned (.bool true) ∧ w' = w) := by have := K1 w (Below.refl _ _); rw [decide_eq_true h1] at this; exact this
      have Q2 : Hid (Calls Try.prog 9 #[.slice b m c2] w fun e w' => e = .returned (.bool false) ∧ w' = w) := by have := K2 w (Below.refl _ _); rw [decide_eq_false h2] at this; exact this
      clear K1 K2 K3 hs ht hu h1 h2
      go_enter Try.func7, Try.ntmps7
      go_wp2_with fail
      refine Q1.out.mono ?_
      rintro e w1 ⟨rfl, rfl⟩
      go_wp2_with fail
      refine Q2.out.mono ?_
      rintro e w1 ⟨rfl, rfl⟩
      go_wp2
      go_ret
      exact ⟨rfl, Below.refl _ _⟩
  · have Q1 : Hid (Calls Try.prog 9 #[.slice a n c1] w fun e w' => e = .returned (.bool false) ∧ w' = w) := by have := K1 w (Below.refl _ _); rw [decide_eq_false h1] at this; exact this
    clear K1 K2 K3 hs ht hu h1
    go_enter Try.func7, Try.ntmps7
    go_wp2_with fail
    refine Q1.out.mono ?_
    rintro e w1 ⟨rfl, rfl⟩
    go_wp2
    go_ret
    exact ⟨rfl, Below.refl _ _⟩
end Go.Proofs.Ytkbpjaojgkpffaa
