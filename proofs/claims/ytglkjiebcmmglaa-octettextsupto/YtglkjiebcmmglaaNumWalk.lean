/- The statement's function on numbers in bytes returns true and leaves what was there. -/
import Derived.Test.YtglkjiebcmmglaaNums
import Derived.Test.YtglkjiebcmmglaaKept
import Derived.Test.YtglkjiebcmmglaaApart
namespace Go.Proofs.Ytglkjiebcmmglaa
open Go.ChangeShapes Go.WideShapes Go.ChangeAt Go.RowKit
set_option linter.unusedVariables false
set_option linter.unusedSimpArgs false

/-- Whether k bytes stand at a place; the number there. -/
def fit (len : Nat) (at_ : Int) (k : Nat) : Bool := decide (0 ≤ at_ ∧ at_ + k ≤ len)
def gv (zs : List Int) (at_ : Int) (k : Nat) : Int := if fit zs.length at_ k = true then val ((zs.drop at_.toNat).take k) else 0

theorem u16_any (a : Option Addr) (len cap : Nat) (at_ : Int) (zs : List Int) (w : World) (hr : Rd w a zs) (hl : zs.length = len) (hc : len ≤ cap) (hm : cap ≤ 140737488355328) :
    Calls Try.prog 12 #[.slice a len cap, .int .i64 at_] w fun e w' => e = .returned (.tuple #[.int .i64 (gv zs at_ 2), .bool (fit len at_ 2)]) ∧ w' = w := by
  by_cases h : 0 ≤ at_ ∧ at_ + (2 : Nat) ≤ len
  · obtain ⟨k, rfl⟩ := Int.eq_ofNat_of_zero_le h.1
    have := u16_yes a len cap k zs w hr hl hc hm (by omega)
    have e1 : gv zs k 2 = val ((zs.drop k).take 2) := by unfold gv fit; rw [if_pos (by rw [hl]; exact decide_eq_true h)]; rfl
    have e2 : fit len k 2 = true := decide_eq_true h
    rw [e1, e2]; exact this
  · have := u16_no a len cap at_ w hc hm (by omega)
    have e1 : gv zs at_ 2 = 0 := by unfold gv fit; rw [if_neg (by rw [hl]; simpa using h)]
    have e2 : fit len at_ 2 = false := decide_eq_false h
    rw [e1, e2]; exact this
theorem refu16_any (a : Option Addr) (len cap : Nat) (at_ : Int) (zs : List Int) (w : World) (hr : Rd w a zs) (hl : zs.length = len) (hc : len ≤ cap) (hm : cap ≤ 140737488355328) :
    Calls Try.prog 13 #[.slice a len cap, .int .i64 at_] w fun e w' => e = .returned (.tuple #[.int .i64 (gv zs at_ 2), .bool (fit len at_ 2)]) ∧ w' = w := by
  by_cases h : 0 ≤ at_ ∧ at_ + (2 : Nat) ≤ len
  · obtain ⟨k, rfl⟩ := Int.eq_ofNat_of_zero_le h.1
    have := refu16_yes a len cap k zs w hr hl hc hm (by omega)
    have e1 : gv zs k 2 = val ((zs.drop k).take 2) := by unfold gv fit; rw [if_pos (by rw [hl]; exact decide_eq_true h)]; rfl
    have e2 : fit len k 2 = true := decide_eq_true h
    rw [e1, e2]; exact this
  · have := refu16_no a len cap at_ w hc hm (by omega)
    have e1 : gv zs at_ 2 = 0 := by unfold gv fit; rw [if_neg (by rw [hl]; simpa using h)]
    have e2 : fit len at_ 2 = false := decide_eq_false h
    rw [e1, e2]; exact this
theorem u32_any (a : Option Addr) (len cap : Nat) (at_ : Int) (zs : List Int) (w : World) (hr : Rd w a zs) (hl : zs.length = len) (hc : len ≤ cap) (hm : cap ≤ 140737488355328) :
    Calls Try.prog 14 #[.slice a len cap, .int .i64 at_] w fun e w' => e = .returned (.tuple #[.int .u32 (gv zs at_ 4), .bool (fit len at_ 4)]) ∧ w' = w := by
  by_cases h : 0 ≤ at_ ∧ at_ + (4 : Nat) ≤ len
  · obtain ⟨k, rfl⟩ := Int.eq_ofNat_of_zero_le h.1
    have := u32_yes a len cap k zs w hr hl hc hm (by omega)
    have e1 : gv zs k 4 = val ((zs.drop k).take 4) := by unfold gv fit; rw [if_pos (by rw [hl]; exact decide_eq_true h)]; rfl
    have e2 : fit len k 4 = true := decide_eq_true h
    rw [e1, e2]; exact this
  · have := u32_no a len cap at_ w hc hm (by omega)
    have e1 : gv zs at_ 4 = 0 := by unfold gv fit; rw [if_neg (by rw [hl]; simpa using h)]
    have e2 : fit len at_ 4 = false := decide_eq_false h
    rw [e1, e2]; exact this
theorem refu32_any (a : Option Addr) (len cap : Nat) (at_ : Int) (zs : List Int) (w : World) (hr : Rd w a zs) (hl : zs.length = len) (hc : len ≤ cap) (hm : cap ≤ 140737488355328) :
    Calls Try.prog 15 #[.slice a len cap, .int .i64 at_] w fun e w' => e = .returned (.tuple #[.int .u32 (gv zs at_ 4), .bool (fit len at_ 4)]) ∧ w' = w := by
  by_cases h : 0 ≤ at_ ∧ at_ + (4 : Nat) ≤ len
  · obtain ⟨k, rfl⟩ := Int.eq_ofNat_of_zero_le h.1
    have := refu32_yes a len cap k zs w hr hl hc hm (by omega)
    have e1 : gv zs k 4 = val ((zs.drop k).take 4) := by unfold gv fit; rw [if_pos (by rw [hl]; exact decide_eq_true h)]; rfl
    have e2 : fit len k 4 = true := decide_eq_true h
    rw [e1, e2]; exact this
  · have := refu32_no a len cap at_ w hc hm (by omega)
    have e1 : gv zs at_ 4 = 0 := by unfold gv fit; rw [if_neg (by rw [hl]; simpa using h)]
    have e2 : fit len at_ 4 = false := decide_eq_false h
    rw [e1, e2]; exact this

/-- The two bytes of a number, or none; what is told. -/
def p16 (n : Int) : List Int := if 0 ≤ n ∧ n ≤ 65535 then [n / 256, n % 256] else []
def e16 (n : Int) : Int := if 0 ≤ n ∧ n ≤ 65535 then 0 else 2
def p32 (m : Int) : List Int := [m / 16777216, m / 65536 % 256, m / 256 % 256, m % 256]

theorem new_own (w : World) (zs : List Int) (h : ∀ z ∈ zs, 0 ≤ z ∧ z ≤ 255) (hl : zs.length ≤ 4) : OwnA w.heap.size (w.alloc (.cells (zs.map (Value.int .u8)).toArray 5)) (some ⟨w.heap.size, 0, none⟩) zs.length zs :=
  .inr ⟨w.heap.size, rfl, Nat.le_refl _, ⟨heap_alloc_new _ _, h⟩, Nat.le_refl _, by simp only [maxLen]; omega⟩
theorem new_below (w : World) (o : Obj) : Below w.heap.size w (w.alloc o) := (Below.refl _ _).alloc (Nat.le_refl _) _

theorem put16_any (n : Int) (k : Nat) (er : Int) (hk : (p16 n).length = k) (he : e16 n = er) (w : World) :
    Calls Try.prog 9 #[.int .i64 n] w fun e w' => ∃ ao, e = .returned (.tuple #[.slice ao k k, .int .i64 er]) ∧ Hid (OwnA w.heap.size w' ao k (p16 n) ∧ Below w.heap.size w w') := by
  subst hk; subst he
  by_cases h : 0 ≤ n ∧ n ≤ 65535
  · refine (put16_yes n w h.1 h.2).mono ?_
    rintro e w' ⟨rfl, rfl⟩
    simp only [p16, e16, if_pos h]
    exact ⟨_, rfl, new_own w [n / 256, n % 256] (by intro z hz; simp at hz; omega) (by simp), new_below _ _⟩
  · refine (put16_no n w (by omega)).mono ?_
    rintro e w' ⟨rfl, rfl⟩
    simp only [p16, e16, if_neg h]
    exact ⟨none, rfl, .inl ⟨rfl, rfl, rfl⟩, Below.refl _ _⟩
theorem refput16_any (n : Int) (k : Nat) (er : Int) (hk : (p16 n).length = k) (he : e16 n = er) (w : World) :
    Calls Try.prog 10 #[.int .i64 n] w fun e w' => ∃ ao, e = .returned (.tuple #[.slice ao k k, .int .i64 er]) ∧ Hid (OwnA w.heap.size w' ao k (p16 n) ∧ Below w.heap.size w w') := by
  subst hk; subst he
  by_cases h : 0 ≤ n ∧ n ≤ 65535
  · refine (refput16_yes n w h.1 h.2).mono ?_
    rintro e w' ⟨rfl, rfl⟩
    simp only [p16, e16, if_pos h]
    exact ⟨_, rfl, new_own w [n / 256, n % 256] (by intro z hz; simp at hz; omega) (by simp), new_below _ _⟩
  · refine (refput16_no n w (by omega)).mono ?_
    rintro e w' ⟨rfl, rfl⟩
    simp only [p16, e16, if_neg h]
    exact ⟨none, rfl, .inl ⟨rfl, rfl, rfl⟩, Below.refl _ _⟩
theorem put32_any (m : Int) (h0 : 0 ≤ m) (h1 : m < 4294967296) (w : World) :
    Calls Try.prog 11 #[.int .u32 m] w fun e w' => ∃ ao, e = .returned (.slice ao 4 4) ∧ Hid (OwnA w.heap.size w' ao 4 (p32 m) ∧ Below w.heap.size w w') := by
  refine (put32_yes m w h0 h1).mono ?_
  rintro e w' ⟨rfl, rfl⟩
  exact ⟨_, rfl, new_own w (p32 m) (by intro z hz; simp [p32] at hz; omega) (by simp [p32]), new_below _ _⟩
theorem refput32_any (m : Int) (h0 : 0 ≤ m) (h1 : m < 4294967296) (w : World) :
    Calls Try.prog 17 #[.int .u32 m] w fun e w' => ∃ ao, e = .returned (.slice ao 4 4) ∧ Hid (OwnA w.heap.size w' ao 4 (p32 m) ∧ Below w.heap.size w w') := by
  refine (refput32_yes m w h0 h1).mono ?_
  rintro e w' ⟨rfl, rfl⟩
  exact ⟨_, rfl, new_own w (p32 m) (by intro z hz; simp [p32] at hz; omega) (by simp [p32]), new_below _ _⟩

theorem same_own {B B' : Nat} {W : World} {ao bo : Option Addr} {k : Nat} {zs : List Int} (h1 : OwnA B W ao k zs) (h2 : OwnA B' W bo k zs) (hk : zs.length = k) :
    Calls Try.prog 16 #[.slice ao k k, .slice bo k k] W fun e w' => e = .returned (.bool true) ∧ w' = W :=
  same_yes ao bo k k k zs W h1.rd h2.rd hk

set_option maxHeartbeats 1000000 in
theorem numbers_walk (n m at_ : Int) (a : Option Addr) (len cap : Nat) (zs : List Int) (w : World) (hr : Rd w a zs) (hl : zs.length = len) (hc : len ≤ cap) (hm : cap ≤ 140737488351232) (hd : a = none → cap = 0) (hm0 : 0 ≤ m) (hm1 : m < 4294967296) :
    Calls Try.prog 3 #[.int .i64 n, .int .u32 m, .slice a len cap, .int .i64 at_] w fun e w' => e = .returned (.bool true) ∧ Below w.heap.size w w' := by
  have HR : Hid (Rd w a zs) := hr
  have HD : Hid (a = none → cap = 0) := hd
  have HL : Hid (zs.length = len) := hl
  obtain ⟨k, hk⟩ : ∃ k, (p16 n).length = k := ⟨_, rfl⟩
  obtain ⟨er, her⟩ : ∃ er, e16 n = er := ⟨_, rfl⟩
  have HK : Hid ((p16 n).length = k ∧ e16 n = er) := ⟨hk, her⟩
  have HX : Hid (Calls Try.prog 8 #[.slice a len cap] w fun e w' => e = .returned (.slice (some ⟨w.heap.size, 0, none⟩) len (len + 3)) ∧ Hid (Blk w' w.heap.size (lent zs 3) ∧ w'.heap.size = w.heap.size + 1 ∧ Below w.heap.size w w')) := by
    have := lent_any a cap zs w hr hd (by omega)
    rw [hl] at this
    exact this
  clear hr hd hl hk her
  go_enter Try.func3, Try.ntmps3
  go_wp2_with fail
  refine HX.out.mono ?_
  rintro e w1 ⟨rfl, H1⟩
  go_wp2_with fail
  refine (put16_any n k er HK.out.1 HK.out.2 _).mono ?_
  rintro e w2 ⟨ax, rfl, H2⟩
  go_wp2_with fail
  refine (refput16_any n k er HK.out.1 HK.out.2 _).mono ?_
  rintro e w3 ⟨ay, rfl, H3⟩
  go_wp2_with fail
  refine (put32_any m hm0 hm1 _).mono ?_
  rintro e w4 ⟨az, rfl, H4⟩
  have R1 : Hid (Blk w4 w.heap.size (lent zs 3) ∧ Rd w4 a zs ∧ OwnA w1.heap.size w4 ax k (p16 n) ∧ OwnA w2.heap.size w4 ay k (p16 n) ∧ OwnA w3.heap.size w4 az 4 (p32 m) ∧ Below w.heap.size w w4) := by
    obtain ⟨b1, s1, l1⟩ := H1.out
    obtain ⟨o2, l2⟩ := H2.out
    obtain ⟨o3, l3⟩ := H3.out
    obtain ⟨o4, l4⟩ := H4.out
    exact ⟨((b1.below l2).below l3).below l4, (((HR.out.below l1).below l2).below l3).below l4, (o2.below l3).below l4, o3.below l4, o4,
      l1.trans ((l2.mono l1.size).trans ((l3.mono (Nat.le_trans l1.size l2.size)).trans (l4.mono (Nat.le_trans l1.size (Nat.le_trans l2.size l3.size)))))⟩
  have HIN : Hid (Rd w4 (some ⟨w.heap.size, 0, none⟩) zs) := by
    have := R1.out.1.rd zs.length
    rw [lent_take] at this
    exact this
  go_wp2_with fail
  refine (u16_any _ len (len + 3) at_ zs _ HIN.out HL.out (by omega) (by omega)).mono ?_
  rintro e w5 ⟨rfl, rfl⟩
  go_wp2_with fail
  refine (refu16_any _ len cap at_ zs _ R1.out.2.1 HL.out hc (by omega)).mono ?_
  rintro e w6 ⟨rfl, rfl⟩
  go_wp2_with fail
  refine (u32_any _ len (len + 3) at_ zs _ HIN.out HL.out (by omega) (by omega)).mono ?_
  rintro e w7 ⟨rfl, rfl⟩
  go_wp2_with fail
  refine (refu32_any _ len cap at_ zs _ R1.out.2.1 HL.out hc (by omega)).mono ?_
  rintro e w8 ⟨rfl, rfl⟩
  go_wp2_with fail
  refine (same_own R1.out.2.2.1 R1.out.2.2.2.1 HK.out.1).mono ?_
  rintro e w9 ⟨rfl, rfl⟩
  go_wp2_with fail
  refine (refput32_any m hm0 hm1 _).mono ?_
  rintro e w10 ⟨at4, rfl, H10⟩
  go_wp2_with fail
  refine (same_own (R1.out.2.2.2.2.1.below H10.out.2) H10.out.1 rfl).mono ?_
  rintro e w11 ⟨rfl, rfl⟩
  go_wp2_with fail
  refine (kept_yes w.heap.size a cap len zs _ HL.out (R1.out.1.below H10.out.2) (R1.out.2.1.below H10.out.2) HD.out (by omega) hc).mono ?_
  rintro e w12 ⟨rfl, hb12⟩
  have H12 : Hid (Below w11.heap.size w11 w12) := hb12
  clear hb12
  go_wp2_with fail
  refine (put32_any m hm0 hm1 _).mono ?_
  rintro e w13 ⟨au, rfl, H13⟩
  go_wp2_with fail
  obtain ⟨b1, s1, l1⟩ := H1.out
  obtain ⟨o2, l2⟩ := H2.out
  obtain ⟨o3, l3⟩ := H3.out
  obtain ⟨o4, l4⟩ := H4.out
  obtain ⟨o10, l10⟩ := H10.out
  have l12 := H12.out
  obtain ⟨o13, l13⟩ := H13.out
  have hlen3 : (lent zs 3).length = len + 3 := by rw [lent_len _ _ (Nat.le_refl _), HL.out]
  have L4 : Below w9.heap.size w9 w13 := l10.trans ((l12.mono l10.size).trans (l13.mono (Nat.le_trans l10.size l12.size)))
  have L1 : Below w.heap.size w w13 := R1.out.2.2.2.2.2.trans (L4.mono (Nat.le_trans l1.size (Nat.le_trans l2.size (Nat.le_trans l3.size l4.size))))
  have i13 : OwnA w.heap.size w13 (some ⟨w.heap.size, 0, none⟩) len (lent zs 3) := .inr ⟨_, rfl, Nat.le_refl _, R1.out.1.below L4, by rw [hlen3]; omega, by rw [hlen3]; simp only [maxLen]; omega⟩
  have x13 : OwnA w1.heap.size w13 ax k (p16 n) := R1.out.2.2.1.below L4
  have z13 : OwnA w3.heap.size w13 az 4 (p32 m) := R1.out.2.2.2.2.1.below L4
  have z12 : OwnA w3.heap.size w12 az 4 (p32 m) := (R1.out.2.2.2.2.1.below l10).below l12
  have i1 : OwnA w.heap.size w1 (some ⟨w.heap.size, 0, none⟩) len (lent zs 3) := .inr ⟨_, rfl, Nat.le_refl _, b1, by rw [hlen3]; omega, by rw [hlen3]; simp only [maxLen]; omega⟩
  have hAp : Apart w13.heap.size [(some ⟨w.heap.size, 0, none⟩, len, lent zs 3), (ax, k, p16 n), (az, 4, p32 m), (au, 4, p32 m)] := by
    refine Apart.of ?_ ?_
    · intro e he hb
      simp only [List.mem_cons, List.not_mem_nil, or_false] at he
      rcases he with rfl | rfl | rfl | rfl
      · have := (i13.lt _ hb).2; omega
      · have := (x13.lt _ hb).2; omega
      · have := (z13.lt _ hb).2; omega
      · have := (o13.lt _ hb).2; omega
    · simp only [List.pairwise_cons, List.mem_cons, List.not_mem_nil, or_false, forall_eq_or_imp, forall_eq, List.Pairwise.nil, and_true, false_implies, implies_true]
      exact ⟨⟨i1.apart x13 (Nat.le_refl _), i1.apart z13 (Nat.le_trans l2.size l3.size), i1.apart o13 (Nat.le_trans l2.size (Nat.le_trans l3.size (Nat.le_trans l4.size (Nat.le_trans l10.size l12.size))))⟩,
        ⟨o2.apart z13 l3.size, o2.apart o13 (Nat.le_trans l3.size (Nat.le_trans l4.size (Nat.le_trans l10.size l12.size)))⟩, z12.apart o13 (Nat.le_refl _)⟩
  have hnb := new_below w13 (.cells #[.slice (some ⟨w.heap.size, 0, none⟩) len (len + 3), .slice ax k k, .slice az 4 4, .slice au 4 4] 23)
  have hLi : Lie w.heap.size (w13.alloc (.cells #[.slice (some ⟨w.heap.size, 0, none⟩) len (len + 3), .slice ax k k, .slice az 4 4, .slice au 4 4] 23)) w13.heap.size [(some ⟨w.heap.size, 0, none⟩, len, lent zs 3), (ax, k, p16 n), (az, 4, p32 m), (au, 4, p32 m)] := by
    refine Lie.of (by simp) ?_ ?_
    · intro j hj
      have hj' : j = 0 ∨ j = 1 ∨ j = 2 ∨ j = 3 := by simp at hj; omega
      rcases hj' with rfl | rfl | rfl | rfl
      · simp [go_sem, hlen3]
      · simp [go_sem, HK.out.1]
      · simp [go_sem, p32]
      · simp [go_sem, p32]
    · intro e he
      simp only [List.mem_cons, List.not_mem_nil, or_false] at he
      rcases he with rfl | rfl | rfl | rfl
      · exact i13.below hnb
      · exact (x13.mono l1.size).below hnb
      · exact (z13.mono (Nat.le_trans l1.size (Nat.le_trans l2.size l3.size))).below hnb
      · exact (o13.mono (by have := L1.size; have := l13.size; have := (R1.out.2.2.2.2.2).size; have := l10.size; have := l12.size; omega)).below hnb
  have hsm : ∀ j (h : j < [((some ⟨w.heap.size, 0, none⟩ : Option Addr), len, lent zs 3), (ax, k, p16 n), (az, 4, p32 m), (au, 4, p32 m)].length), ([((some ⟨w.heap.size, 0, none⟩ : Option Addr), len, lent zs 3), (ax, k, p16 n), (az, 4, p32 m), (au, 4, p32 m)][j]).2.2.length ≤ 140737488355328 := by
    intro j hj
    have hj' : j = 0 ∨ j = 1 ∨ j = 2 ∨ j = 3 := by simp at hj; omega
    rcases hj' with rfl | rfl | rfl | rfl
    · show (lent zs 3).length ≤ _; rw [hlen3]; omega
    · show (p16 n).length ≤ _; unfold p16; split <;> simp
    · simp [p32]
    · simp [p32]
  have hB : w.heap.size ≤ (w13.alloc (.cells #[.slice (some ⟨w.heap.size, 0, none⟩) len (len + 3), .slice ax k k, .slice az 4 4, .slice au 4 4] 23)).heap.size := Nat.le_trans L1.size hnb.size
  have hfin := apart_yes w.heap.size w13.heap.size 4 4 _ _ rfl (Nat.le_refl _) (by omega) (by omega) hB L1.size hLi hAp hsm
  refine hfin.mono ?_
  rintro e w14 ⟨rfl, hb14⟩
  have hend : Below w.heap.size w w14 := (L1.trans (hnb.mono L1.size)).trans hb14
  clear hfin hB hsm hLi hnb hAp i1 z12 z13 x13 i13 L1 L4 hlen3 o13 l13 l12 l10 o10 o4 l4 o3 l3 o2 l2 b1 s1 l1
  go_wp2
  go_ret
  exact ⟨rfl, hend⟩
end Go.Proofs.Ytglkjiebcmmglaa
