/- The statement's function about names that are written and read again returns true and leaves what was there. -/
import Derived.Test.YtkbpjaojgkpffaaPartN
import Derived.Test.YtkbpjaojgkpffaaNxr
namespace Go.Proofs.Ytkbpjaojgkpffaa
open Go.ChangeShapes Go.WideShapes Go.ChangeAt Go.RowKit
set_option linter.unusedVariables false
set_option linter.unusedSimpArgs false

theorem emptyB_own (w : World) : Own w.heap.size (w.alloc (.cells #[] 5)) (.slice (some ⟨w.heap.size, 0, none⟩) 0 0) 0 [] :=
  .inr ⟨w.heap.size, rfl, Nat.le_refl _, ⟨by rw [heap_alloc_new]; rfl, by simp⟩, Nat.le_refl _, Nat.zero_le _⟩
set_option maxRecDepth 100000 in
set_option maxHeartbeats 800000 in
theorem copyB_any (a : Option Addr) (cap len : Nat) (zs : List Int) (w : World) (hr : Rd w a zs) (hl : zs.length = len) (hd : a = none → cap = 0) (hm : len ≤ 140737488355328) :
    Calls Try.prog 50 #[.slice a len cap] w fun e w' => ∃ v ys, e = .returned v ∧ Hid (Own w.heap.size w' v len ys ∧ ys.take len = zs ∧ Below w.heap.size w w') := by
  have HR : Hid (Rd w a zs) := hr
  have HD : Hid (a = none → cap = 0) := hd
  have HL : Hid (zs.length = len) := hl
  clear hr hd hl
  have hb1 : Below w.heap.size w (w.alloc (.cells #[] 5)) := (Below.refl _ _).alloc (Nat.le_refl _) _
  go_enter Try.func50, Try.ntmps50
  go_wp2_with (at_builtin; refine wpList_append_blk _ rfl _ _ rfl w.heap.size _ 0 [] rfl (emptyB_own w) a len cap zs rfl (HR.out.below hb1) HL.out HD.out (by omega) (by simp) ?_; intro v' w' zs' hO hT hG)
  go_ret
  refine ⟨v', zs', rfl, ?_, ?_, ?_⟩
  · have h := hO.out
    rw [Nat.zero_add] at h
    exact h
  · have h := hT.out
    rw [Nat.zero_add] at h
    simpa using h
  · refine hb1.grown hG (by simp) ?_
    intro k hk
    have e : w.heap.size = k := Option.some.inj hk
    omega
theorem nparse_dot : nparse ⟨#[46]⟩ = ([], 0) := by unfold nparse; rw [if_pos (by rw [ba_toList])]
theorem nparse_none : nparse ⟨#[]⟩ = ([], 4) := by
  have hp : pres [] = ([], 0, 4) := (pres_no (l := []) (out := []) (p := 0) (go_stop _ _ _ (by simp)) (by decide)).1
  have hl : lgo (nums ⟨#[]⟩) [] = ([], false, 4) := by
    show lgo [] [] = _
    rw [lgo, hp, if_neg (by decide)]
  unfold nparse
  rw [if_neg (by rw [ba_toList]; simp), hl, if_neg (by decide)]

set_option maxRecDepth 100000 in
set_option maxHeartbeats 2000000 in
theorem nback_bad (a b : Option Addr) (n m c1 c2 : Nat) (bv : Value) (q1 q2 : Int) (w : World) (K1 : Hid (Calls Try.prog 11 #[.slice a n c1] w fun e w' => e = .returned (.int .i64 q1) ∧ Hid (Below w.heap.size w w'))) (K2 : Hid (∀ W, Below w.heap.size w W → Calls Try.prog 11 #[.slice b m c2] W fun e w' => e = .returned (.int .i64 q2) ∧ Hid (Below W.heap.size W w'))) (hq : ¬ (q1 = 0 ∧ q2 = 0)) :
    Calls Try.prog 6 #[.slice a n c1, .slice b m c2, bv] w fun e w' => e = .returned (.bool true) ∧ Below w.heap.size w w' := by
  have KD : Hid (∀ W, Calls Try.prog 38 #[.string ⟨#[46]⟩] W (NPost [] 0 W)) := fun W => by
    have := pparse_any ⟨#[46]⟩ W (by decide)
    rw [nparse_dot] at this
    exact this
  have KE : Hid (∀ W, Calls Try.prog 38 #[.string ⟨#[]⟩] W (NPost [] 4 W)) := fun W => by
    have := pparse_any ⟨#[]⟩ W (by decide)
    rw [nparse_none] at this
    exact this
  by_cases h1 : q1 = 0
  · have h2 : ¬ q2 = 0 := fun h => hq ⟨h1, h⟩
    have h2' : (q2 != 0) = true := bne_iff_ne.2 h2
    subst h1
    clear hq h2
    go_enter Try.func6, Try.ntmps6
    go_wp2_with fail
    refine K1.out.mono ?_
    rintro e w1 ⟨rfl, B1⟩
    go_wp2_with fail
    refine (K2.out _ B1.out).mono ?_
    rintro e w2 ⟨rfl, B2'⟩
    have B2 : Hid (Below w.heap.size w w2) := B1.out.trans (B2'.out.mono B1.out.size)
    go_wp2_with fail
    refine (KD.out _).mono ?_
    rintro e w3 ⟨v3, ys3, rfl, H3⟩
    obtain ⟨ao3, hv3, _⟩ := H3.out.1.shape
    subst hv3
    have B3 : Hid (Below w.heap.size w w3) := B2.out.trans (H3.out.2.2.mono B2.out.size)
    go_wp2_with fail
    refine (KE.out _).mono ?_
    rintro e w4 ⟨v4, ys4, rfl, H4⟩
    have B4 : Hid (Below w.heap.size w w4) := B3.out.trans (H4.out.2.2.mono B3.out.size)
    go_wp2
    go_ret
    exact ⟨rfl, B4.out⟩
  · have h1' : (q1 != 0) = true := bne_iff_ne.2 h1
    clear hq h1
    go_enter Try.func6, Try.ntmps6
    go_wp2_with fail
    refine K1.out.mono ?_
    rintro e w2 ⟨rfl, B2⟩
    go_wp2_with fail
    refine (KD.out _).mono ?_
    rintro e w3 ⟨v3, ys3, rfl, H3⟩
    obtain ⟨ao3, hv3, _⟩ := H3.out.1.shape
    subst hv3
    have B3 : Hid (Below w.heap.size w w3) := B2.out.trans (H3.out.2.2.mono B2.out.size)
    go_wp2_with fail
    refine (KE.out _).mono ?_
    rintro e w4 ⟨v4, ys4, rfl, H4⟩
    have B4 : Hid (Below w.heap.size w w4) := B3.out.trans (H4.out.2.2.mono B3.out.size)
    go_wp2
    go_ret
    exact ⟨rfl, B4.out⟩

set_option maxRecDepth 100000 in
set_option maxHeartbeats 4000000 in
theorem nback_ok (a b d : Option Addr) (n m c1 c2 len cap : Nat) (ss og : List ByteArray) (zs : List Int) (w : World) (hs : Nm w a n ss) (hg : Nm w b m og) (hz : Rd w d zs) (hl : zs.length = len) (hm : len ≤ 140737488351232) (hd : d = none → cap = 0) (k1 : nck ss = 0) (k2 : nck og = 0) :
    Calls Try.prog 6 #[.slice a n c1, .slice b m c2, .slice d len cap] w fun e w' => e = .returned (.bool true) ∧ Below w.heap.size w w' := by
  have HN : Hid (Nm w a n ss ∧ Nm w b m og) := ⟨hs, hg⟩
  have HZ : Hid (Rd w d zs ∧ zs.length = len ∧ (d = none → cap = 0)) := ⟨hz, hl, hd⟩
  have hn := hs.n63
  have HL : Hid (ss.length = n) := hs.len
  have K1 : Hid (Calls Try.prog 11 #[.slice a n c1] w fun e w' => e = .returned (.int .i64 0) ∧ Hid (Below w.heap.size w w')) := by
    have := pcheck_any a n c1 ss w hs
    rw [k1] at this
    exact this
  have K2 : Hid (∀ W, Below w.heap.size w W → Calls Try.prog 11 #[.slice b m c2] W fun e w' => e = .returned (.int .i64 0) ∧ Hid (Below W.heap.size W w')) := fun W hW => by
    have := pcheck_any b m c2 og W (hg.below hW)
    rw [k2] at this
    exact this
  have ht2 : (ntext ss).2 = 0 := by unfold ntext; rw [if_pos k1]; split <;> rfl
  have htz : (ntext ss).1.size ≤ 1020 := by
    unfold ntext
    rw [if_pos k1]
    split
    · decide
    · have := ntxt_size ss ss.length (Nat.le_refl _)
      rw [List.take_length] at this
      have := (nck_small k1).1
      simp only
      omega
  have hp := parse_text ss k1
  have hr := rel_text ss og k1 k2
  have hb : nbytes ss = (nby ss ++ [0], 0) := by unfold nbytes; rw [if_pos k1]
  have hrd := read_bytes ss zs k1
  rw [hb] at hrd
  have hbl : (nby ss ++ [0]).length = nsz ss := by rw [List.length_append]; exact nby_len ss
  have hnz := (nck_small k1).1
  have hn1 : 1 ≤ nsz ss := by have := nsz_len ss; omega
  have KT : Hid (∀ W, Below w.heap.size w W → Calls Try.prog 36 #[.slice a n c1] W fun e w' => e = .returned (.tuple #[.string (ntext ss).1, .int .i64 0]) ∧ Hid (Below W.heap.size W w')) := fun W hW => by
    have := ptext_any a n c1 ss W (hs.below hW)
    rw [ht2] at this
    exact this
  have KP : Hid (∀ W, Calls Try.prog 38 #[.string (ntext ss).1] W (NPost ss 0 W)) := fun W => by
    have := pparse_any (ntext ss).1 W (by omega)
    rw [hp] at this
    exact this
  have KR : Hid (∀ W, Below w.heap.size w W → Calls Try.prog 40 #[.string (ntext ss).1, .slice b m c2] W (NPost ss 0 W)) := fun W hW => by
    have := prel_any (ntext ss).1 b m c2 og W (by omega) (hg.below hW)
    rw [hr] at this
    exact this
  generalize (ntext ss).1 = tt at *
  have KB : Hid (∀ W, Below w.heap.size w W → Calls Try.prog 43 #[.slice a n c1] W fun e w' => ∃ v ys, e = .returned (.tuple #[v, .int .i64 0]) ∧ Hid (Own W.heap.size w' v (nsz ss) ys ∧ ys.take (nsz ss) = nby ss ++ [0] ∧ Below W.heap.size W w')) := fun W hW => by
    have := pbytes_any a n c1 ss W (hs.below hW)
    rw [hb] at this
    simp only [hbl] at this
    exact this
  have KZ : Hid (∀ W, Below w.heap.size w W → Calls Try.prog 13 #[.slice a n c1] W fun e w' => e = .returned (.int .i64 (nsz ss)) ∧ Hid (Below W.heap.size W w')) := fun W hW => psize_any a n c1 ss W (hs.below hW)
  have HRD : Hid (nread (nby ss ++ [0] ++ zs) 0 = (ss, (nsz ss : Int), 0) ∧ (nby ss ++ [0]).length = nsz ss) := ⟨hrd, hbl⟩
  clear hs hg hz hl hd k1 k2 ht2 hp hr hb hrd hbl
  generalize nby ss ++ [0] = bb at *
  generalize nsz ss = sz at *
  go_enter Try.func6, Try.ntmps6
  go_wp2_with fail
  refine K1.out.mono ?_
  rintro e w1 ⟨rfl, B1⟩
  go_wp2_with fail
  refine (K2.out _ B1.out).mono ?_
  rintro e w2 ⟨rfl, B2'⟩
  have B2 : Hid (Below w.heap.size w w2) := B1.out.trans (B2'.out.mono B1.out.size)
  clear B1 B2' K1 K2
  go_wp2_with fail
  refine (KT.out _ B2.out).mono ?_
  rintro e w3 ⟨rfl, B3'⟩
  have B3 : Hid (Below w.heap.size w w3) := B2.out.trans (B3'.out.mono B2.out.size)
  clear B2 B3' KT
  go_wp2_with fail
  refine (KP.out _).mono ?_
  rintro e w4 ⟨v4, ys4, rfl, H4⟩
  obtain ⟨ao4, hv4, _⟩ := H4.out.1.shape
  subst hv4
  have B4 : Hid (Below w.heap.size w w4) := B3.out.trans (H4.out.2.2.mono B3.out.size)
  have R4 : Hid (RdT w4 ao4 ss) := by have := H4.out.1.rd ss.length; rw [H4.out.2.1] at this; exact this
  clear H4 B3 KP
  go_wp2_with fail
  refine (KR.out _ B4.out).mono ?_
  rintro e w5 ⟨v5, ys5, rfl, H5⟩
  obtain ⟨ao5, hv5, _⟩ := H5.out.1.shape
  subst hv5
  have B5 : Hid (Below w.heap.size w w5) := B4.out.trans (H5.out.2.2.mono B4.out.size)
  have R5 : Hid (RdT w5 ao4 ss ∧ RdT w5 ao5 ss) := ⟨R4.out.below H5.out.2.2, by have := H5.out.1.rd ss.length; rw [H5.out.2.1] at this; exact this⟩
  clear H5 B4 KR R4
  go_wp2_with fail
  refine (KB.out _ B5.out).mono ?_
  rintro e w6 ⟨v6, ys6, rfl, H6⟩
  obtain ⟨ao6, hv6, ho6⟩ := H6.out.1.addr
  subst hv6
  have B6 : Hid (Below w.heap.size w w6) := B5.out.trans (H6.out.2.2.mono B5.out.size)
  have R6 : Hid (RdT w6 ao4 ss ∧ RdT w6 ao5 ss) := ⟨R5.out.1.below H6.out.2.2, R5.out.2.below H6.out.2.2⟩
  have KY : Hid (Calls Try.prog 50 #[.slice ao6 sz ys6.length] w6 fun e w' => ∃ v ys, e = .returned v ∧ Hid (Own w6.heap.size w' v sz ys ∧ ys.take sz = bb ∧ Below w6.heap.size w6 w')) := by
    have r := ho6.rdTake sz
    rw [H6.out.2.1] at r
    exact copyB_any ao6 ys6.length sz bb w6 r HRD.out.2 ho6.nil (by omega)
  clear ho6 KB H6 B5 R5
  go_wp2_with fail
  refine KY.out.mono ?_
  rintro e w7 ⟨v7, ys7, rfl, H7⟩
  have B7 : Hid (Below w.heap.size w w7) := B6.out.trans (H7.out.2.2.mono B6.out.size)
  have R7 : Hid (RdT w7 ao4 ss ∧ RdT w7 ao5 ss) := ⟨R6.out.1.below H7.out.2.2, R6.out.2.below H7.out.2.2⟩
  have RZ : Hid (Rd w7 d zs) := HZ.out.1.below B7.out
  clear KY
  go_wp2_with (at_builtin; refine wpList_append_blk _ rfl _ _ rfl w6.heap.size _ sz ys7 rfl H7.out.1 d len cap zs rfl RZ.out HZ.out.2.1 HZ.out.2.2 (by omega) H7.out.2.2.size ?_; intro v8 w8 ys8 hO hT hG; have HG : Hid (w7.grownBy w8 v7.ownBlock) := hG; clear hG; obtain ⟨ao8, hv8, ho8⟩ := hO.out.addr; subst hv8)
  have C8 : Hid (Below w6.heap.size w6 w8) := H7.out.2.2.grown HG.out H7.out.2.2.size H7.out.1.lt
  have B8 : Hid (Below w.heap.size w w8) := B6.out.trans (C8.out.mono B6.out.size)
  have R8 : Hid (RdT w8 ao4 ss ∧ RdT w8 ao5 ss) := ⟨R6.out.1.below C8.out, R6.out.2.below C8.out⟩
  have KD : Hid (Calls Try.prog 45 #[.slice ao8 (sz + len) ys8.length, .int .i64 0] w8 (RPost (ss, (sz : Int), 0) w8)) := by
    have r := ho8.rdTake (sz + len)
    rw [hT.out, H7.out.2.1] at r
    have hle := ho8.le
    have := pread_any ao8 (sz + len) ys8.length (bb ++ zs) 0 w8 r (by rw [List.length_append, HRD.out.2, HZ.out.2.1]) (by omega) ⟨hle.1, by have := hle.2; simp only [maxLen] at this; exact this⟩
    rw [HRD.out.1] at this
    exact this
  clear H7 hT HG ho8 hO R7 RZ C8 R6 B6 B7
  refine KD.out.mono ?_
  rintro e w9 ⟨v9, ys9, rfl, H9⟩
  obtain ⟨ao9, hv9, _⟩ := H9.out.1.shape
  subst hv9
  have B9 : Hid (Below w.heap.size w w9) := B8.out.trans (H9.out.2.2.mono B8.out.size)
  have R9 : Hid (RdT w9 ao4 ss ∧ RdT w9 ao5 ss ∧ RdT w9 ao9 ss) := ⟨R8.out.1.below H9.out.2.2, R8.out.2.below H9.out.2.2, by have := H9.out.1.rd ss.length; rw [H9.out.2.1] at this; exact this⟩
  have KS : Hid (∀ W x cc, Below w.heap.size w W → RdT W x ss → Calls Try.prog 32 #[.slice x ss.length cc, .slice a n c1] W fun e w' => e = .returned (.bool true) ∧ Hid (Below W.heap.size W w')) := fun W x cc hW hx => by
    have := sameN_yes x a ss.length cc c1 ss W hx (HN.out.1.below hW).rd rfl (by rw [HL.out]; omega)
    rw [HL.out] at this ⊢
    exact this
  have B9' : Hid (Below w9.heap.size w9 w9) := Below.refl _ _
  clear KD H9 R8 B8
  go_wp2_with fail
  refine (KS.out _ _ _ B9.out R9.out.1).mono ?_
  rintro e w10 ⟨rfl, B10⟩
  have C10 : Hid (Below w.heap.size w w10) := B9.out.trans (B10.out.mono B9.out.size)
  have R10 : Hid (RdT w10 ao5 ss ∧ RdT w10 ao9 ss) := ⟨R9.out.2.1.below B10.out, R9.out.2.2.below B10.out⟩
  clear R9 B9 B10 B9'
  go_wp2_with fail
  refine (KS.out _ _ _ C10.out R10.out.1).mono ?_
  rintro e w11 ⟨rfl, B11⟩
  have C11 : Hid (Below w.heap.size w w11) := C10.out.trans (B11.out.mono C10.out.size)
  have R11 : Hid (RdT w11 ao9 ss) := R10.out.2.below B11.out
  clear R10 C10 B11
  go_wp2_with fail
  refine (KS.out _ _ _ C11.out R11.out).mono ?_
  rintro e w12 ⟨rfl, B12⟩
  have C12 : Hid (Below w.heap.size w w12) := C11.out.trans (B12.out.mono C11.out.size)
  clear R11 C11 B12 KS
  go_wp2_with fail
  refine (KZ.out _ C12.out).mono ?_
  rintro e w13 ⟨rfl, B13⟩
  have C13 : Hid (Below w.heap.size w w13) := C12.out.trans (B13.out.mono C12.out.size)
  have hszp : (0 : Int) < (sz : Int) := by omega
  clear C12 B13 KZ
  go_wp2
  go_ret
  exact ⟨ret_bool (by first | rfl | simp; try omega), C13.out⟩
end Go.Proofs.Ytkbpjaojgkpffaa
