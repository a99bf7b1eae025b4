/- The chapter's first examples: awake. -/
import Derived.Test.YtfnpiknobmecbaaSqn
import Derived.Test.YtfnpiknobmecbaaSqg
namespace Go.Proofs.Ytfnpiknobmecbaa
open Go.ChangeShapes Go.WideShapes Go.ChangeAt Go.RowKit Go.Maps
set_option linter.unusedVariables false
set_option linter.unusedSimpArgs false

theorem arg2 (w : World) (s t : ByteArray) (hs : s.size ≤ 100) (ht : t.size ≤ 100) : Arg (w.alloc (.cells #[.string s, .string t] 9)) (some ⟨w.heap.size, 0, none⟩) 2 [s, t] := by
  refine ⟨.inr ⟨w.heap.size, 0, rfl, by simp, fun i hi => ?_⟩, rfl, by omega, fun x hx => ?_⟩
  · have : i = 0 ∨ i = 1 := by simp [tv] at hi; omega
    rcases this with rfl | rfl <;> simp [go_sem, tv]
  · simp at hx
    rcases hx with rfl | rfl <;> omega
def k_ab : ByteArray := ⟨#[1, 97, 1, 98, 0]⟩
def k_b : ByteArray := ⟨#[1, 98, 0]⟩
def k_cb : ByteArray := ⟨#[1, 99, 1, 98, 0]⟩
def wp1 : List (ByteArray × Nat) := [(k_b, 2), (k_ab, 0)]
def wp2 : List (ByteArray × Nat) := [(k_cb, 5), (k_b, 2), (k_ab, 0)]
def wx1 : List Int := [1, 97, 1, 98, 0]
def wx2 : List Int := [1, 97, 1, 98, 0, 1, 99, 192, 2]
theorem wn1 : wnm [] [] [⟨#[97]⟩, ⟨#[98]⟩] true = (0, wx1, wp1) := by decide +kernel
theorem wn2 : wnm wx1 wp1 [⟨#[99]⟩, ⟨#[98]⟩] true = (0, wx2, wp2) := by decide +kernel
theorem qr2 : qread wx2 5 true = ([⟨#[99]⟩, ⟨#[98]⟩], 9, 0) := by
  unfold qread
  rw [if_neg (by decide)]
  have h1 : qgo wx2 true 5 5 none [] = some ([⟨#[99]⟩, ⟨#[98]⟩], 9) := by
    rw [qgo_lab (by decide) (by decide) (by decide) (by decide) (by decide +kernel)]
    have e1 : (wx2.getD 5 0).toNat = 1 := by decide
    have e2 : qlab wx2 (5 + 1) 1 = ⟨#[99]⟩ := by decide +kernel
    rw [e1, e2, qgo_ptr (by decide) (by decide) (by decide)]
    have e3 : qto wx2 (5 + 1 + 1) = 2 := by decide
    rw [e3, qgo_lab (by decide) (by decide) (by decide) (by decide) (by decide +kernel)]
    have e4 : (wx2.getD 2 0).toNat = 1 := by decide
    have e5 : qlab wx2 (2 + 1) 1 = ⟨#[98]⟩ := by decide +kernel
    rw [e4, e5, qgo_end (by decide) (by decide)]
    rfl
  show (match qgo wx2 true (5 : Int).toNat (5 : Int).toNat none [] with | some (n, q) => (n, (q : Int), (0 : Int)) | none => ([], 0, 8)) = _
  rw [show ((5 : Int).toNat) = 5 from rfl, h1]
  rfl
theorem str2 : (⟨(txt wx2).toArray⟩ : ByteArray) = ⟨#[1, 97, 1, 98, 0, 1, 99, 192, 2]⟩ := by decide +kernel
theorem wp1_lt : ∀ k p, (k, p) ∈ wp1 → p < 16384 := by
  intro k p h
  simp [wp1] at h
  rcases h with ⟨_, rfl⟩ | ⟨_, rfl⟩ <;> omega
/-- All, as it is read. -/
theorem all_rd (B g n : Nat) (tx : List Int) (pl : List (ByteArray × Nat)) (w : World) (h : Wr B w g tx pl) (hn : tx.length = n) (ht : n ≤ 100000) :
    Calls Try.prog 12 #[.pointer (some ⟨g, 0, none⟩)] w fun e w' => ∃ a' c', e = .returned (.slice a' n c') ∧ Hid (Rd w' a' tx ∧ n ≤ c' ∧ c' ≤ 9223372036854775807 ∧ Below w.heap.size w w') := by
  subst hn
  refine (all_any B g tx pl w h ht).mono ?_
  rintro e w' ⟨v, ys, rfl, H⟩
  obtain ⟨ao, rfl, hA⟩ := H.out.1.addr
  have h1 := hA.rdTake tx.length
  rw [H.out.2.1] at h1
  exact ⟨ao, ys.length, rfl, h1, hA.le.1, by have := hA.le.2; unfold maxLen at this; omega, H.out.2.2⟩
set_option maxRecDepth 100000 in
set_option maxHeartbeats 4000000 in
theorem awake_any (w : World) : Calls Try.prog 27 #[] w fun e w' => e = .returned (.bool true) ∧ Hid (Below w.heap.size w w') := by
  have KN := Lib.hid (new_any w)
  go_enter Try.func27, Try.ntmps27
  go_wp2_with fail
  refine KN.out.mono ?_
  rintro e w1 ⟨rfl, H1⟩
  have HX : Hid (Wr w.heap.size (w1.alloc (.cells #[.string ⟨#[97]⟩, .string ⟨#[98]⟩] 9)) (w.heap.size + 1) [] [] ∧ Below w.heap.size w (w1.alloc (.cells #[.string ⟨#[97]⟩, .string ⟨#[98]⟩] 9))) := ⟨H1.out.1.below (new_below _ _), H1.out.2.alloc H1.out.2.size _⟩
  have K1 := Lib.hid (wname_any w.heap.size (w.heap.size + 1) [] [] (some ⟨w1.heap.size, 0, none⟩) 2 2 [⟨#[97]⟩, ⟨#[98]⟩] true _ HX.out.1 (arg2 w1 ⟨#[97]⟩ ⟨#[98]⟩ (by decide) (by decide)) (by omega) HX.out.2.size (by simp) (by simp) (by simp))
  rw [wn1] at K1
  generalize hg0 : w.heap.size + 1 = g at *
  go_wp2_with fail
  refine K1.out.mono ?_
  rintro e w2 ⟨rfl, H2⟩
  have HB2 : Hid (Below w.heap.size w w2) := HX.out.2.trans H2.out.2.below
  have HX2 : Hid (Wr w.heap.size (w2.alloc (.cells #[.string ⟨#[99]⟩, .string ⟨#[98]⟩] 9)) g wx1 wp1 ∧ Below w.heap.size w (w2.alloc (.cells #[.string ⟨#[99]⟩, .string ⟨#[98]⟩] 9))) := ⟨H2.out.1.below (new_below _ _), HB2.out.alloc HB2.out.size _⟩
  have K2 := Lib.hid (wname_any w.heap.size g wx1 wp1 (some ⟨w2.heap.size, 0, none⟩) 2 2 [⟨#[99]⟩, ⟨#[98]⟩] true _ HX2.out.1 (arg2 w2 ⟨#[99]⟩ ⟨#[98]⟩ (by decide) (by decide)) (by omega) HX2.out.2.size (by decide) wp1_lt (by decide))
  rw [wn2] at K2
  clear K1 KN
  go_wp2_with fail
  refine K2.out.mono ?_
  rintro e w3 ⟨rfl, H3⟩
  have HB3 : Hid (Below w.heap.size w w3) := HX2.out.2.trans H3.out.2.below
  have HW3 : Hid (Wr w.heap.size w3 g wx2 wp2) := H3.out.1
  have KA : Hid (∀ W, Below w3.heap.size w3 W → Calls Try.prog 12 #[.pointer (some ⟨g, 0, none⟩)] W fun e w' => ∃ a' c', e = .returned (.slice a' 9 c') ∧ Hid (Rd w' a' wx2 ∧ 9 ≤ c' ∧ c' ≤ 9223372036854775807 ∧ Below W.heap.size W w')) := fun W hW => all_rd w.heap.size g 9 wx2 wp2 W (HW3.out.below hW) rfl (by omega)
  clear K2 hg0
  go_wp2_with fail
  refine (KA.out w3 (Below.refl _ _)).mono ?_
  rintro e w4 ⟨a4, c4, rfl, H4⟩
  have K5 := Lib.hid ((sread_any a4 9 c4 5 true wx2 w4 H4.out.1 rfl (by omega) H4.out.2.1 H4.out.2.2.1).mono fun e w' h => by rw [qr2] at h; exact SPost.po h (n := 2) rfl)
  go_wp2_with fail
  refine K5.out.mono ?_
  rintro e w5 ⟨v5, y5, rfl, H5⟩
  obtain ⟨a5, rfl, _⟩ := H5.out.1.shape
  have HB5 : Hid (Below w3.heap.size w3 w5) := H4.out.2.2.2.trans (H5.out.2.2.mono H4.out.2.2.2.size)
  go_wp2_with fail
  refine (KA.out w5 HB5.out).mono ?_
  rintro e w6 ⟨a6, c6, rfl, H6⟩
  have hcv : (convert 27 9 (.slice a6 9 c6)).run Try.prog w6 = .ok (.string ⟨#[1, 97, 1, 98, 0, 1, 99, 192, 2]⟩) w6 := by
    have := conv_rd a6 9 c6 wx2 w6 H6.out.1 rfl
    rw [str2] at this
    exact this
  have HX6 : Hid (RdT (w6.alloc (.cells #[.string ⟨#[99]⟩, .string ⟨#[98]⟩] 9)) a5 [⟨#[99]⟩, ⟨#[98]⟩] ∧ RdT (w6.alloc (.cells #[.string ⟨#[99]⟩, .string ⟨#[98]⟩] 9)) (some ⟨w6.heap.size, 0, none⟩) [⟨#[99]⟩, ⟨#[98]⟩]) := by
    have h1 := ((H5.out.1.below H6.out.2.2.2).below (new_below w6 (.cells #[.string ⟨#[99]⟩, .string ⟨#[98]⟩] 9))).rd 2
    rw [H5.out.2.1] at h1
    exact ⟨h1, (arg2 w6 ⟨#[99]⟩ ⟨#[98]⟩ (by decide) (by decide)).rd⟩
  have K7 := Lib.hid (sameN_yes a5 (some ⟨w6.heap.size, 0, none⟩) 2 y5.length 2 _ _ HX6.out.1 HX6.out.2 rfl (by omega))
  clear KA K5
  go_wp2_with fail
  refine K7.out.mono ?_
  rintro e w7 ⟨rfl, H7⟩
  go_wp2
  go_ret
  refine ⟨rfl, ?_⟩
  have q5 := HB3.out.trans (HB5.out.mono HB3.out.size)
  have q6 := q5.trans (H6.out.2.2.2.mono q5.size)
  have q7 := q6.alloc q6.size (.cells #[.string ⟨#[99]⟩, .string ⟨#[98]⟩] 9)
  exact q7.trans (H7.out.mono q7.size)
end Go.Proofs.Ytfnpiknobmecbaa
