/- The statement's function on what was written and is read again returns true and leaves what was there: what it leans on. -/
import Derived.Test.YtglkjiebcmmglaaJoin
import Derived.Test.YtglkjiebcmmglaaRdWalk
namespace Go.Proofs.Ytglkjiebcmmglaa
open Go.ChangeShapes Go.WideShapes Go.ChangeAt Go.RowKit
set_option linter.unusedVariables false
set_option linter.unusedSimpArgs false

theorem val_p16 (r : Int) (h : 0 ≤ r ∧ r ≤ 65535) : val (p16 r) = r := by
  unfold p16; rw [if_pos h]; simp [val]; omega
theorem len_p16 (r : Int) (h : 0 ≤ r ∧ r ≤ 65535) : (p16 r).length = 2 := by unfold p16; rw [if_pos h]; rfl
theorem e16_ok (r : Int) (h : 0 ≤ r ∧ r ≤ 65535) : e16 r = 0 := by unfold e16; rw [if_pos h]
theorem val_p32 (m : Int) (h : 0 ≤ m ∧ m < 4294967296) : val (p32 m) = m := by
  simp [val, p32]; omega

/-- Numbers read out of bytes whose room is whatever. -/
theorem u16_in (a : Option Addr) (len cap at_ : Nat) (zs : List Int) (w : World) (hr : Rd w a zs) (hl : zs.length = len) (hc : len ≤ cap) (hm : len ≤ 140737488355328) (hn : at_ + 2 ≤ len) :
    Calls Try.prog 12 #[.slice a len cap, .int .i64 at_] w fun e w' => e = .returned (.tuple #[.int .i64 (val ((zs.drop at_).take 2)), .bool true]) ∧ w' = w := by
  have HL : Hid (zs.length = len) := hl
  have HR : Hid (Rd w a zs) := hr
  clear hl hr
  go_enter Try.func12, Try.ntmps12
  go_wp2_with fail
  refine (piece_in a len cap at_ 2 zs _ HR.out HL.out hc hm hn).mono ?_
  rintro e w' ⟨⟨a', rfl, H1⟩, rfl⟩
  have HR' : Hid (Rd w' a' ((zs.drop at_).take 2)) := H1.out.1 _ HR.out
  clear H1
  go_wp2_with fail
  refine (number_any a' 2 (cap - at_) ((zs.drop at_).take 2) _ HR'.out (by simp; have := HL.out; omega) (by omega)).mono ?_
  rintro e w'' ⟨rfl, rfl⟩
  have hv := val_small4 ((zs.drop at_).take 2) HR'.out.2 (by simp; omega)
  go_wp2
  go_ret2
  exact ⟨by simp, rfl⟩
theorem u32_in (a : Option Addr) (len cap at_ : Nat) (zs : List Int) (w : World) (hr : Rd w a zs) (hl : zs.length = len) (hc : len ≤ cap) (hm : len ≤ 140737488355328) (hn : at_ + 4 ≤ len) :
    Calls Try.prog 14 #[.slice a len cap, .int .i64 at_] w fun e w' => e = .returned (.tuple #[.int .u32 (val ((zs.drop at_).take 4)), .bool true]) ∧ w' = w := by
  have HL : Hid (zs.length = len) := hl
  have HR : Hid (Rd w a zs) := hr
  clear hl hr
  go_enter Try.func14, Try.ntmps14
  go_wp2_with fail
  refine (piece_in a len cap at_ 4 zs _ HR.out HL.out hc hm hn).mono ?_
  rintro e w' ⟨⟨a', rfl, H1⟩, rfl⟩
  have HR' : Hid (Rd w' a' ((zs.drop at_).take 4)) := H1.out.1 _ HR.out
  clear H1
  go_wp2_with fail
  refine (number_any a' 4 (cap - at_) ((zs.drop at_).take 4) _ HR'.out (by simp; have := HL.out; omega) (by omega)).mono ?_
  rintro e w'' ⟨rfl, rfl⟩
  have hv := val_small4 ((zs.drop at_).take 4) HR'.out.2 (by simp; omega)
  go_wp2
  go_ret2
  exact ⟨by simp, rfl⟩

/-- The digits of bytes are read as the bytes. -/
theorem nums_hexl (zs : List Int) (k : Nat) (hk : k < zs.length) (hb : ∀ z ∈ zs, 0 ≤ z ∧ z ≤ 255) :
    (nums ⟨(hexl zs).toArray⟩).getD (2 * k) 0 = dg (zs.getD k 0 / 16) ∧ (nums ⟨(hexl zs).toArray⟩).getD (2 * k + 1) 0 = dg (zs.getD k 0 % 16) := by
  have key : ∀ (l : List Int) (j : Nat), j < l.length → (∀ z ∈ l, 0 ≤ z ∧ z ≤ 255) → ((hexl l).map fun b => (b.toNat : Int)).getD (2 * j) 0 = dg (l.getD j 0 / 16) ∧ ((hexl l).map fun b => (b.toNat : Int)).getD (2 * j + 1) 0 = dg (l.getD j 0 % 16) := by
    intro l
    induction l with
    | nil => intro j hj _; simp at hj
    | cons z l ih =>
      intro j hj hz
      have hz0 := hz z (by simp)
      have d1 := dg_bd (z / 16) (by omega)
      have d2 := dg_bd (z % 16) (by omega)
      have e : hexl (z :: l) = ub (dg (z / 16)) :: ub (dg (z % 16)) :: hexl l := by simp [hexl]
      rw [e]
      cases j with
      | zero =>
        simp only [List.map_cons, Nat.mul_zero, List.getD_cons_zero, Nat.zero_add, List.getD_cons_succ]
        exact ⟨ub_nat _ (by omega), ub_nat _ (by omega)⟩
      | succ j =>
        have := ih j (by simpa using hj) (fun y hy => hz y (by simp [hy]))
        simp only [List.map_cons, Nat.mul_succ, List.getD_cons_succ]
        exact this
  have := key zs k hk hb
  simpa [nums] using this
theorem hex_ok (zs : List Int) (hb : ∀ z ∈ zs, 0 ≤ z ∧ z ≤ 255) : (∀ k, k < zs.length → okp (nums ⟨(hexl zs).toArray⟩) k) ∧ prs (nums ⟨(hexl zs).toArray⟩) zs.length = zs := by
  have hz : ∀ k, k < zs.length → 0 ≤ zs.getD k 0 ∧ zs.getD k 0 ≤ 255 := by
    intro k hk
    have := hb zs[k] (List.getElem_mem hk)
    simpa [List.getD_eq_getElem?_getD, hk] using this
  refine ⟨fun k hk => ?_, ?_⟩
  · have h := nums_hexl zs k hk hb
    have := hz k hk
    unfold okp
    rw [h.1, h.2, wv_dg _ (by omega), wv_dg _ (by omega)]
    omega
  · apply List.ext_getElem
    · simp [prs]
    · intro k h1 h2
      have h := nums_hexl zs k h2 hb
      have := hz k h2
      simp only [prs, List.getElem_map, List.getElem_range, pv]
      rw [h.1, h.2, wv_dg _ (by omega), wv_dg _ (by omega)]
      have e : zs.getD k 0 = zs[k] := by simp [List.getD_eq_getElem?_getD, h2]
      rw [e] at this ⊢
      omega
end Go.Proofs.Ytglkjiebcmmglaa
