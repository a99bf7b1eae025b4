/- Lists of texts: read, compared, lent, kept, written over, copied. -/
import Derived.Test.YtmlccnpondemiaaRow
import Derived.Test.YtmlccnpondemiaaRows
import Derived.WalkSpells
import Derived.Deep.QuietTactic
import Derived.BigQuiet
import Derived.Deep.RegionHeld3
namespace Go.Proofs.Ytmlccnpondemiaa
open Go.ChangeShapes Go.WideShapes Go.ChangeAt Go.RowKit
set_option linter.unusedVariables false
set_option linter.unusedSimpArgs false








theorem tyT : ElemTy Try.prog 45 9 (.string ⟨#[]⟩) 16 := ⟨Try.underlying45, by kernel_rfl, rfl⟩
theorem tyN : ElemTy Try.prog 46 9 (.string ⟨#[]⟩) 16 := ⟨Try.underlying46, by kernel_rfl, rfl⟩
/-- Texts as values. -/
def tv (ss : List ByteArray) : List Value := ss.map Value.string
theorem tv_len (ss : List ByteArray) : (tv ss).length = ss.length := by simp [tv]
theorem tv_at (ss : List ByteArray) (i : Nat) (h : i < (tv ss).length) : (tv ss)[i] = .string (ss[i]'(by rw [← tv_len]; exact h)) := by simp [tv]
theorem tv_one (ss : List ByteArray) : ∀ u ∈ tv ss, u.oneCell' = true := by
  intro u hu
  simp only [tv, List.mem_map] at hu
  obtain ⟨s, _, rfl⟩ := hu
  rfl
theorem tv_append (a b : List ByteArray) : tv (a ++ b) = tv a ++ tv b := by simp [tv]
theorem tv_take (a : List ByteArray) (n : Nat) : (tv a).take n = tv (a.take n) := by simp [tv, List.map_take]
theorem tv_drop (a : List ByteArray) (n : Nat) : (tv a).drop n = tv (a.drop n) := by simp [tv, List.map_drop]
/-- Texts that can be read at an address. -/
def RdT (w : World) (a : Option Addr) (ss : List ByteArray) : Prop := RdV w a (tv ss)
theorem RdT.below {w w' : World} {a : Option Addr} {ss : List ByteArray} (h : RdT w a ss) (hb : Below w.heap.size w w') : RdT w' a ss := RdV.below h hb
theorem RdT.at {w : World} {a : Option Addr} {ss : List ByteArray} (h : RdT w a ss) (i : Nat) (hi : i < ss.length) : ∃ b o, a = some ⟨b, o, none⟩ ∧ b < w.heap.size ∧ w.cell? ⟨b, o + i, none⟩ = some (.string ss[i]) := by
  rcases h with h | ⟨b, o, rfl, h1, h2⟩
  · have := congrArg List.length h
    rw [tv_len] at this
    simp at this
    subst this
    simp at hi
  · refine ⟨b, o, rfl, h1, ?_⟩
    rw [h2 i (by rw [tv_len]; exact hi), tv_at]
set_option maxRecDepth 100000 in
set_option maxHeartbeats 1000000 in
theorem sameT_yes (a b : Option Addr) (n c d : Nat) (ss : List ByteArray) (w : World) (hr : RdT w a ss) (hr' : RdT w b ss) (hl : ss.length = n) (hn : n ≤ 9223372036854775807) :
    Calls Try.prog 55 #[.slice a n c, .slice b n d] w fun e w' => e = .returned (.bool true) ∧ Hid (Below w.heap.size w w') := by
  have HR : Hid (RdT w a ss ∧ RdT w b ss) := ⟨hr, hr'⟩
  have HL : Hid (ss.length = n) := hl
  clear hr hr' hl
  go_enter Try.func55, Try.ntmps55
  go_wp2_with fail
  go_loopw [5] (fun x wr => ∃ k : Nat, k ≤ n ∧ x = .int .i64 k ∧ Hid (Below w.heap.size w wr)) (fun x _ => n - (intOf x).toNat)
  case atStart => exact ⟨0, Nat.zero_le _, rfl, Below.refl _ _⟩
  case round =>
    obtain ⟨k, hk, rfl, HB⟩ := hrel
    by_cases hlt : k < n
    · have hlt' : (k : Int) < (n : Int) := by omega
      have hks : k < ss.length := by rw [HL.out]; exact hlt
      obtain ⟨b1, o1, rfl, l1, c1⟩ := (HR.out.1.below HB.out).at k hks
      obtain ⟨b2, o2, rfl, l2, c2⟩ := (HR.out.2.below HB.out).at k hks
      generalize ss[k] = s at *
      go_wp2_with fail
      go_quiet (fail)
      have HB2 : Hid (Below w.heap.size w (wr.drewN nq)) := HB.out.trans ⟨rfl, rfl, rfl, Nat.le_refl _, fun _ _ => rfl⟩
      clear c1 c2
      generalize wr.drewN nq = W2 at *
      go_wp2
      exact ⟨⟨k + 1, by omega, by go_num, HB2⟩, by simp [intOf]; omega⟩
    · have hge : (n : Int) ≤ (k : Int) := by omega
      go_wp2
      go_ret
      exact ⟨rfl, HB.out⟩
/-- The mark behind a list of texts that is lent. -/
def mk : ByteArray := ⟨#[108, 101, 110, 116]⟩
def lentT (ss : List ByteArray) (k : Nat) : List ByteArray := ss ++ List.replicate k mk ++ List.replicate (3 - k) ⟨#[]⟩
theorem lentT_len (ss : List ByteArray) (k : Nat) (h : k ≤ 3) : (lentT ss k).length = ss.length + 3 := by simp [lentT]; omega
theorem lentT_zero (ss : List ByteArray) : lentT ss 0 = ss ++ List.replicate 3 ⟨#[]⟩ := by simp [lentT]
theorem lentT_step (ss : List ByteArray) (k : Nat) (h : k < 3) : (tv (lentT ss k)).set (ss.length + k) (.string mk) = tv (lentT ss (k + 1)) := by
  have : k = 0 ∨ k = 1 ∨ k = 2 := by omega
  rcases this with rfl | rfl | rfl <;> simp [lentT, tv, List.replicate]
theorem lentT_take (ss : List ByteArray) (k : Nat) : (lentT ss k).take ss.length = ss := by simp [lentT]
/-- What writing over a text makes of it. -/
def bang (s : ByteArray) : ByteArray := s ++ ⟨#[33]⟩
def overT (ss : List ByteArray) (k : Nat) : List ByteArray := (ss.take k).map bang ++ ss.drop k
theorem overT_len (ss : List ByteArray) (k : Nat) : (overT ss k).length = ss.length := by simp [overT]; omega
theorem overT_at (ss : List ByteArray) (k : Nat) (h : k < ss.length) : (tv (overT ss k))[k]? = some (.string ss[k]) := by
  have e : ((ss.take k).map bang).length = k := by simp; omega
  simp [tv, overT]
  rw [List.getElem?_append_right (by simp; omega)]
  simp [show min k ss.length = k by omega]
theorem overT_step (ss : List ByteArray) (k : Nat) (h : k < ss.length) : (tv (overT ss k)).set k (.string (bang ss[k])) = tv (overT ss (k + 1)) := by
  have e : ((ss.take k).map bang).length = k := by simp; omega
  unfold overT
  rw [List.take_succ_eq_append_getElem h, List.map_append, List.drop_eq_getElem_cons h]
  simp only [tv_append]
  rw [List.set_append_right _ _ (by rw [tv_len, e]; exact Nat.le_refl _), tv_len, e, Nat.sub_self, List.append_assoc]
  rfl
end Go.Proofs.Ytmlccnpondemiaa
