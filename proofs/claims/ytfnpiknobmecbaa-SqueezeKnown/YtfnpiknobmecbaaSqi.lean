/- The program's tails: an iterator over the places at which the tails of a name's bytes begin. -/
import Derived.Test.YtfnpiknobmecbaaSqh
import Derived.Test.YtfnpiknobmecbaaNxa
import Derived.RangeFuncNested
import Derived.RangeFuncBound
import Derived.RangeFuncCalls
import Derived.RangeFuncLeaves
import Derived.RangeFuncBox
import Derived.Shelf.Abstract
import Derived.Shelf.RegionOpen
import Derived.OwnWalkIn
import Derived.TacticsInMore
import Derived.LoopNIn
import Derived.LoopIn
namespace Go.Proofs.Ytfnpiknobmecbaa
open Go.ChangeShapes Go.WideShapes Go.ChangeAt Go.RowKit Go.Shelf
set_option linter.unusedVariables false
set_option linter.unusedSimpArgs false
attribute [local go_sem] Oper.semAt_some

/-- What the iterator hands out: a label's number. -/
abbrev Ix (n : Nat) := { k : Nat // k < n }
/-- The first k. -/
def iup (n : Nat) : Nat → List (Ix n)
  | 0 => []
  | k + 1 => if h : k < n then iup n k ++ [⟨k, h⟩] else iup n k
theorem iup_succ {n k : Nat} (h : k < n) : iup n (k + 1) = iup n k ++ [⟨k, h⟩] := by simp [iup, h]
theorem iup_len {n : Nat} : ∀ {k : Nat}, k ≤ n → (iup n k).length = k
  | 0, _ => rfl
  | k + 1, h => by rw [iup_succ (by omega), List.length_append, iup_len (by omega)]; rfl
/-- What a round must keep for the iterator: its box. -/
def KpS (Bs : Nat) (A B : World) : Prop := ∀ v, Boxed A Bs 9 v → Boxed B Bs 9 v
theorem kpS_t {Bs : Nat} {A B C : World} (h : KpS Bs A B) (k : KpS Bs B C) : KpS Bs A C := fun v hv => k v (h v hv)
theorem kpS_b {Bs : Nat} {w : World} (W : World) (l : Nat) (o o' : Obj) (hl : w.heap.size ≤ l) (h : W.heap[l]? = some o) (hc : o.isCells = false) (hw : o.isWalk = false) : KpS Bs W (W.putObj l o') :=
  fun v hv => hv.kept (grownBy_putObj' W l o') (fun e => by cases e; rw [show W.heap[Bs]? = _ from hv] at h; cases h; cases hc)

set_option maxRecDepth 100000 in
theorem tails_any (s : ByteArray) (w : World) : Calls Try.prog 54 #[.string s] w fun e w' => e = .returned (.func (.func 59) #[] #[.pointer (some ⟨w.heap.size, 0, none⟩)]) ∧ w' = w.alloc (.cells #[.string s] 9) := by
  go_enter Try.func54, Try.ntmps54
  go_wp2
  go_ret
  exact ⟨rfl, rfl⟩
theorem qkey_byte (ss : List ByteArray) (h : labsOk ss) (p k : Nat) (hp : p < (qkey ss).size) (hk : k < ss.length) (e : p = offs ss k) : ((qkey ss)[p].toNat : Int) = (ss[k].size : Int) := by
  have := qkey_at ss h k hk
  rw [← e, nums_at _ p hp] at this
  exact this
theorem qkey_byte0 (ss : List ByteArray) (h : labsOk ss) (p : Nat) (hp : p < (qkey ss).size) (e : p = offs ss ss.length) : ((qkey ss)[p].toNat : Int) = 0 := by
  have := qkey_end ss h
  rw [← e, nums_at _ p hp] at this
  exact this
set_option maxRecDepth 100000 in
set_option maxHeartbeats 2000000 in
theorem tails1_in (F : Fence) (n : Nat) (h59 : F.fn 59) (hro : F.round = none) (hn : 1 ≤ n) (l Bs : Nat) (ss : List ByteArray) (hk : nck ss = 0) (J Jx : List (Ix ss.length) → World → Prop)
    (hY : ∀ pre x W, J pre W → pre.length < ss.length → YieldAt F (n - 1) Try.prog l #[.int .i64 (offs ss x.1 : Nat)] W fun e W' =>
      (e = .returned (.bool true) ∧ J (pre ++ [x]) W' ∧ KpS Bs W W') ∨ (e = .returned (.bool false) ∧ Jx (pre ++ [x]) W'))
    (W : World) (hBs : Boxed W Bs 9 (.string (qkey ss))) (h0 : J [] W) :
    CallsIn F n Try.prog 59 #[.func (.yield l) #[] #[], .pointer (some ⟨Bs, 0, none⟩)] W fun e W' => (∃ v, e = .returned v) ∧
      ((∃ ys, ys = iup ss.length ss.length ∧ J ys W') ∨ (∃ pre, (∃ k, k ≤ ss.length ∧ pre = iup ss.length k) ∧ Jx pre W')) := by
  have HO : Hid (labsOk ss ∧ nsz ss ≤ 255) := ⟨labs_of hk, (nck_small hk).1⟩
  obtain ⟨s, hs⟩ : ∃ s, qkey ss = s := ⟨_, rfl⟩
  have HS : Hid (qkey ss = s) := hs
  rw [hs] at hBs
  have hz : s.size ≤ 255 := by rw [← hs, qkey_size]; exact HO.out.2
  clear hs
  refine callsIn_of_wp Try.func59 rfl h59 ?_ hro
  simp only [Try.ntmps59, List.size_toArray, List.length_cons, List.length_nil, Nat.reduceAdd, Nat.reduceSub, Array.replicate_succ, Array.replicate_zero, List.push_toArray, List.append_toArray, List.nil_append, List.cons_append]
  gi_wp2
  gi_loopw [3] (fun i wr => ∃ (k p : Nat), k ≤ ss.length ∧ p ≤ 255 ∧ Hid (p = offs ss k) ∧ i = .int .i64 p ∧ J (iup ss.length k) wr ∧ KpS Bs W wr)
    (fun i _ => 255 - (intOf i).toNat)
  case atStart => exact ⟨0, 0, Nat.zero_le _, by omega, (offs_zero ss).symm, rfl, h0, fun _ h => h⟩
  case round =>
    obtain ⟨k, p, hkl, hp255, HP, rfl, hJs, hnx⟩ := hrel
    have hcB := (hnx _ hBs).cell
    have hps : p < s.size := by rw [← HS.out, qkey_size, HP.out]; have := offs_le ss k; omega
    have hps' : (p : Int) < (s.size : Int) := by omega
    by_cases hlt : k < ss.length
    · have hby : (s[p].toNat : Int) = (ss[k].size : Int) := by
        have hx : p < (qkey ss).size := by rw [HS.out]; exact hps
        have := qkey_byte ss HO.out.1 p k hx hlt HP.out
        simpa [HS.out] using this
      have hsz := chk_ok (HO.out.1 ss[k] (List.getElem_mem hlt))
      have HP2 : Hid (p + 1 + ss[k].size = offs ss (k + 1)) := (show _ = _ by rw [offs_succ ss k hlt, ← HP.out])
      have hp2 : p + 1 + ss[k].size ≤ 255 := by rw [HP2.out]; have := offs_le ss (k + 1); have := HO.out.2; omega
      obtain ⟨fn, tmps, assign, body, hy, hRd⟩ := hY _ ⟨k, hlt⟩ wr hJs (by rw [iup_len hkl]; exact hlt)
      dsimp only at hy
      rw [← HP.out] at hy
      rw [← iup_succ hlt] at hRd
      generalize ss[k].size = z at *
      have hz0 : ((z : Int) == 0) = false := by simp; omega
      have hz1 : ((z : Int) != 0) = true := by simp; omega
      gi_wp2
      refine hRd.mono ?_
      rintro e W3 (⟨rfl, hJ3, hk3⟩ | ⟨rfl, hJx3⟩)
      · have hcB3 := (hk3 _ (hnx _ hBs)).cell
        gi_wp2
        go_roundw
        case rel => exact ⟨k + 1, p + 1 + z, by omega, hp2, HP2, by go_num, hJ3, kpS_t hnx hk3⟩
        case measure => simp [intOf]; omega
      · gi_wp2
        go_end0
        exact ⟨⟨_, rfl⟩, .inr ⟨_, ⟨k + 1, by omega, rfl⟩, hJx3⟩⟩
    · obtain rfl : k = ss.length := by omega
      have hby : (s[p].toNat : Int) = 0 := by
        have hx : p < (qkey ss).size := by rw [HS.out]; exact hps
        have := qkey_byte0 ss HO.out.1 p hx HP.out
        simpa [HS.out] using this
      gi_wp2
      refine ⟨fun f h => (by cases h), ?_⟩
      gi_wp2
      go_end0
      exact ⟨⟨_, rfl⟩, .inl ⟨_, rfl, hJs⟩⟩
theorem tails_stops (F : Fence) (n : Nat) (h59 : F.fn 59) (hro : F.round = none) (hn : 1 ≤ n) (Bs : Nat) (ss : List ByteArray) (hk : nck ss = 0) (w0 : World) (hBs : Boxed w0 Bs 9 (.string (qkey ss))) :
    SeqStopsK F n Try.prog 59 #[.pointer (some ⟨Bs, 0, none⟩)] (fun x : Ix ss.length => #[Value.int .i64 (offs ss x.1 : Nat)]) (KpS Bs) (fun ys => ys = iup ss.length ss.length) (fun pre => ∃ k, k ≤ ss.length ∧ pre = iup ss.length k) ss.length w0 := fun l J Jx W hW _ _ hY h0 =>
  tails1_in F n h59 hro hn l Bs ss hk J Jx hY W ((hW.block Bs hBs.lt).trans hBs) h0
end Go.Proofs.Ytfnpiknobmecbaa
