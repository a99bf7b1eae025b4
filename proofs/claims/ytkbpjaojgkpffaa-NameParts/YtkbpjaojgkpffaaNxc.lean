/- The library's slices.Backward over a name: its contract. -/
import Derived.Test.YtkbpjaojgkpffaaNxa
import Derived.RangeFuncNested
import Derived.RangeFuncBound
import Derived.RangeFuncCalls
import Derived.RangeFuncLeaves
import Derived.RangeFuncBox
import Derived.Shelf.Abstract
import Derived.Shelf.RegionOpen
import Derived.OwnWalkIn
import Derived.TacticsInMore
import Derived.LoopNIn
import Derived.LoopIn
namespace Go.Proofs.Ytkbpjaojgkpffaa
open Go.ChangeShapes Go.WideShapes Go.ChangeAt Go.RowKit Go.Shelf
set_option linter.unusedVariables false
set_option linter.unusedSimpArgs false
attribute [local go_sem] Oper.semAt_some

/-- What the iterator hands out: a place and its label. -/
abbrev Lab := { x : Int × ByteArray // x.2.size ≤ 1000000000000 }
theorem getD_size (l : List ByteArray) (h : ∀ s ∈ l, s.size ≤ 1000000000000) (j : Nat) : (l[j]?.getD ⟨#[]⟩).size ≤ 1000000000000 := by
  by_cases hj : j < l.length
  · rw [List.getElem?_eq_getElem hj]; exact h _ (List.getElem_mem hj)
  · rw [List.getElem?_eq_none (by omega)]; exact Nat.zero_le _
def bk (ss : List ByteArray) (h : ∀ s ∈ ss.reverse, s.size ≤ 1000000000000) (j : Nat) : Lab := ⟨((ss.length : Int) - 1 - j, ss.reverse[j]?.getD ⟨#[]⟩), getD_size _ h j⟩
def bup (ss : List ByteArray) (h : ∀ s ∈ ss.reverse, s.size ≤ 1000000000000) (k : Nat) : List Lab := (List.range k).map (bk ss h)
theorem bup_succ (ss : List ByteArray) (h : ∀ s ∈ ss.reverse, s.size ≤ 1000000000000) (k : Nat) : bup ss h (k + 1) = bup ss h k ++ [bk ss h k] := by simp [bup, List.range_succ]
theorem bup_len (ss : List ByteArray) (h : ∀ s ∈ ss.reverse, s.size ≤ 1000000000000) (k : Nat) : (bup ss h k).length = k := by simp [bup]
def labsOf (l : List Lab) : List ByteArray := l.map (fun x => x.1.2)
theorem labsOf_bup (ss : List ByteArray) (h : ∀ s ∈ ss.reverse, s.size ≤ 1000000000000) (k : Nat) (hk : k ≤ ss.length) : labsOf (bup ss h k) = ss.reverse.take k := by
  apply List.ext_getElem
  · simp [labsOf, bup]; omega
  · intro i h1 h2
    have : i < ss.length := by simp at h2; omega
    simp [labsOf, bup, bk, this]
/-- What a round must keep for the iterator: what lay, and the iterator's own box. -/
def KpB (n₀ Bs : Nat) (A B : World) : Prop := Below n₀ A B ∧ ∀ v, Boxed A Bs 23 v → Boxed B Bs 23 v
theorem kpB_t {n₀ Bs : Nat} {A B C : World} (h : KpB n₀ Bs A B) (k : KpB n₀ Bs B C) : KpB n₀ Bs A C := ⟨h.1.trans k.1, fun v hv => k.2 v (h.2 v hv)⟩
theorem kpB_b {n₀ Bs : Nat} {w : World} (hn : n₀ ≤ w.heap.size) (W : World) (l : Nat) (o o' : Obj) (hl : w.heap.size ≤ l) (h : W.heap[l]? = some o) (hc : o.isCells = false) (hw : o.isWalk = false) : KpB n₀ Bs W (W.putObj l o') :=
  ⟨belowK_b hn W l o o' hl h hc hw, fun v hv => hv.kept (grownBy_putObj' W l o') (fun e => by cases e; rw [show W.heap[Bs]? = _ from hv] at h; cases h; cases hc)⟩

set_option maxRecDepth 100000 in
theorem back_any (a : Option Addr) (len cap : Nat) (w : World) : Calls Try.prog 59 #[.slice a len cap] w fun e w' => e = .returned (.func (.func 83) #[] #[.pointer (some ⟨w.heap.size, 0, none⟩)]) ∧ w' = w.alloc (.cells #[.slice a len cap] 23) := by
  go_enter Try.func59, Try.ntmps59
  go_wp2
  go_ret
  exact ⟨rfl, rfl⟩

set_option maxRecDepth 100000 in
set_option maxHeartbeats 2000000 in
theorem back1_in (F : Fence) (n : Nat) (h83 : F.fn 83) (hro : F.round = none) (hn : 1 ≤ n) (l Bs n₀ : Nat) (a : Option Addr) (len cap : Nat) (ss : List ByteArray) (hs : ∀ s ∈ ss.reverse, s.size ≤ 1000000000000) (hlen : ss.length = len) (hl63 : len ≤ 1000000000000) (w : World) (hw0 : n₀ = w.heap.size) (hR : RdT w a ss) (J Jx : List Lab → World → Prop)
    (hY : ∀ pre x W, J pre W → pre.length < len → YieldAt F (n - 1) Try.prog l #[.int .i64 x.1.1, .string x.1.2] W fun e W' =>
      (e = .returned (.bool true) ∧ J (pre ++ [x]) W' ∧ KpB n₀ Bs W W') ∨ (e = .returned (.bool false) ∧ Jx (pre ++ [x]) W'))
    (W : World) (hWb : Below n₀ w W) (hBs : Boxed W Bs 23 (.slice a len cap)) (h0 : J [] W) :
    CallsIn F n Try.prog 83 #[.func (.yield l) #[] #[], .pointer (some ⟨Bs, 0, none⟩)] W fun e W' => (∃ v, e = .returned v) ∧
      ((∃ ys, ys = bup ss hs len ∧ J ys W') ∨ (∃ pre, (∃ k, k ≤ len ∧ pre = bup ss hs k) ∧ Jx pre W')) := by
  have hc0 := hBs.cell
  have HR : Hid (RdT w a ss) := hR
  clear hR
  refine callsIn_of_wp Try.func83 rfl h83 ?_ hro
  simp only [Try.ntmps83, List.size_toArray, List.length_cons, List.length_nil, Nat.reduceAdd, Nat.reduceSub, Array.replicate_succ, Array.replicate_zero, List.push_toArray, List.append_toArray, List.nil_append, List.cons_append]
  gi_wp2
  gi_loopw [3] (fun i wr => ∃ (k : Nat) (d : Int), k ≤ len ∧ Hid (d = (len : Int) - 1 - (k : Int)) ∧ i = .int .i64 d ∧ J (bup ss hs k) wr ∧ KpB n₀ Bs W wr)
    (fun i _ => (intOf i + 1).toNat)
  case atStart => exact ⟨0, (len : Int) - 1, Nat.zero_le _, (show _ = _ by simp), by go_num, h0, Below.refl _ _, fun _ h => h⟩
  case round =>
    obtain ⟨k, d, hk, HD, rfl, hJs, hnx⟩ := hrel
    have hd := HD.out
    by_cases hlt : k < len
    · obtain ⟨j, rfl⟩ : ∃ j : Nat, d = (j : Int) := ⟨d.toNat, by omega⟩
      have hj : j < ss.length := by omega
      have hjn : (j : Int) < (len : Int) := by omega
      have hj0 : (0 : Int) ≤ (j : Int) := by omega
      have e : bk ss hs k = ⟨((j : Int), ss[j]), hs _ (by simp)⟩ := by
        apply Subtype.ext
        have hrev : ss.reverse[k]?.getD ⟨#[]⟩ = ss[j] := by
          rw [List.getElem?_eq_getElem (by simp; omega)]
          simp only [Option.getD_some, List.getElem_reverse]
          congr 1
          omega
        simp only [bk, hrev]
        congr 1
        omega
      obtain ⟨b, o, rfl, hb, hc'⟩ := (HR.out.below (by rw [← hw0]; exact hWb.trans hnx.1)).at j hj
      have hcB := (hnx.2 _ hBs).cell
      have hup' := bup_succ ss hs k
      rw [e] at hup'
      have hex : ∃ s, ∃ hsz : s.size ≤ 1000000000000, bup ss hs (k + 1) = bup ss hs k ++ [(⟨((j : Int), s), hsz⟩ : Lab)] ∧ wr.cell? ⟨b, o + j, none⟩ = some (.string s) := ⟨ss[j], hs _ (by simp), hup', hc'⟩
      clear e hup' hc'
      obtain ⟨s, hsz, hup, hc⟩ := hex
      obtain ⟨fn, tmps, assign, body, hy, hRd⟩ := hY _ ⟨((j : Int), s), hsz⟩ wr hJs (by rw [bup_len]; exact hlt)
      dsimp only at hy
      clear hd
      gi_wp2
      refine hRd.mono ?_
      rintro e W3 (⟨rfl, hJ3, hk3⟩ | ⟨rfl, hJx3⟩)
      · gi_wp2
        go_roundw
        case rel => exact ⟨k + 1, (j : Int) - 1, by omega, (show _ = _ by have := HD.out; omega), by go_num, by rw [hup]; exact hJ3, kpB_t hnx hk3⟩
        case measure => simp [intOf]
      · gi_wp2
        refine bodyPost_ret (results_none rfl _ _ _) rfl ?_
        exact ⟨⟨_, rfl⟩, .inr ⟨_, ⟨k + 1, by omega, hup.symm⟩, hJx3⟩⟩
    · obtain rfl : k = len := by omega
      obtain rfl : d = -1 := by omega
      gi_wp2
      go_end0
      exact ⟨⟨_, rfl⟩, .inl ⟨_, rfl, hJs⟩⟩
theorem back_stops (F : Fence) (n : Nat) (h83 : F.fn 83) (hro : F.round = none) (hn : 1 ≤ n) (Bs : Nat) (a : Option Addr) (len cap : Nat) (ss : List ByteArray) (hs : ∀ s ∈ ss.reverse, s.size ≤ 1000000000000) (hlen : ss.length = len) (hl63 : len ≤ 1000000000000) (w w0 : World) (hR : RdT w a ss) (hw : Below w.heap.size w w0) (hBs : Boxed w0 Bs 23 (.slice a len cap)) :
    SeqStopsK F n Try.prog 83 #[.pointer (some ⟨Bs, 0, none⟩)] (fun x : Lab => #[Value.int .i64 x.1.1, .string x.1.2]) (KpB w.heap.size Bs) (fun ys => ys = bup ss hs len) (fun pre => ∃ k, k ≤ len ∧ pre = bup ss hs k) len w0 := fun l J Jx W hW _ _ hY h0 =>
  back1_in F n h83 hro hn l Bs w.heap.size a len cap ss hs hlen hl63 w rfl hR J Jx hY W (hw.trans (hW.mono hw.size)) ((hW.block Bs hBs.lt).trans hBs) h0
end Go.Proofs.Ytkbpjaojgkpffaa
