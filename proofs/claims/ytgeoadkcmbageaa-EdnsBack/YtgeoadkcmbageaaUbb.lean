/- Texts laid together, in parts: Occ Ocd Hh Hi Ra Ga Gd Hj Hk Hl Hm Hp Hn Hq Nxb Ia Tk Hw Rk Ee Vr Vs Vp Vb Vc Vd Ve Vw Xc Xd Ef Eg. -/
import Derived.Test.YtgeoadkcmbageaaUba
import Derived.Deep.RegionLaw
import Derived.Deep.QuietTactic
import Derived.BigQuiet
import Derived.Deep.CutBlock
import Derived.WalkSpells
import Derived.Lib.Hide
import Derived.WalkSmall
import Derived.BigRegion
import Derived.Laws.BitsAllLaws
import Derived.WalkKit
import Derived.Deep.RegionHeld3
set_option maxRecDepth 100000
namespace Go.Proofs.Ytgeoadkcmbageaa
open Go.ChangeShapes Go.WideShapes Go.ChangeAt Go.RowKit
set_option linter.unusedVariables false
set_option linter.unusedSimpArgs false
attribute [local go_sem] view0 view1 view2 view3 slice_is_nil
theorem new_below (w : World) (o : Obj) : Below w.heap.size w (w.alloc o) := (Below.refl _ _).alloc (Nat.le_refl _) _
attribute [local go_sem] view0 view1 view2 view3
/-- A reader's state: its place, or none where it is bad. -/
def RSt (w : World) (g : Nat) (a : Option Addr) (len cap : Nat) : Option Nat → Prop
  | some k => RBlk w g (.slice a len cap) k false ∧ k ≤ len
  | none => RBlk w g (.slice none 0 0) 0 true
/-- What becomes of the state by going on over n bytes, by going to a place; the bytes that are gone over. -/
def mv (len : Nat) (st : Option Nat) (n : Int) : Option Nat := match st with
  | some k => if 0 ≤ n ∧ k + n ≤ len then some (k + n.toNat) else none
  | none => none
def tk (zs : List Int) (st : Option Nat) (n : Int) : List Int := match st with
  | some k => if 0 ≤ n ∧ k + n ≤ zs.length then (zs.drop k).take n.toNat else []
  | none => []
def pos : Option Nat → Int
  | some k => k
  | none => 0
def lft (len : Nat) : Option Nat → Int
  | some k => (len : Int) - (k : Int)
  | none => 0
theorem mv_zero (len : Nat) (st : Option Nat) (h : ∀ k, st = some k → k ≤ len) : mv len st 0 = st := by
  cases st with
  | none => rfl
  | some k => have := h k rfl; simp [mv]; omega
theorem tk_len (zs : List Int) (st : Option Nat) (n : Nat) : (tk zs st n).length ≤ n := by
  unfold tk
  split
  · split
    · simp; omega
    · simp
  · simp
theorem tk_bytes (zs : List Int) (st : Option Nat) (n : Int) (h : ∀ z ∈ zs, 0 ≤ z ∧ z ≤ 255) : ∀ z ∈ tk zs st n, 0 ≤ z ∧ z ≤ 255 := by
  unfold tk
  split
  · split
    · intro z hz; exact h z (List.mem_of_mem_drop (List.mem_of_mem_take hz))
    · simp
  · simp
theorem RSt.le {w : World} {g : Nat} {a : Option Addr} {len cap : Nat} {st : Option Nat} (h : RSt w g a len cap st) : ∀ k, st = some k → k ≤ len := by
  rintro k rfl; exact h.2
theorem RSt.lt {w : World} {g : Nat} {a : Option Addr} {len cap : Nat} {st : Option Nat} (h : RSt w g a len cap st) : g < w.heap.size := by
  cases st with
  | none => exact RBlk.lt h
  | some k => exact RBlk.lt h.1
theorem RSt.same {w w' : World} {g : Nat} {a : Option Addr} {len cap : Nat} {st : Option Nat} (h : RSt w g a len cap st) (hb : w'.heap[g]? = w.heap[g]?) : RSt w' g a len cap st := by
  cases st with
  | none => exact RBlk.same h hb
  | some k => exact ⟨RBlk.same h.1 hb, h.2⟩
theorem below_grown {w w' : World} {row : Option Nat} (h : Below w.heap.size w w') : w.grownBy w' row := ⟨h.os, h.tape, h.output, h.size, fun k hk _ => h.block k hk⟩
theorem move_any (g : Nat) (a : Option Addr) (len cap : Nat) (zs : List Int) (st st' : Option Nat) (n : Int) (c : Nat) (w : World) (hs : RSt w g a len cap st) (hr : Rd w a zs) (hl : zs.length = len) (hc : len ≤ cap) (hm : len ≤ 140737488355328) (hd : a = none → cap = 0) (ho : Off a g)
    (hst : mv len st n = st') (htk : (tk zs st n).length = c) :
    Calls Try.prog 76 #[.pointer (some ⟨g, 0, none⟩), .int .u8 0, .int .i64 n] w fun e w' => ∃ ov oc, e = .returned (.agg #[.slice ov c oc, .int .i64 (pos st'), .int .i64 (lft len st'), .bool st'.isNone]) ∧
      Hid (Rd w' ov (tk zs st n) ∧ (ov = none → oc = 0) ∧ RSt w' g a len cap st' ∧ w.grownBy w' (some g)) := by
  subst hst; subst htk
  cases st with
  | none =>
    refine (move_isbad g 0 n _ _ w hs).mono ?_
    rintro e w' ⟨rfl, hb⟩
    exact ⟨none, 0, rfl, ⟨.inl rfl, by simp [tk]⟩, fun _ => rfl, RSt.same (st := none) hs (hb.block g (RBlk.lt hs)), below_grown hb⟩
  | some k =>
    by_cases h : 0 ≤ n ∧ k + n ≤ len
    · obtain ⟨m, rfl⟩ := Int.eq_ofNat_of_zero_le h.1
      have hkm : k + m ≤ len := by omega
      have e1 : mv len (some k) m = some (k + m) := by simp only [mv]; rw [if_pos h]; rfl
      have e2 : tk zs (some k) m = (zs.drop k).take m := by simp only [tk]; rw [if_pos (by rw [hl]; exact h)]; rfl
      have e3 : ((zs.drop k).take m).length = m := by simp; omega
      rw [e1, e2, e3]
      refine (move_here g a len cap k m zs w hs.1 hr hl hc hm hkm ho).mono ?_
      rintro e w' ⟨ov, rfl, H⟩
      obtain ⟨h1, h2, h3, h4⟩ := H.out
      refine ⟨ov, cap - k, by simp [pos, lft], h1, fun e => by rw [hd (h2 e)]; omega, ⟨by simpa using h3, hkm⟩, h4⟩
    · have e1 : mv len (some k) n = none := by simp only [mv]; rw [if_neg h]
      have e2 : tk zs (some k) n = [] := by simp only [tk]; rw [if_neg (by rw [hl]; exact h)]
      rw [e1, e2]
      have hkl := hs.2
      refine (move_here_out g a len cap k n w hs.1 hc hm ⟨by omega, by omega⟩ (by omega)).mono ?_
      rintro e w' ⟨rfl, H⟩
      exact ⟨none, 0, rfl, ⟨.inl rfl, by simp⟩, fun _ => rfl, H.out.1, H.out.2⟩
theorem rtake_any (g : Nat) (a : Option Addr) (len cap : Nat) (zs : List Int) (st : Option Nat) (n : Int) (w : World) (hs : RSt w g a len cap st) (hr : Rd w a zs) (hl : zs.length = len) (hc : len ≤ cap) (hm : len ≤ 140737488355328) (hd : a = none → cap = 0) (ho : Off a g) :
    Calls Try.prog 66 #[.pointer (some ⟨g, 0, none⟩), .int .i64 n] w fun e w' => ∃ v ys, e = .returned v ∧ Hid (Own w.heap.size w' v (tk zs st n).length ys ∧ ys.take (tk zs st n).length = tk zs st n ∧ RSt w' g a len cap (mv len st n) ∧ w.grownBy w' (some g)) := by
  have H0 : Hid (RSt w g a len cap st ∧ Rd w a zs ∧ zs.length = len ∧ (a = none → cap = 0) ∧ Off a g) := ⟨hs, hr, hl, hd, ho⟩
  clear hs hr hl hd ho
  obtain ⟨st', hst⟩ : ∃ x, mv len st n = x := ⟨_, rfl⟩
  obtain ⟨c, htk⟩ : ∃ x, (tk zs st n).length = x := ⟨_, rfl⟩
  have HT : Hid (mv len st n = st' ∧ (tk zs st n).length = c) := ⟨hst, htk⟩
  have hcl : c ≤ len := by
    have h1 := H0.out.2.2.1
    rw [← htk]; unfold tk
    split
    · split
      · simp; omega
      · simp
    · simp
  clear hst htk
  rw [HT.out.1, HT.out.2]
  go_enter Try.func66, Try.ntmps66
  go_wp2_with fail
  refine (move_any g a len cap zs st st' n c _ H0.out.1 H0.out.2.1 H0.out.2.2.1 hc hm H0.out.2.2.2.1 H0.out.2.2.2.2 HT.out.1 HT.out.2).mono ?_
  rintro e w1 ⟨ov, oc, rfl, H1⟩
  cases ov with
  | none =>
    have ec : c = 0 := by
      rw [← HT.out.2]
      rcases H1.out.1.1 with h | ⟨b, o, h, _⟩
      · rw [h]; rfl
      · cases h
    have eo : oc = 0 := H1.out.2.1 rfl
    subst ec; subst eo
    go_wp2_with fail
    refine (clone_none _).mono ?_
    rintro e w2 ⟨rfl, rfl⟩
    go_wp2
    go_ret
    have et : tk zs st n = [] := List.eq_nil_of_length_eq_zero HT.out.2
    exact ⟨_, [], rfl, .inl ⟨rfl, rfl, rfl⟩, by rw [et]; rfl, H1.out.2.2.1, H1.out.2.2.2⟩
  | some x =>
    have HX : Hid (Calls Try.prog 75 #[.slice (some x) c oc] w1 fun e w' => ∃ v ys, e = .returned v ∧ Hid (Own w1.heap.size w' v c ys ∧ ys.take c = tk zs st n ∧ Below w1.heap.size w1 w')) := by
      have := clone_any x oc (tk zs st n) w1 H1.out.1 (by rw [HT.out.2]; omega)
      rw [HT.out.2] at this
      exact this
    go_wp2_with fail
    refine HX.out.mono ?_
    rintro e w2 ⟨v, ys, rfl, H2⟩
    go_wp2
    go_ret
    obtain ⟨p1, p2, p3⟩ := H2.out
    have hgs := H1.out.2.2.1.lt
    have hsz := H1.out.2.2.2.size
    refine ⟨v, ys, rfl, ?_, p2, H1.out.2.2.1.same (p3.block g hgs), ?_⟩
    · rcases p1 with h | ⟨g', h1, h2, h3⟩
      · exact .inl h
      · exact .inr ⟨g', h1, by omega, h3⟩
    · have hg := H1.out.2.2.2
      exact ⟨p3.os.trans hg.os, p3.tape.trans hg.tape, p3.output.trans hg.output, Nat.le_trans hg.size p3.size, fun j hj hne => (p3.block j (by omega)).trans (hg.block j hj hne)⟩
theorem rbad_any (g : Nat) (a : Option Addr) (len cap : Nat) (zs : List Int) (st : Option Nat) (w : World) (hs : RSt w g a len cap st) (hr : Rd w a zs) (hl : zs.length = len) (hc : len ≤ cap) (hm : len ≤ 140737488355328) (hd : a = none → cap = 0) (ho : Off a g) :
    Calls Try.prog 67 #[.pointer (some ⟨g, 0, none⟩)] w fun e w' => e = .returned (.bool st.isNone) ∧ Hid (RSt w' g a len cap st ∧ w.grownBy w' (some g)) := by
  have H0 : Hid (RSt w g a len cap st ∧ Rd w a zs ∧ zs.length = len ∧ (a = none → cap = 0) ∧ Off a g) := ⟨hs, hr, hl, hd, ho⟩
  clear hs hr hl hd ho
  go_enter Try.func67, Try.ntmps67
  go_wp2_with fail
  refine (move_any g a len cap zs st st 0 _ _ H0.out.1 H0.out.2.1 H0.out.2.2.1 hc hm H0.out.2.2.2.1 H0.out.2.2.2.2 (mv_zero len st H0.out.1.le) rfl).mono ?_
  rintro e w1 ⟨ov, oc, rfl, H1⟩
  go_wp2
  go_ret
  exact ⟨rfl, H1.out.2.2.1, H1.out.2.2.2⟩
set_option maxRecDepth 100000 in
set_option maxHeartbeats 400000 in
theorem new_any (x : Addr) (cap : Nat) (zs : List Int) (w : World) (hr : Rd w (some x) zs) (hm : zs.length ≤ 140737488355328) :
    Calls Try.prog 63 #[.slice (some x) zs.length cap] w fun e w' => ∃ gr a' ca, e = .returned (.pointer (some ⟨gr, 0, none⟩)) ∧ Hid (w.heap.size ≤ gr ∧ RBlk w' gr (.slice a' zs.length ca) 0 false ∧ Rd w' a' zs ∧ zs.length ≤ ca ∧ (a' = none → ca = 0) ∧ Off a' gr ∧ (∀ y o, a' = some ⟨y, o, none⟩ → w.heap.size ≤ y ∧ y < w'.heap.size) ∧ Below w.heap.size w w') := by
  have HX : Hid (Calls Try.prog 75 #[.slice (some x) zs.length cap] w fun e w' => ∃ v ys, e = .returned v ∧ Hid (Own w.heap.size w' v zs.length ys ∧ ys.take zs.length = zs ∧ Below w.heap.size w w')) := clone_any x cap zs w hr hm
  clear hr hm
  generalize hl : zs.length = len at *
  have HL : Hid (zs.length = len) := hl
  clear hl
  go_enter Try.func63, Try.ntmps63
  go_wp2_with fail
  refine HX.out.mono ?_
  rintro e w1 ⟨v, ys, rfl, H1⟩
  obtain ⟨a', rfl, hoa⟩ := H1.out.1.addr
  have HO : Hid (OwnA w.heap.size w1 a' len ys ∧ ys.take len = zs ∧ Below w.heap.size w w1) := ⟨hoa, H1.out.2.1, H1.out.2.2⟩
  clear hoa H1
  generalize hy : ys.length = yl
  have HY : Hid (ys.length = yl) := hy
  clear hy
  go_wp2
  go_ret
  obtain ⟨q1, q2, q3⟩ := HO.out
  have hnb := new_below w1 (.cells #[.pointer (some ⟨w1.heap.size, 0, none⟩), .slice a' len yl, .int .i64 0, .bool false] 116)
  have hrd := q1.rdTake len
  rw [q2] at hrd
  refine ⟨w1.heap.size, a', yl, rfl, q3.size, heap_alloc_new _ _, hrd.below hnb, ?_, ?_, ?_, ?_, q3.trans (hnb.mono q3.size)⟩
  · have := q1.le.1; rw [HY.out] at this; exact this
  · intro e; have := q1.nil e; rw [HY.out] at this; exact this
  · rintro y o rfl
    have := (q1.lt y rfl).2
    omega
  · rintro y o rfl
    have h1 := (q1.lt y rfl)
    have h2 := hnb.size
    exact ⟨h1.1, by omega⟩
end Go.Proofs.Ytgeoadkcmbageaa
namespace Go.Proofs.Ytgeoadkcmbageaa
open Go.ChangeShapes Go.WideShapes Go.ChangeAt Go.RowKit
set_option linter.unusedVariables false
set_option linter.unusedSimpArgs false
attribute [local go_sem] view0 view1 view2 view3
def jm (len : Nat) (st : Option Nat) (n : Int) : Option Nat := match st with
  | some _ => if 0 ≤ n ∧ n ≤ len then some n.toNat else none
  | none => none
theorem ru16_any (g : Nat) (a : Option Addr) (len cap : Nat) (zs : List Int) (st : Option Nat) (w : World) (hs : RSt w g a len cap st) (hr : Rd w a zs) (hl : zs.length = len) (hc : len ≤ cap) (hm : len ≤ 140737488355328) (hd : a = none → cap = 0) (ho : Off a g) :
    Calls Try.prog 65 #[.pointer (some ⟨g, 0, none⟩)] w fun e w' => e = .returned (.int .i64 (val (tk zs st 2))) ∧ Hid (RSt w' g a len cap (mv len st 2) ∧ w.grownBy w' (some g)) := by
  have H0 : Hid (RSt w g a len cap st ∧ Rd w a zs ∧ zs.length = len ∧ (a = none → cap = 0) ∧ Off a g) := ⟨hs, hr, hl, hd, ho⟩
  clear hs hr hl hd ho
  obtain ⟨st', hst⟩ : ∃ x, mv len st 2 = x := ⟨_, rfl⟩
  obtain ⟨c, htk⟩ : ∃ x, (tk zs st 2).length = x := ⟨_, rfl⟩
  have hc4 : c ≤ 2 := by have : (tk zs st (2 : Int)).length ≤ 2 := tk_len zs st 2; omega
  have hv := val_small4 (tk zs st 2) (tk_bytes zs st 2 H0.out.2.1.2) (by omega)
  have HT : Hid (mv len st 2 = st' ∧ (tk zs st 2).length = c) := ⟨hst, htk⟩
  clear hst htk
  rw [HT.out.1]
  go_enter Try.func65, Try.ntmps65
  go_wp2_with fail
  refine (move_any g a len cap zs st st' 2 c _ H0.out.1 H0.out.2.1 H0.out.2.2.1 hc hm H0.out.2.2.2.1 H0.out.2.2.2.2 HT.out.1 HT.out.2).mono ?_
  rintro e w1 ⟨ov, oc, rfl, H1⟩
  go_wp2_with fail
  refine (number_any ov c oc (tk zs st 2) _ H1.out.1 HT.out.2 (by omega)).mono ?_
  rintro e w2 ⟨rfl, rfl⟩
  go_wp2
  go_ret
  exact ⟨by simp, H1.out.2.2.1, H1.out.2.2.2⟩
theorem rleft_any (g : Nat) (a : Option Addr) (len cap : Nat) (zs : List Int) (st : Option Nat) (w : World) (hs : RSt w g a len cap st) (hr : Rd w a zs) (hl : zs.length = len) (hc : len ≤ cap) (hm : len ≤ 140737488355328) (hd : a = none → cap = 0) (ho : Off a g) :
    Calls Try.prog 64 #[.pointer (some ⟨g, 0, none⟩)] w fun e w' => e = .returned (.int .i64 (lft len st)) ∧ Hid (RSt w' g a len cap st ∧ w.grownBy w' (some g)) := by
  have H0 : Hid (RSt w g a len cap st ∧ Rd w a zs ∧ zs.length = len ∧ (a = none → cap = 0) ∧ Off a g) := ⟨hs, hr, hl, hd, ho⟩
  clear hs hr hl hd ho
  go_enter Try.func64, Try.ntmps64
  go_wp2_with fail
  refine (move_any g a len cap zs st st 0 _ _ H0.out.1 H0.out.2.1 H0.out.2.2.1 hc hm H0.out.2.2.2.1 H0.out.2.2.2.2 (mv_zero len st H0.out.1.le) rfl).mono ?_
  rintro e w1 ⟨ov, oc, rfl, H1⟩
  go_wp2
  go_ret
  exact ⟨rfl, H1.out.2.2.1, H1.out.2.2.2⟩
set_option maxRecDepth 100000 in
set_option maxHeartbeats 400000 in
theorem new_none (w : World) :
    Calls Try.prog 63 #[.slice none 0 0] w fun e w' => ∃ gr a' ca, e = .returned (.pointer (some ⟨gr, 0, none⟩)) ∧ Hid (w.heap.size ≤ gr ∧ RBlk w' gr (.slice a' 0 ca) 0 false ∧ Rd w' a' [] ∧ 0 ≤ ca ∧ (a' = none → ca = 0) ∧ Off a' gr ∧ (∀ y o, a' = some ⟨y, o, none⟩ → w.heap.size ≤ y ∧ y < w'.heap.size) ∧ Below w.heap.size w w') := by
  go_enter Try.func63, Try.ntmps63
  go_wp2_with fail
  refine (clone_none _).mono ?_
  rintro e w1 ⟨rfl, rfl⟩
  go_wp2
  go_ret
  have hnb := new_below w1 (.cells #[.pointer (some ⟨w1.heap.size, 0, none⟩), .slice none 0 0, .int .i64 0, .bool false] 116)
  exact ⟨w1.heap.size, none, 0, rfl, Nat.le_refl _, heap_alloc_new _ _, ⟨.inl rfl, by simp⟩, Nat.le_refl _, fun _ => rfl, (by rintro _ _ ⟨⟩), (by rintro _ _ ⟨⟩), hnb⟩
end Go.Proofs.Ytgeoadkcmbageaa
namespace Go.Proofs.Ytgeoadkcmbageaa
open Go.ChangeShapes Go.WideShapes Go.ChangeAt Go.RowKit
set_option linter.unusedVariables false
set_option linter.unusedSimpArgs false
/-- Texts written: the first k with their lengths. -/
def ptB (k : Nat) (l : List ByteArray) : List Int := nby (l.take k) ++ (l.drop k).flatMap nums
end Go.Proofs.Ytgeoadkcmbageaa
namespace Go.Proofs.Ytgeoadkcmbageaa
open Go.ChangeShapes Go.WideShapes Go.ChangeAt Go.RowKit
set_option linter.unusedVariables false
set_option linter.unusedSimpArgs false
/-- Bytes of one's own. -/
def WPost (L : List Int) (w : World) (e : Ending) (w' : World) : Prop := ∃ (s : Sl), e = .returned (.slice s.a s.n s.c) ∧ Hid (s.n = L.length ∧ Rd w' s.a L ∧ s.n ≤ s.c ∧ s.c ≤ 9223372036854775807 ∧ (s.a = none → s.c = 0) ∧ Below w.heap.size w w')
theorem Gr.post {w W3 w' : World} {v : Value} {m : Nat} {L : List Int} (h : Gr W3 w' v m L) (hb : Below w.heap.size w W3) : WPost L w (.returned v) w' := by
  obtain ⟨ys, h1, h2, h3, h4⟩ := h
  obtain ⟨ao, rfl, hoa⟩ := h1.addr
  have hrd := hoa.rdTake m
  rw [h2] at hrd
  have hle := hoa.le
  refine ⟨⟨ao, m, ys.length⟩, rfl, h3.symm, hrd, hle.1, by have := hle.2; simp only [maxLen] at this; exact this, fun e => hoa.nil e, hb.trans (h4.mono hb.size)⟩
theorem NRd.front {w : World} {s : Sl} {nss : List (List ByteArray)} (h : NRd w s nss) (k : Nat) (hk : k ≤ s.n) : NRd w ⟨s.a, k, s.c⟩ (nss.take k) := by
  refine ⟨?_, by rw [List.length_take, h.len]; exact Nat.min_eq_left hk, ⟨Nat.le_trans hk h.cap.1, h.cap.2⟩, h.nil⟩
  rcases h.rd with h1 | ⟨b, o, h1, h2, h3⟩
  · left; rw [h1]; simp
  · refine .inr ⟨b, o, h1, h2, fun i hi => ?_⟩
    rw [List.length_take] at hi
    obtain ⟨x, e1, e2⟩ := h3 i (by omega)
    exact ⟨x, e1, by simpa using e2⟩
end Go.Proofs.Ytgeoadkcmbageaa
namespace Go.Proofs.Ytgeoadkcmbageaa
open Go.ChangeShapes Go.WideShapes Go.ChangeAt Go.RowKit
set_option linter.unusedVariables false
set_option linter.unusedSimpArgs false
theorem Own.keep {B : Nat} {w w' : World} {v : Value} {n : Nat} {zs : List Int} (h : Own B w v n zs) (hb : ∀ g, B ≤ g → w'.heap[g]? = w.heap[g]?) : Own B w' v n zs := by
  rcases h with h | ⟨g, h1, h2, h3, h4⟩
  · exact .inl h
  · exact .inr ⟨g, h1, h2, h3.same (hb g h2), h4⟩
theorem Own.mono {B B' : Nat} {w : World} {v : Value} {n : Nat} {zs : List Int} (h : Own B w v n zs) (hb : B' ≤ B) : Own B' w v n zs := by
  rcases h with h | ⟨g, h1, h2, h3⟩
  · exact .inl h
  · exact .inr ⟨g, h1, by omega, h3⟩
end Go.Proofs.Ytgeoadkcmbageaa
namespace Go.Proofs.Ytgeoadkcmbageaa
open Go.ChangeShapes Go.WideShapes Go.ChangeAt Go.RowKit
set_option linter.unusedVariables false
set_option linter.unusedSimpArgs false
/-- What stays of the world Wb: all but the blocks g and D. -/
structure Kp (g D : Nat) (Wb W : World) : Prop where
  os : W.os = Wb.os
  tape : W.tape = Wb.tape
  output : W.output = Wb.output
  size : Wb.heap.size ≤ W.heap.size
  block : ∀ j, j < Wb.heap.size → j ≠ g → j ≠ D → W.heap[j]? = Wb.heap[j]?
theorem Kp.refl (g D : Nat) (W : World) : Kp g D W W := ⟨rfl, rfl, rfl, Nat.le_refl _, fun _ _ _ _ => rfl⟩
theorem Kp.go {g D : Nat} {Wb W W' : World} (h : Kp g D Wb W) (hb : Below W.heap.size W W') : Kp g D Wb W' :=
  ⟨hb.os.trans h.os, hb.tape.trans h.tape, hb.output.trans h.output, Nat.le_trans h.size hb.size, fun j hj h1 h2 => (hb.block j (Nat.lt_of_lt_of_le hj h.size)).trans (h.block j hj h1 h2)⟩
theorem Kp.own {g D : Nat} {Wb W W' : World} {o : Option Nat} (h : Kp g D Wb W) (hg : W.grownBy W' o) (ho : ∀ j, o = some j → Wb.heap.size ≤ j) : Kp g D Wb W' :=
  ⟨hg.os.trans h.os, hg.tape.trans h.tape, hg.output.trans h.output, Nat.le_trans h.size hg.size, fun j hj h1 h2 => (hg.block j (Nat.lt_of_lt_of_le hj h.size) (fun e => by have := ho j e.symm; omega)).trans (h.block j hj h1 h2)⟩
theorem Kp.rd {g D : Nat} {Wb W W' : World} (h : Kp g D Wb W) (hg : W.grownBy W' (some g)) : Kp g D Wb W' :=
  ⟨hg.os.trans h.os, hg.tape.trans h.tape, hg.output.trans h.output, Nat.le_trans h.size hg.size, fun j hj h1 h2 => (hg.block j (Nat.lt_of_lt_of_le hj h.size) (fun e => h1 (Option.some.inj e))).trans (h.block j hj h1 h2)⟩
theorem Kp.set {g D : Nat} {Wb W : World} (h : Kp g D Wb W) (i : Nat) (v : Value) : Kp g D Wb (W.setCell ⟨D, i, none⟩ v) :=
  ⟨h.os, h.tape, h.output, by simp [World.setCell]; exact h.size, fun j hj h1 h2 => (Below.heap_setCell _ _ _ j h2).trans (h.block j hj h1 h2)⟩
theorem Kp.below {g D : Nat} {w Wb W : World} {B : Nat} (h : Kp g D Wb W) (hb : Below B w Wb) (hB : B ≤ Wb.heap.size) (h1 : B ≤ g) (h2 : B ≤ D) : Below B w W :=
  ⟨h.os.trans hb.os, h.tape.trans hb.tape, h.output.trans hb.output, Nat.le_trans hb.size h.size, fun j hj => (h.block j (by omega) (by omega) (by omega)).trans (hb.block j hj)⟩
theorem Kp.trans {g D : Nat} {Wa Wb W : World} (h : Kp g D Wa Wb) (h' : Kp g D Wb W) : Kp g D Wa W :=
  ⟨h'.os.trans h.os, h'.tape.trans h.tape, h'.output.trans h.output, Nat.le_trans h.size h'.size, fun j hj h1 h2 => (h'.block j (Nat.lt_of_lt_of_le hj h.size) h1 h2).trans (h.block j hj h1 h2)⟩
theorem RdV.of_blocks {w w' : World} {a : Option Addr} {xs : List Value} (h : RdV w a xs) (hs : w.heap.size ≤ w'.heap.size) (hb : ∀ b o, a = some ⟨b, o, none⟩ → w'.heap[b]? = w.heap[b]?) : RdV w' a xs := by
  rcases h with h | ⟨b, o, h1, h2, h3⟩
  · exact .inl h
  · refine .inr ⟨b, o, h1, Nat.lt_of_lt_of_le h2 hs, fun i hi => ?_⟩
    rw [← h3 i hi]
    exact World.cell?_of_block (hb b o h1)
theorem TRd.of_blocks {w w' : World} {s : Sl} {ss : List ByteArray} (h : TRd w s ss) (hs : w.heap.size ≤ w'.heap.size) (hb : ∀ b o, s.a = some ⟨b, o, none⟩ → w'.heap[b]? = w.heap[b]?) : TRd w' s ss :=
  ⟨RdV.of_blocks h.rd hs hb, h.len, h.cap, h.nil, h.z63⟩
/-- Data's box. -/
def DBlk (w : World) (D : Nat) (x : DA) : Prop := w.heap[D]? = some (.cells #[.slice x.p1.a x.p1.n x.p1.c, .slice x.p2.a x.p2.n x.p2.c, .slice x.p3.a x.p3.n x.p3.c, .slice x.p4.a x.p4.n x.p4.c] 35 (0, 0))
theorem DBlk.lt {w : World} {D : Nat} {x : DA} (h : DBlk w D x) : D < w.heap.size := (Array.getElem?_eq_some_iff.1 h).1
theorem DBlk.same {w w' : World} {D : Nat} {x : DA} (h : DBlk w D x) (hb : w'.heap[D]? = w.heap[D]?) : DBlk w' D x := hb.trans h
theorem DBlk.box {w : World} {D : Nat} {x : DA} (h : DBlk w D x) : DBox w D x := by
  have h' : w.heap[D]? = _ := h
  refine ⟨?_, ?_, ?_, ?_, h.lt⟩ <;> simp [World.cell?, h']
theorem DBlk.fz {w : World} {D : Nat} {x : DA} (h : DBlk w D x) (i : Nat) : w.frozen? ⟨D, i, none⟩ = false := by
  have h' : w.heap[D]? = _ := h
  simp [World.frozen?, h']
theorem DBlk.set3 {w : World} {D : Nat} {x : DA} (h : DBlk w D x) (s : Sl) : DBlk (w.setCell ⟨D, 3, none⟩ (.slice s.a s.n s.c)) D ⟨x.p1, x.p2, x.p3, s⟩ := (heap_set h 3 _).trans (by simp)
/-- A name of one's own. -/
def Own1 (B : Nat) (w : World) (s : Sl) (nm : List ByteArray) : Prop := ∃ ys, OwnT B w (.slice s.a s.n s.c) nm.length ys 1000000000000 ∧ ys.take nm.length = nm
theorem Own1.keep {B : Nat} {w w' : World} {s : Sl} {nm : List ByteArray} (h : Own1 B w s nm) (hb : ∀ j, B ≤ j → j < w.heap.size → (∃ zs, BlkV w j 9 zs) → w'.heap[j]? = w.heap[j]?) : Own1 B w' s nm := by
  obtain ⟨ys, ⟨h1, h2⟩, h3⟩ := h
  refine ⟨ys, ⟨?_, h2⟩, h3⟩
  rcases h1 with h1 | ⟨g, e, hg, hblk, hn⟩
  · exact .inl h1
  · exact .inr ⟨g, e, hg, hblk.same (hb g hg hblk.lt ⟨_, hblk⟩), hn⟩
theorem Own1.rd {B : Nat} {w : World} {s : Sl} {nm : List ByteArray} (h : Own1 B w s nm) : TRd w s nm := by
  obtain ⟨ys, h1, h3⟩ := h
  obtain ⟨ao, e, hnil⟩ := h1.shape
  have hle := h1.le
  obtain ⟨sa, sn, sc⟩ := s
  simp only at e h1
  injection e with e1 e2 e3
  subst e1 e2 e3
  have hrd := h1.rd nm.length
  rw [h3] at hrd
  refine ⟨hrd, rfl, ⟨hle.1, by have := hle.2; simp only [maxLen] at this; exact this⟩, hnil, fun x hx => ?_⟩
  have : x ∈ ys := by rw [← h3] at hx; exact List.mem_of_mem_take hx
  have := h1.2 x this
  omega
/-- A list of names of one's own, from the block B on. -/
def OwnN (B : Nat) (w : World) (v : Value) (nss : List (List ByteArray)) : Prop :=
  ∃ xs, OwnV B w 26 v nss.length xs ∧ ∀ i (hi : i < nss.length), ∃ s : Sl, xs[i]? = some (.slice s.a s.n s.c) ∧ Own1 B w s nss[i]
theorem OwnN.nil (B : Nat) (w : World) : OwnN B w (.slice none 0 0) [] := ⟨[], OwnV.nil B w 26, fun i hi => absurd hi (by simp)⟩
theorem OwnN.keep {B : Nat} {w w' : World} {v : Value} {nss : List (List ByteArray)} (h : OwnN B w v nss) (hb : ∀ j, B ≤ j → j < w.heap.size → w'.heap[j]? = w.heap[j]?) : OwnN B w' v nss := by
  obtain ⟨xs, h1, h2⟩ := h
  refine ⟨xs, h1.keep (fun j e hj => hb j (h1.lt j e) hj), fun i hi => ?_⟩
  obtain ⟨s, e1, e2⟩ := h2 i hi
  exact ⟨s, e1, e2.keep (fun j h1 h2 _ => hb j h1 h2)⟩
theorem OwnN.shape {B : Nat} {w : World} {v : Value} {nss : List (List ByteArray)} (h : OwnN B w v nss) : ∃ s : Sl, v = .slice s.a s.n s.c := by
  obtain ⟨xs, h1, _⟩ := h
  obtain ⟨ao, rfl, _⟩ := h1.shape
  exact ⟨⟨ao, nss.length, xs.length⟩, rfl⟩
theorem OwnN.rd {B : Nat} {w : World} {s : Sl} {nss : List (List ByteArray)} (h : OwnN B w (.slice s.a s.n s.c) nss) : NRd w s nss := by
  obtain ⟨a, n, c⟩ := s
  obtain ⟨xs, h1, h2⟩ := h
  rcases h1 with ⟨e, e0, rfl⟩ | ⟨g, e, hg, hblk, hn, hm⟩
  · injection e with e1 e2 e3
    simp only at e1 e2 e3
    subst e1 e2 e3
    exact ⟨.inl (List.eq_nil_of_length_eq_zero e0), e0, ⟨Nat.le_refl _, Nat.zero_le _⟩, fun _ => rfl⟩
  · injection e with e1 e2 e3
    simp only at e1 e2 e3
    subst e1 e2 e3
    refine ⟨.inr ⟨g, 0, rfl, hblk.lt, fun i hi => ?_⟩, rfl, ⟨hn, by simp only [maxLen] at hm; exact hm⟩, by simp⟩
    obtain ⟨s, e1, e2⟩ := h2 i hi
    refine ⟨s, ?_, e2.rd⟩
    rw [Nat.zero_add, hblk.cell i (by omega)]
    rw [List.getElem?_eq_getElem (by omega)] at e1
    exact e1
end Go.Proofs.Ytgeoadkcmbageaa
namespace Go.Proofs.Ytgeoadkcmbageaa
open Go.ChangeShapes Go.WideShapes Go.ChangeAt Go.RowKit
set_option linter.unusedVariables false
set_option linter.unusedSimpArgs false
/-- No data. -/
abbrev nilDA : DA := ⟨⟨none, 0, 0⟩, ⟨none, 0, 0⟩, ⟨none, 0, 0⟩, ⟨none, 0, 0⟩⟩
theorem DBlk.four {w : World} {R : Nat} {y : DA} (h : DBlk w R y) (x : DA) : DBlk (((((w.setCell ⟨R, 0, none⟩ (.slice x.p1.a x.p1.n x.p1.c)).setCell ⟨R, 1, none⟩ (.slice x.p2.a x.p2.n x.p2.c)).setCell ⟨R, 2, none⟩ (.slice x.p3.a x.p3.n x.p3.c)).setCell ⟨R, 3, none⟩ (.slice x.p4.a x.p4.n x.p4.c)).drew) R x :=
  (heap_set (heap_set (heap_set (heap_set h 0 _) 1 _) 2 _) 3 _).trans (by simp)
/-- The boxes that a guess begins with. -/
structure GB (S R g D : Nat) (s : Shp) (w Wb : World) : Prop where
  sb : SBox Wb S s
  rb : DBlk Wb R nilDA
  ne : S ≠ g ∧ S ≠ D ∧ R ≠ g ∧ R ≠ D ∧ S ≠ R
  bel : Below w.heap.size w Wb
  low : w.heap.size ≤ S ∧ w.heap.size ≤ R ∧ w.heap.size ≤ g ∧ w.heap.size ≤ D
theorem GB.below {S R g D : Nat} {s : Shp} {w Wb W : World} (h : GB S R g D s w Wb) (k : Kp g D Wb W) : Below w.heap.size w W := k.below h.bel h.bel.size h.low.2.2.1 h.low.2.2.2
/-- What is read stays, where the result's box is written. -/
theorem GB.store {S R g D : Nat} {s : Shp} {w Wb W : World} (h : GB S R g D s w Wb) (k : Kp g D Wb W) (v0 v1 v2 v3 : Value) : Below w.heap.size w ((((W.setCell ⟨R, 0, none⟩ v0).setCell ⟨R, 1, none⟩ v1).setCell ⟨R, 2, none⟩ v2).setCell ⟨R, 3, none⟩ v3) :=
  ((((h.below k).setCell (p := ⟨R, 0, none⟩) h.low.2.1 v0).setCell (p := ⟨R, 1, none⟩) h.low.2.1 v1).setCell (p := ⟨R, 2, none⟩) h.low.2.1 v2).setCell (p := ⟨R, 3, none⟩) h.low.2.1 v3
theorem own_brd {B : Nat} {w : World} {s : Sl} {zs ys : List Int} (h : Own B w (.slice s.a s.n s.c) zs.length ys) (ht : ys.take zs.length = zs) : BRd w s zs := by
  obtain ⟨sa, sn, sc⟩ := s
  obtain ⟨ao, e, hoa⟩ := h.addr
  injection e with e1 e2 e3
  simp only at e1 e2 e3
  subst e1 e2 e3
  have hrd := hoa.rdTake zs.length
  rw [ht] at hrd
  refine ⟨hrd, rfl, ?_, ?_⟩
  · rcases h with ⟨_, h0, h1⟩ | ⟨g, _, _, _, h1, h2⟩
    · subst h1; simp [h0]
    · exact ⟨h1, by simp only [maxLen] at h2; exact h2⟩
  · intro hn
    rcases h with ⟨_, _, h1⟩ | ⟨g, e, _⟩
    · subst h1; rfl
    · simp only at hn e; rw [hn] at e; cases e
/-- Numbers of one's own. -/
def UOwn (B : Nat) (w : World) (s : Sl) (us : List Nat) : Prop := ∃ xs, OwnV B w 30 (.slice s.a s.n s.c) us.length xs ∧ xs.take us.length = uv us ∧ (∀ u ∈ us, u ≤ 4294967295) ∧ ∀ v ∈ xs, ∃ z : Int, v = .int .u32 z ∧ 0 ≤ z ∧ z ≤ 4294967295
/-- Bytes of one's own. -/
def BOwn (B : Nat) (w : World) (s : Sl) (zs : List Int) : Prop := ∃ ys, Own B w (.slice s.a s.n s.c) zs.length ys ∧ ys.take zs.length = zs
/-- Data of one's own. -/
def DOwn (B : Nat) (w : World) (x : DA) (d : Dat) : Prop := OwnN B w (.slice x.p1.a x.p1.n x.p1.c) d.ns ∧ UOwn B w x.p2 d.us ∧ Own1 B w x.p3 d.ts ∧ BOwn B w x.p4 d.raw
theorem UOwn.keep {B : Nat} {w w' : World} {s : Sl} {us : List Nat} (h : UOwn B w s us) (hb : ∀ j, B ≤ j → j < w.heap.size → w'.heap[j]? = w.heap[j]?) : UOwn B w' s us := by
  obtain ⟨xs, h1, h2⟩ := h
  exact ⟨xs, h1.keep (fun j e hj => hb j (h1.lt j e) hj), h2⟩
theorem own_keep2 {B : Nat} {w w' : World} {v : Value} {n : Nat} {zs : List Int} (h : Own B w v n zs) (hb : ∀ j, B ≤ j → j < w.heap.size → w'.heap[j]? = w.heap[j]?) : Own B w' v n zs := by
  rcases h with h | ⟨g, h1, h2, h3, h4⟩
  · exact .inl h
  · exact .inr ⟨g, h1, h2, h3.same (hb g h2 h3.lt), h4⟩
theorem BOwn.keep {B : Nat} {w w' : World} {s : Sl} {zs : List Int} (h : BOwn B w s zs) (hb : ∀ j, B ≤ j → j < w.heap.size → w'.heap[j]? = w.heap[j]?) : BOwn B w' s zs := by
  obtain ⟨ys, h1, h2⟩ := h
  exact ⟨ys, own_keep2 h1 hb, h2⟩
theorem DOwn.keep {B : Nat} {w w' : World} {x : DA} {d : Dat} (h : DOwn B w x d) (hb : ∀ j, B ≤ j → j < w.heap.size → w'.heap[j]? = w.heap[j]?) : DOwn B w' x d :=
  ⟨h.1.keep hb, h.2.1.keep hb, h.2.2.1.keep (fun j h1 h2 _ => hb j h1 h2), h.2.2.2.keep hb⟩
theorem UOwn.rd {B : Nat} {w : World} {s : Sl} {us : List Nat} (h : UOwn B w s us) : URd w s us := by
  obtain ⟨xs, h1, h2, h3⟩ := h
  obtain ⟨sa, sn, sc⟩ := s
  obtain ⟨ao, e, hnil⟩ := h1.shape
  have hle := h1.le
  injection e with e1 e2 e3
  simp only at e1 e2 e3
  subst e1 e2 e3
  have hrd := h1.rd us.length
  rw [h2] at hrd
  exact ⟨hrd, rfl, ⟨hle.1, by have := hle.2; simp only [maxLen] at this; exact this⟩, hnil, h3.1⟩
theorem BOwn.rd {B : Nat} {w : World} {s : Sl} {zs : List Int} (h : BOwn B w s zs) : BRd w s zs := by
  obtain ⟨ys, h1, h2⟩ := h
  exact own_brd h1 h2
theorem DOwn.rd {B : Nat} {w : World} {x : DA} {d : Dat} (h : DOwn B w x d) : DRd w x d := ⟨h.1.rd, h.2.1.rd, h.2.2.1.rd, h.2.2.2.rd⟩
end Go.Proofs.Ytgeoadkcmbageaa
namespace Go.Proofs.Ytgeoadkcmbageaa
open Go.ChangeShapes Go.WideShapes Go.ChangeAt Go.RowKit
set_option linter.unusedVariables false
set_option linter.unusedSimpArgs false
/-- A reader over bytes, and what stays behind its making (the world Wb). -/
structure RS (Wb W : World) (g : Nat) (a : Option Addr) (len cap : Nat) (zs : List Int) (st : Option Nat) : Prop where
  rst : RSt W g a len cap st
  kp : Wb.grownBy W (some g)
  rd : Rd Wb a zs
  hl : zs.length = len
  hc : len ≤ cap
  hd : a = none → cap = 0
  off : Off a g
  gl : g < Wb.heap.size
  hm : len ≤ 65535
theorem grown2 {w1 wr w2 : World} {gr : Nat} (h1 : w1.grownBy wr (some gr)) (h2 : wr.grownBy w2 (some gr)) : w1.grownBy w2 (some gr) :=
  ⟨h2.os.trans h1.os, h2.tape.trans h1.tape, h2.output.trans h1.output, Nat.le_trans h1.size h2.size, fun k hk hne => (h2.block k (Nat.lt_of_lt_of_le hk h1.size) hne).trans (h1.block k hk hne)⟩
theorem RS.to {Wb W W' : World} {g : Nat} {a : Option Addr} {len cap : Nat} {zs : List Int} {st st' : Option Nat} (h : RS Wb W g a len cap zs st) (h1 : RSt W' g a len cap st') (h2 : W.grownBy W' (some g)) : RS Wb W' g a len cap zs st' :=
  ⟨h1, grown2 h.kp h2, h.rd, h.hl, h.hc, h.hd, h.off, h.gl, h.hm⟩
theorem RS.app {Wb W W' : World} {g : Nat} {a : Option Addr} {len cap : Nat} {zs : List Int} {st : Option Nat} {o : Option Nat} (h : RS Wb W g a len cap zs st) (h2 : W.grownBy W' o) (ho : ∀ j, o = some j → Wb.heap.size ≤ j) : RS Wb W' g a len cap zs st := by
  have hgW : g < W.heap.size := Nat.lt_of_lt_of_le h.gl h.kp.size
  refine ⟨h.rst.same (h2.block g hgW (fun e => by have := ho g e.symm; have := h.gl; omega)), ?_, h.rd, h.hl, h.hc, h.hd, h.off, h.gl, h.hm⟩
  exact ⟨h2.os.trans h.kp.os, h2.tape.trans h.kp.tape, h2.output.trans h.kp.output, Nat.le_trans h.kp.size h2.size, fun k hk hne => (h2.block k (Nat.lt_of_lt_of_le hk h.kp.size) (fun e => by have := ho k e.symm; omega)).trans (h.kp.block k hk hne)⟩
theorem RS.below {Wb W W' : World} {g : Nat} {a : Option Addr} {len cap : Nat} {zs : List Int} {st : Option Nat} (h : RS Wb W g a len cap zs st) (h2 : Below W.heap.size W W') : RS Wb W' g a len cap zs st := h.app (o := none) (below_grown h2) (by rintro j ⟨⟩)
theorem UOwn.kept {B g : Nat} {w w' : World} {s : Sl} {us : List Nat} (h : UOwn B w s us) (hg : w.grownBy w' (some g)) (hB : g < B) : UOwn B w' s us := h.keep fun j h1 h2 => hg.block j h2 (fun e => by cases e; omega)
theorem OwnN.kept {B g : Nat} {w w' : World} {v : Value} {nss : List (List ByteArray)} (h : OwnN B w v nss) (hg : w.grownBy w' (some g)) (hB : g < B) : OwnN B w' v nss := h.keep fun j h1 h2 => hg.block j h2 (fun e => by cases e; omega)
theorem OwnN.stays {B : Nat} {w w' : World} {v : Value} {nss : List (List ByteArray)} (h : OwnN B w v nss) (hb : Below w.heap.size w w') : OwnN B w' v nss := h.keep fun j _ h2 => hb.block j h2
theorem UOwn.stays {B : Nat} {w w' : World} {s : Sl} {us : List Nat} (h : UOwn B w s us) (hb : Below w.heap.size w w') : UOwn B w' s us := h.keep fun j _ h2 => hb.block j h2
theorem Own1.stays {B : Nat} {w w' : World} {s : Sl} {nm : List ByteArray} (h : Own1 B w s nm) (hb : Below w.heap.size w w') : Own1 B w' s nm := h.keep fun j _ h2 _ => hb.block j h2
theorem Own1.kept {B g : Nat} {w w' : World} {s : Sl} {nm : List ByteArray} (h : Own1 B w s nm) (hg : w.grownBy w' (some g)) (hB : g < B) : Own1 B w' s nm := h.keep fun j h1 h2 _ => hg.block j h2 (fun e => by cases e; omega)
theorem BOwn.stays {B : Nat} {w w' : World} {s : Sl} {zs : List Int} (h : BOwn B w s zs) (hb : Below w.heap.size w w') : BOwn B w' s zs := h.keep fun j _ h2 => hb.block j h2
theorem BOwn.kept {B g : Nat} {w w' : World} {s : Sl} {zs : List Int} (h : BOwn B w s zs) (hg : w.grownBy w' (some g)) (hB : g < B) : BOwn B w' s zs := h.keep fun j h1 h2 => hg.block j h2 (fun e => by cases e; omega)
/-- A number read. -/
def pnu (zs : List Int) (st : Option Nat) (wd : Nat) : Nat := (val (tk zs st (wd : Int))).toNat
/-- Numbers read one behind the other. -/
def pnus (zs : List Int) (len : Nat) : Option Nat → Nat → Nat → List Nat × Option Nat
  | st, _, 0 => ([], st)
  | st, wd, k + 1 => let r := pnus zs len st wd k; (r.1 ++ [pnu zs r.2 wd], mv len r.2 (wd : Int))
end Go.Proofs.Ytgeoadkcmbageaa
namespace Go.Proofs.Ytgeoadkcmbageaa
open Go.ChangeShapes Go.WideShapes Go.ChangeAt Go.RowKit
set_option linter.unusedVariables false
set_option linter.unusedSimpArgs false
/-- A name read, and where the reader is then. -/
def pnm1 (zs : List Int) (len : Nat) (st : Option Nat) : List ByteArray × Option Nat := ((nread zs (pos st)).1, jm len st (if (nread zs (pos st)).2.2 = 0 then (nread zs (pos st)).2.1 else -1))
end Go.Proofs.Ytgeoadkcmbageaa
namespace Go.Proofs.Ytgeoadkcmbageaa
open Go.ChangeShapes Go.WideShapes Go.ChangeAt Go.RowKit
set_option linter.unusedVariables false
set_option linter.unusedSimpArgs false
theorem FBox.grown {w w' : World} {b g : Nat} {f : Fs} (h : FBox w b f) (hg : w.grownBy w' (some g)) (hne : g < b) : FBox w' b f := by
  obtain ⟨h0, h1, h2, h3, h4, h5, h6, h7, hl⟩ := h
  have hb : w'.heap[b]? = w.heap[b]? := hg.block b hl (fun e => by cases e; omega)
  exact ⟨(World.cell?_of_block hb).trans h0, (World.cell?_of_block hb).trans h1, (World.cell?_of_block hb).trans h2, (World.cell?_of_block hb).trans h3, (World.cell?_of_block hb).trans h4, (World.cell?_of_block hb).trans h5, (World.cell?_of_block hb).trans h6, (World.cell?_of_block hb).trans h7, Nat.lt_of_lt_of_le hl hg.size⟩
theorem FBox.app {w w' : World} {b : Nat} {f : Fs} {o : Option Nat} (h : FBox w b f) (hg : w.grownBy w' o) (hne : ∀ j, o = some j → b < j) : FBox w' b f := by
  obtain ⟨h0, h1, h2, h3, h4, h5, h6, h7, hl⟩ := h
  have hb : w'.heap[b]? = w.heap[b]? := hg.block b hl (fun e => by have := hne b e.symm; omega)
  exact ⟨(World.cell?_of_block hb).trans h0, (World.cell?_of_block hb).trans h1, (World.cell?_of_block hb).trans h2, (World.cell?_of_block hb).trans h3, (World.cell?_of_block hb).trans h4, (World.cell?_of_block hb).trans h5, (World.cell?_of_block hb).trans h6, (World.cell?_of_block hb).trans h7, Nat.lt_of_lt_of_le hl hg.size⟩
theorem Own1.mono {B B' : Nat} {w : World} {s : Sl} {nm : List ByteArray} (h : Own1 B w s nm) (hB : B' ≤ B) : Own1 B' w s nm := by
  obtain ⟨ys, h1, h2⟩ := h
  exact ⟨ys, h1.mono hB, h2⟩
/-- Texts read up to the end. -/
def ptxF (zs : List Int) (len : Nat) : Nat → Option Nat → List ByteArray × Option Nat
  | 0, st => ([], st)
  | k + 1, st => if 0 < lft len st then (lb (tk zs (mv len st 1) (val (tk zs st 1))) :: (ptxF zs len k (mv len (mv len st 1) (val (tk zs st 1)))).1, (ptxF zs len k (mv len (mv len st 1) (val (tk zs st 1)))).2) else ([], st)
theorem ptxF_end (zs : List Int) (len k : Nat) (st : Option Nat) (h : ¬ 0 < lft len st) : ptxF zs len k st = ([], st) := by
  cases k with
  | zero => rfl
  | succ k => unfold ptxF; rw [if_neg h]
def lenOf : Value → Nat
  | .slice _ n _ => n
  | _ => 0
theorem Own1.n {B : Nat} {w : World} {s : Sl} {nm : List ByteArray} (h : Own1 B w s nm) : s.n = nm.length := h.rd.len.symm
/-- Two texts read: one with its length ahead, one up to the end. -/
def ptx2 (zs : List Int) (len : Nat) (st : Option Nat) : List ByteArray × Option Nat :=
  let z := val (tk zs st 1)
  let s1 := mv len st 1
  let s2 := mv len s1 z
  ([lb (tk zs s1 z), lb (tk zs s2 (lft len s2))], mv len s2 (lft len s2))
end Go.Proofs.Ytgeoadkcmbageaa
namespace Go.Proofs.Ytgeoadkcmbageaa
open Go.ChangeShapes Go.WideShapes Go.ChangeAt Go.RowKit
set_option linter.unusedVariables false
set_option linter.unusedSimpArgs false
theorem UOwn.keepTy {B : Nat} {w w' : World} {s : Sl} {us : List Nat} (h : UOwn B w s us) (hb : ∀ j, B ≤ j → j < w.heap.size → (∃ zs, BlkV w j 30 zs) → w'.heap[j]? = w.heap[j]?) : UOwn B w' s us := by
  obtain ⟨xs, h1, h2, h3⟩ := h
  refine ⟨xs, ?_, h2, h3⟩
  rcases h1 with h1 | ⟨g, e, hg, hblk, hn⟩
  · exact .inl h1
  · exact .inr ⟨g, e, hg, hblk.same (hb g hg hblk.lt ⟨_, hblk⟩), hn⟩
end Go.Proofs.Ytgeoadkcmbageaa
namespace Go.Proofs.Ytgeoadkcmbageaa
open Go.ChangeShapes Go.WideShapes Go.ChangeAt Go.RowKit
set_option linter.unusedVariables false
set_option linter.unusedSimpArgs false
/-- From a state to the next one these bytes are gone over. -/
def Stp (zs : List Int) (st st' : Option Nat) (b : List Int) : Prop := ∀ q, st' = some q → ∃ p, st = some p ∧ (p ≤ zs.length → q ≤ zs.length ∧ zs.drop p = b ++ zs.drop q)
theorem Stp.nil (zs : List Int) (st : Option Nat) : Stp zs st st [] := fun q hq => ⟨q, hq, fun h => ⟨h, rfl⟩⟩
theorem Stp.trans {zs : List Int} {a b c : Option Nat} {x y : List Int} (h1 : Stp zs a b x) (h2 : Stp zs b c y) : Stp zs a c (x ++ y) := by
  intro q hq
  obtain ⟨p, e, hp⟩ := h2 q hq
  obtain ⟨p0, e0, hp0⟩ := h1 p e
  refine ⟨p0, e0, fun h => ?_⟩
  obtain ⟨h3, h4⟩ := hp0 h
  obtain ⟨h5, h6⟩ := hp h3
  exact ⟨h5, by rw [h4, h6, List.append_assoc]⟩
theorem Stp.take (zs : List Int) (st : Option Nat) (n : Int) : Stp zs st (mv zs.length st n) (tk zs st n) := by
  intro q hq
  cases st with
  | none => cases hq
  | some k =>
    simp only [mv] at hq
    split at hq
    · rename_i h
      cases hq
      refine ⟨k, rfl, fun _ => ⟨by omega, ?_⟩⟩
      simp only [tk]
      rw [if_pos h, ← List.drop_drop, List.take_append_drop]
    · cases hq
theorem tk_some {zs : List Int} {k : Nat} {n : Int} {q : Nat} (h : mv zs.length (some k) n = some q) : (tk zs (some k) n).length = n.toNat ∧ 0 ≤ n ∧ q = k + n.toNat := by
  simp only [mv] at h
  split at h
  · rename_i hc
    cases h
    simp only [tk]
    rw [if_pos hc]
    refine ⟨by simp; omega, hc.1, trivial⟩
  · cases h
theorem numB_val (l : List Int) (wd : Nat) (hw : wd = 1 ∨ wd = 2 ∨ wd = 4) (hl : l.length = wd) (hb : ∀ z ∈ l, 0 ≤ z ∧ z ≤ 255) : numB (val l).toNat wd = l := by
  rcases hw with rfl | rfl | rfl
  · obtain ⟨a, rfl⟩ := len1 hl
    have := hb a (by simp)
    simp [numB, val]; omega
  · obtain ⟨a, b, rfl⟩ := len2 hl
    have h1 := hb a (by simp)
    have h2 := hb b (by simp)
    simp [numB, val]; omega
  · rcases l with _ | ⟨a, _ | ⟨b, _ | ⟨c, _ | ⟨d, _ | ⟨e, l⟩⟩⟩⟩⟩ <;> simp at hl
    have h1 := hb a (by simp)
    have h2 := hb b (by simp)
    have h3 := hb c (by simp)
    have h4 := hb d (by simp)
    simp [numB, val]; omega
theorem Stp.num (zs : List Int) (hb : ∀ z ∈ zs, 0 ≤ z ∧ z ≤ 255) (st : Option Nat) (wd : Nat) (hw : wd = 1 ∨ wd = 2 ∨ wd = 4) : Stp zs st (mv zs.length st (wd : Int)) (numB (pnu zs st wd) wd) := by
  intro q hq
  have h := Stp.take zs st (wd : Int) q hq
  obtain ⟨p, rfl, h⟩ := h
  refine ⟨p, rfl, fun hp => ?_⟩
  have hl := (tk_some hq).1
  unfold pnu
  rw [numB_val _ wd hw (by omega) (tk_bytes zs _ _ hb)]
  exact h hp
theorem Stp.us (zs : List Int) (hb : ∀ z ∈ zs, 0 ≤ z ∧ z ≤ 255) (st : Option Nat) (wd : Nat) (hw : wd = 1 ∨ wd = 2 ∨ wd = 4) : ∀ k, Stp zs st (pnus zs zs.length st wd k).2 ((pnus zs zs.length st wd k).1.flatMap fun n => numB n wd)
  | 0 => Stp.nil zs st
  | k + 1 => by
    have ih := Stp.us zs hb st wd hw k
    have := ih.trans (Stp.num zs hb (pnus zs zs.length st wd k).2 wd hw)
    simpa [pnus] using this
theorem rgo_sound (l : List Int) (hb : ∀ z ∈ l, 0 ≤ z ∧ z ≤ 255) : ∀ (n p : Nat) (out o : List ByteArray) (q : Nat), l.length - p ≤ n → rgo l p out = some (o, q) → ∃ r, o = out ++ r ∧ q ≤ l.length ∧ l.drop p = nby r ++ (0 :: l.drop q) := by
  intro n
  induction n with
  | zero =>
    intro p out o q hn h
    rw [rgo_end l p out (by omega)] at h
    cases h
  | succ n ih =>
    intro p out o q hn h
    by_cases h1 : p < l.length ∧ l.getD p 0 ≤ 63
    · have hd : l.drop p = l.getD p 0 :: l.drop (p + 1) := by
        rw [List.drop_eq_getElem_cons h1.1]
        simp [List.getD_eq_getElem?_getD, h1.1]
      have hc : 0 ≤ l.getD p 0 := by
        have := hb l[p] (List.getElem_mem h1.1)
        simpa [List.getD_eq_getElem?_getD, h1.1] using this.1
      by_cases h0 : l.getD p 0 = 0
      · rw [rgo_zero l p out h1 h0] at h
        cases h
        refine ⟨[], by simp, by omega, ?_⟩
        rw [hd, h0]
        rfl
      · by_cases h2 : (l.length : Int) - ((p : Int) + 1) < l.getD p 0
        · rw [rgo_short l p out h1 h0 h2] at h; cases h
        · rw [rgo_step l p out h1 h0 h2] at h
          obtain ⟨r, e1, e2, e3⟩ := ih _ _ _ _ (by omega) h
          refine ⟨lb ((l.drop (p + 1)).take (l.getD p 0).toNat) :: r, by rw [e1]; simp, e2, ?_⟩
          have hlen : ((l.drop (p + 1)).take (l.getD p 0).toNat).length = (l.getD p 0).toNat := by rw [List.length_take, List.length_drop]; omega
          have hnm : nums (lb ((l.drop (p + 1)).take (l.getD p 0).toNat)) = (l.drop (p + 1)).take (l.getD p 0).toNat := nums_back _ fun z hz => hb z (List.mem_of_mem_drop (List.mem_of_mem_take hz))
          have hf : nby (lb ((l.drop (p + 1)).take (l.getD p 0).toNat) :: r) = ((lb ((l.drop (p + 1)).take (l.getD p 0).toNat)).size : Int) :: (nums (lb ((l.drop (p + 1)).take (l.getD p 0).toNat)) ++ nby r) := by simp [nby]
          rw [hf, lb_size, hlen, hnm, hd]
          have hz : (((l.getD p 0).toNat : Nat) : Int) = l.getD p 0 := by omega
          have e4 : (l.drop (p + 1)).drop (l.getD p 0).toNat = l.drop (p + 1 + (l.getD p 0).toNat) := List.drop_drop
          rw [hz, List.cons_append, List.append_assoc, ← e3, ← e4, List.take_append_drop]
    · rw [rgo_end l p out h1] at h; cases h
theorem nread_sound {zs : List Int} (hb : ∀ z ∈ zs, 0 ≤ z ∧ z ≤ 255) {p : Nat} (h : (nread zs (p : Int)).2.2 = 0) : ∃ q : Nat, (nread zs (p : Int)).2.1 = (q : Int) ∧ q ≤ zs.length ∧ zs.drop p = nmB (nread zs (p : Int)).1 ++ zs.drop q := by
  by_cases h1 : (p : Int) < 0 ∨ (zs.length : Int) ≤ (p : Int)
  · have e : nread zs (p : Int) = ([], 0, 2) := by unfold nread; rw [if_pos h1]
    rw [e] at h
    exact absurd h (by decide)
  · cases hr : rgo zs p [] with
    | none =>
      have e : nread zs (p : Int) = ([], 0, 8) := by unfold nread; rw [if_neg h1, Int.toNat_natCast, hr]
      rw [e] at h
      exact absurd h (by decide)
    | some x =>
      obtain ⟨o, q⟩ := x
      by_cases hk : nck o = 0
      · have e : nread zs (p : Int) = (o, (q : Int), 0) := by unfold nread; rw [if_neg h1, Int.toNat_natCast, hr]; simp [hk]
        obtain ⟨r, e1, e2, e3⟩ := rgo_sound zs hb _ p [] o q (Nat.le_refl _) hr
        rw [e]
        refine ⟨q, rfl, e2, ?_⟩
        simp at e1
        subst e1
        rw [e3]
        simp [nmB]
      · have e : nread zs (p : Int) = ([], 0, 8) := by unfold nread; rw [if_neg h1, Int.toNat_natCast, hr]; simp [hk]
        rw [e] at h
        exact absurd h (by decide)
theorem Stp.nm (zs : List Int) (hb : ∀ z ∈ zs, 0 ≤ z ∧ z ≤ 255) (st : Option Nat) : Stp zs st (pnm1 zs zs.length st).2 (nmB (pnm1 zs zs.length st).1) := by
  intro q hq
  cases st with
  | none => cases hq
  | some p =>
    refine ⟨p, rfl, fun hp => ?_⟩
    have hq' : jm zs.length (some p) (if (nread zs (p : Int)).2.2 = 0 then (nread zs (p : Int)).2.1 else -1) = some q := hq
    show q ≤ zs.length ∧ zs.drop p = nmB (nread zs (p : Int)).1 ++ zs.drop q
    by_cases h0 : (nread zs (p : Int)).2.2 = 0
    · obtain ⟨r, e1, e2, e3⟩ := nread_sound hb h0
      rw [if_pos h0, e1] at hq'
      simp only [jm] at hq'
      rw [if_pos ⟨by omega, by omega⟩, Int.toNat_natCast] at hq'
      cases hq'
      exact ⟨e2, e3⟩
    · rw [if_neg h0] at hq'
      simp only [jm] at hq'
      rw [if_neg (by omega)] at hq'
      cases hq'
theorem nby_cons (s : ByteArray) (r : List ByteArray) : nby (s :: r) = ((s.size : Int) :: nums s) ++ nby r := by simp [nby]
theorem Stp.text (zs : List Int) (hb : ∀ z ∈ zs, 0 ≤ z ∧ z ≤ 255) (st : Option Nat) : Stp zs st (mv zs.length (mv zs.length st 1) (val (tk zs st 1))) (((lb (tk zs (mv zs.length st 1) (val (tk zs st 1)))).size : Int) :: nums (lb (tk zs (mv zs.length st 1) (val (tk zs st 1))))) := by
  intro q hq
  obtain ⟨p1, e1, hB⟩ := Stp.take zs _ _ q hq
  obtain ⟨p0, rfl, hA⟩ := Stp.take zs _ _ p1 e1
  have h1 := tk_some e1
  rw [e1] at hq hB ⊢
  have h2 := tk_some hq
  obtain ⟨c, hc⟩ := len1 (l := tk zs (some p0) 1) (by simpa using h1.1)
  have hv : val (tk zs (some p0) 1) = c := by rw [hc]; simp [val]
  refine ⟨p0, rfl, fun hp => ?_⟩
  obtain ⟨a1, a2⟩ := hA hp
  obtain ⟨b1, b2⟩ := hB a1
  refine ⟨b1, ?_⟩
  have hnm : nums (lb (tk zs (some p1) (val (tk zs (some p0) 1)))) = tk zs (some p1) (val (tk zs (some p0) 1)) := nums_back _ (tk_bytes zs _ _ hb)
  rw [hnm, lb_size, h2.1, a2, b2, hc]
  have : (((val (tk zs (some p0) 1)).toNat : Nat) : Int) = c := by omega
  rw [hc] at this
  rw [this]
  simp
theorem Stp.texts (zs : List Int) (hb : ∀ z ∈ zs, 0 ≤ z ∧ z ≤ 255) : ∀ (k : Nat) (st : Option Nat), Stp zs st (ptxF zs zs.length k st).2 (nby (ptxF zs zs.length k st).1)
  | 0, st => Stp.nil zs st
  | k + 1, st => by
    by_cases h : 0 < lft zs.length st
    · have ih := Stp.texts zs hb k (mv zs.length (mv zs.length st 1) (val (tk zs st 1)))
      have := (Stp.text zs hb st).trans ih
      unfold ptxF
      rw [if_pos h]
      simp only
      rw [nby_cons]
      exact this
    · rw [ptxF_end zs zs.length (k + 1) st h]
      exact Stp.nil zs st
theorem Stp.two (zs : List Int) (hb : ∀ z ∈ zs, 0 ≤ z ∧ z ≤ 255) (st : Option Nat) : Stp zs st (ptx2 zs zs.length st).2 (ptB 1 (ptx2 zs zs.length st).1) := by
  have h1 := Stp.text zs hb st
  have h2 := h1.trans (Stp.take zs (mv zs.length (mv zs.length st 1) (val (tk zs st 1))) (lft zs.length (mv zs.length (mv zs.length st 1) (val (tk zs st 1)))))
  have e : ptB 1 (ptx2 zs zs.length st).1 = (((lb (tk zs (mv zs.length st 1) (val (tk zs st 1)))).size : Int) :: nums (lb (tk zs (mv zs.length st 1) (val (tk zs st 1))))) ++ tk zs (mv zs.length (mv zs.length st 1) (val (tk zs st 1))) (lft zs.length (mv zs.length (mv zs.length st 1) (val (tk zs st 1)))) := by
    have hn : nums (lb (tk zs (mv zs.length (mv zs.length st 1) (val (tk zs st 1))) (lft zs.length (mv zs.length (mv zs.length st 1) (val (tk zs st 1)))))) = tk zs (mv zs.length (mv zs.length st 1) (val (tk zs st 1))) (lft zs.length (mv zs.length (mv zs.length st 1) (val (tk zs st 1)))) := nums_back _ (tk_bytes zs _ _ hb)
    simp [ptB, ptx2, nby, hn]
  rw [e]
  exact h2
end Go.Proofs.Ytgeoadkcmbageaa
namespace Go.Proofs.Ytgeoadkcmbageaa
open Go.ChangeShapes Go.WideShapes Go.ChangeAt Go.RowKit
set_option linter.unusedVariables false
set_option linter.unusedSimpArgs false
theorem FBox.off {w w' : World} {b g : Nat} {f : Fs} (h : FBox w b f) (hg : w.grownBy w' (some g)) (hne : g ≠ b) : FBox w' b f := by
  obtain ⟨h0, h1, h2, h3, h4, h5, h6, h7, hl⟩ := h
  have hb : w'.heap[b]? = w.heap[b]? := hg.block b hl (fun e => by cases e; omega)
  exact ⟨(World.cell?_of_block hb).trans h0, (World.cell?_of_block hb).trans h1, (World.cell?_of_block hb).trans h2, (World.cell?_of_block hb).trans h3, (World.cell?_of_block hb).trans h4, (World.cell?_of_block hb).trans h5, (World.cell?_of_block hb).trans h6, (World.cell?_of_block hb).trans h7, Nat.lt_of_lt_of_le hl hg.size⟩
theorem UOwn.mono {B B' : Nat} {w : World} {s : Sl} {us : List Nat} (h : UOwn B w s us) (hB : B' ≤ B) : UOwn B' w s us := by
  obtain ⟨xs, h1, h2⟩ := h
  exact ⟨xs, h1.mono hB, h2⟩
theorem OwnN.mono {B B' : Nat} {w : World} {v : Value} {nss : List (List ByteArray)} (h : OwnN B w v nss) (hB : B' ≤ B) : OwnN B' w v nss := by
  obtain ⟨xs, h1, h2⟩ := h
  refine ⟨xs, h1.mono hB, fun i hi => ?_⟩
  obtain ⟨s, e1, e2⟩ := h2 i hi
  exact ⟨s, e1, e2.mono hB⟩
theorem BOwn.mono {B B' : Nat} {w : World} {s : Sl} {zs : List Int} (h : BOwn B w s zs) (hB : B' ≤ B) : BOwn B' w s zs := by
  obtain ⟨xs, h1, h2⟩ := h
  exact ⟨xs, own_mono h1 hB, h2⟩
theorem DBlk.call {W W' : World} {D g : Nat} {x : DA} (h : DBlk W D x) (hg : W.grownBy W' (some g)) (hne : g < D) : DBlk W' D x := h.same (hg.block D h.lt (fun e => by cases e; omega))
theorem OwnN.keepTy {B : Nat} {w w' : World} {v : Value} {nss : List (List ByteArray)} (h : OwnN B w v nss) (hb : ∀ j, B ≤ j → j < w.heap.size → (∃ t zs, BlkV w j t zs ∧ (t = 26 ∨ t = 9)) → w'.heap[j]? = w.heap[j]?) : OwnN B w' v nss := by
  obtain ⟨xs, h1, h2⟩ := h
  refine ⟨xs, ?_, fun i hi => ?_⟩
  · rcases h1 with h1 | ⟨g, e, hg, hblk, hn⟩
    · exact .inl h1
    · exact .inr ⟨g, e, hg, hblk.same (hb g hg hblk.lt ⟨_, _, hblk, .inl rfl⟩), hn⟩
  · obtain ⟨s, e1, e2⟩ := h2 i hi
    exact ⟨s, e1, e2.keep (fun j h1 h2 ⟨zs, hz⟩ => hb j h1 h2 ⟨_, zs, hz, .inr rfl⟩)⟩
theorem DBlk.ne {W : World} {D j : Nat} {x : DA} {t : TypeId} {zs : List Value} (h : DBlk W D x) (hz : BlkV W j t zs) (ht : t ≠ 35) : j ≠ D := by
  rintro rfl
  have hh : W.heap[j]? = _ := h
  have hh' : W.heap[j]? = some (.cells zs.toArray t (0, 0)) := hz
  rw [hh] at hh'
  injection hh' with hh'
  injection hh' with _ hh'
  exact ht hh'.symm
/-- Data that are gathered: a reader, their lists, their box. -/
structure CutS (Wb W : World) (g : Nat) (a : Option Addr) (len cap : Nat) (zs : List Int) (st : Option Nat) (D : Nat) (x : DA) (d : Dat) : Prop where
  rs : RS Wb W g a len cap zs st
  own : DOwn Wb.heap.size W x d
  blk : DBlk W D x
  low : Wb.heap.size ≤ D
theorem CutS.rd {Wb W W' : World} {g : Nat} {a : Option Addr} {len cap : Nat} {zs : List Int} {st st' : Option Nat} {D : Nat} {x : DA} {d : Dat} (h : CutS Wb W g a len cap zs st D x d) (h1 : RS Wb W' g a len cap zs st') (h2 : W.grownBy W' (some g)) : CutS Wb W' g a len cap zs st' D x d :=
  ⟨h1, h.own.keep (fun j hj hl => h2.block j hl (fun e => by have := h.rs.gl; have := Option.some.inj e; omega)), h.blk.call h2 (Nat.lt_of_lt_of_le h.rs.gl h.low), h.low⟩
theorem BOwn.keepD {B : Nat} {w w' : World} {s : Sl} {zs : List Int} {D : Nat} {x : DA} (h : BOwn B w s zs) (hD : DBlk w D x) (hb : ∀ j, j ≠ D → w'.heap[j]? = w.heap[j]?) : BOwn B w' s zs := by
  obtain ⟨ys, h1, h2⟩ := h
  refine ⟨ys, ?_, h2⟩
  rcases h1 with h1 | ⟨g, e1, e2, e3, e4⟩
  · exact .inl h1
  · refine .inr ⟨g, e1, e2, e3.same (hb g ?_), e4⟩
    rintro rfl
    have hh : w.heap[g]? = _ := hD
    have hh' := e3.1
    rw [hh] at hh'
    injection hh' with hh'
    injection hh' with _ hh'
    exact absurd hh' (by decide)
theorem CutS.raw {Wb W : World} {g : Nat} {a : Option Addr} {len cap : Nat} {zs : List Int} {st : Option Nat} {D : Nat} {x : DA} {d : Dat} (h : CutS Wb W g a len cap zs st D x d) {s : Sl} {ys : List Int} (hs : BOwn Wb.heap.size W s ys) : CutS Wb (W.setCell ⟨D, 3, none⟩ (.slice s.a s.n s.c)) g a len cap zs st D ⟨x.p1, x.p2, x.p3, s⟩ ⟨d.ns, d.us, d.ts, ys⟩ := by
  have e : ∀ j, j ≠ D → (W.setCell ⟨D, 3, none⟩ (.slice s.a s.n s.c)).heap[j]? = W.heap[j]? := fun j hj => Below.heap_setCell _ _ _ j hj
  have hg : W.grownBy (W.setCell ⟨D, 3, none⟩ (.slice s.a s.n s.c)) (some D) := ⟨rfl, rfl, rfl, by simp [World.setCell], fun j _ hne => e j (fun e => hne (by rw [e]))⟩
  obtain ⟨h1, ⟨h2, h3, h4, _⟩, hD, hl⟩ := h
  refine ⟨h1.app hg (by rintro j ⟨⟩; exact hl), ⟨h2.keepTy ?_, h3.keepTy ?_, h4.keep ?_, hs.keepD hD e⟩, hD.set3 s, hl⟩
  · rintro j _ _ ⟨t, zs, hz, ht⟩
    exact e j (hD.ne hz (by rcases ht with rfl | rfl <;> decide))
  · rintro j _ _ ⟨zs, hz⟩
    exact e j (hD.ne hz (by decide))
  · rintro j _ _ ⟨zs, hz⟩
    exact e j (hD.ne hz (by decide))
theorem DOwn.mono {B B' : Nat} {w : World} {x : DA} {d : Dat} (h : DOwn B w x d) (hB : B' ≤ B) : DOwn B' w x d := ⟨h.1.mono hB, h.2.1.mono hB, h.2.2.1.mono hB, h.2.2.2.mono hB⟩
end Go.Proofs.Ytgeoadkcmbageaa
namespace Go.Proofs.Ytgeoadkcmbageaa
open Go.ChangeShapes Go.WideShapes Go.ChangeAt Go.RowKit
set_option linter.unusedVariables false
set_option linter.unusedSimpArgs false
theorem DOwn.stays {B : Nat} {w w' : World} {x : DA} {d : Dat} (h : DOwn B w x d) (hb : Below w.heap.size w w') : DOwn B w' x d := h.keep fun j _ hj => hb.block j hj
end Go.Proofs.Ytgeoadkcmbageaa
namespace Go.Proofs.Ytgeoadkcmbageaa
open Go.ChangeShapes Go.WideShapes Go.ChangeAt Go.RowKit
set_option linter.unusedVariables false
set_option linter.unusedSimpArgs false
/-- The first k of the first n labels are folded. -/
def FoldSt (B : Nat) (w : World) (ao : Option Addr) (n c k : Nat) (ss : List ByteArray) : Prop :=
  ∃ zs, OwnT B w (.slice ao n c) n zs 1000000000000 ∧ zs.take n = (ss.take k).map fb ++ ss.drop k
theorem FoldSt.at {B : Nat} {w : World} {ao : Option Addr} {n c k : Nat} {ss : List ByteArray} (h : FoldSt B w ao n c k ss) (hl : ss.length = n) (hk : k < ss.length) : ∃ g, ao = some ⟨g, 0, none⟩ ∧ B ≤ g ∧ g < w.heap.size ∧ w.cell? ⟨g, k, none⟩ = some (.string ss[k]) ∧ w.frozen? ⟨g, k, none⟩ = false := by
  obtain ⟨zs, ⟨ho, hM⟩, ht⟩ := h
  rcases ho with ⟨h1, h2, h3⟩ | ⟨g, h1, h2, h3, h4, h5⟩
  · omega
  · have e : ao = some ⟨g, 0, none⟩ := by injection h1
    rw [tv_len] at h4
    have hz : k < zs.length := by omega
    refine ⟨g, e, h2, h3.lt, ?_, h3.frozen k⟩
    rw [h3.cell k (by rw [tv_len]; exact hz), tv_at]
    have : zs[k] = ss[k] := by
      have := congrArg (fun l => l[k]?) ht
      rw [List.getElem?_take, if_pos (by omega), List.getElem?_append_right (by simp; omega), List.getElem?_drop] at this
      simp only [List.length_map, List.length_take, show min k ss.length = k by omega, Nat.sub_self, Nat.add_zero] at this
      rw [List.getElem?_eq_getElem hz, List.getElem?_eq_getElem hk] at this
      exact Option.some.inj this
    rw [this]
theorem FoldSt.below {B : Nat} {w w' : World} {ao : Option Addr} {n c k : Nat} {ss : List ByteArray} (h : FoldSt B w ao n c k ss) (hb : Below w.heap.size w w') : FoldSt B w' ao n c k ss := by
  obtain ⟨zs, h1, h2⟩ := h
  exact ⟨zs, h1.below hb, h2⟩
theorem FoldSt.set {B : Nat} {w : World} {g n c k : Nat} {ss : List ByteArray} (h : FoldSt B w (some ⟨g, 0, none⟩) n c k ss) (hl : ss.length = n) (hk : k < ss.length) (hs : (fb ss[k]).size ≤ 1000000000000) : FoldSt B (w.setCell ⟨g, k, none⟩ (.string (fb ss[k]))) (some ⟨g, 0, none⟩) n c (k + 1) ss := by
  obtain ⟨zs, ⟨ho, hM⟩, ht⟩ := h
  rcases ho with ⟨h1, h2, h3⟩ | ⟨g', h1, h2, h3, h4, h5⟩
  · omega
  · have e : g = g' ∧ c = (tv zs).length := by
      injection h1 with h1 _ hcc
      injection h1 with h1
      injection h1 with h1
      exact ⟨h1, hcc⟩
    obtain ⟨rfl, hc⟩ := e
    rw [tv_len] at h4 hc
    have hz : k < zs.length := by omega
    refine ⟨zs.set k (fb ss[k]), ⟨.inr ⟨g, ?_, h2, ?_, ?_, ?_⟩, ?_⟩, ?_⟩
    · rw [tv_len, List.length_set, hc]
    · have := h3.stored k (.string (fb ss[k]))
      have e : (tv zs).set k (.string (fb ss[k])) = tv (zs.set k (fb ss[k])) := by simp [tv, List.map_set]
      rw [e] at this
      exact this
    · rw [tv_len, List.length_set]; exact h4
    · rw [tv_len, List.length_set]; rw [tv_len] at h5; exact h5
    · intro s hs'
      rcases List.mem_or_eq_of_mem_set hs' with h | h
      · exact hM s h
      · rw [h]; exact hs
    · rw [List.take_set, ht, take_snocT ss k hk, List.map_append, List.map_singleton, List.drop_eq_getElem_cons hk, List.set_append_right _ _ (by simp; omega)]
      simp only [List.length_map, List.length_take, show min k ss.length = k by omega, Nat.sub_self, List.set_cons_zero, List.append_assoc, List.singleton_append]
end Go.Proofs.Ytgeoadkcmbageaa
namespace Go.Proofs.Ytgeoadkcmbageaa
open Go.ChangeShapes Go.WideShapes Go.ChangeAt Go.RowKit
set_option linter.unusedVariables false
set_option linter.unusedSimpArgs false
/-- Copied, with some of the names. -/
structure CpN (W1 W : World) (D : Nat) (x : DA) (d : Dat) : Prop where
  own : DOwn W1.heap.size W x d
  blk : DBlk W D x
  bel : Below W1.heap.size W1 W
  low : W1.heap.size ≤ D
theorem CpN.go {W1 W W' : World} {D : Nat} {x : DA} {d : Dat} (h : CpN W1 W D x d) (hb : Below W.heap.size W W') : CpN W1 W' D x d := ⟨h.own.stays hb, h.blk.same (hb.block D h.blk.lt), h.bel.trans (hb.mono h.bel.size), h.low⟩
end Go.Proofs.Ytgeoadkcmbageaa
namespace Go.Proofs.Ytgeoadkcmbageaa
open Go.ChangeShapes Go.WideShapes Go.ChangeAt Go.RowKit
set_option linter.unusedVariables false
set_option linter.unusedSimpArgs false
/-- A name of one's own. -/
def Owx1 (B : Nat) (w : World) (s : Sl) (nm : List ByteArray) : Prop := ∃ ys, OwnT B w (.slice s.a s.n s.c) nm.length ys 9223372036854775807 ∧ ys.take nm.length = nm
theorem Owx1.keep {B : Nat} {w w' : World} {s : Sl} {nm : List ByteArray} (h : Owx1 B w s nm) (hb : ∀ j, B ≤ j → j < w.heap.size → (∃ zs, BlkV w j 9 zs) → w'.heap[j]? = w.heap[j]?) : Owx1 B w' s nm := by
  obtain ⟨ys, ⟨h1, h2⟩, h3⟩ := h
  refine ⟨ys, ⟨?_, h2⟩, h3⟩
  rcases h1 with h1 | ⟨g, e, hg, hblk, hn⟩
  · exact .inl h1
  · exact .inr ⟨g, e, hg, hblk.same (hb g hg hblk.lt ⟨_, hblk⟩), hn⟩
theorem Owx1.rd {B : Nat} {w : World} {s : Sl} {nm : List ByteArray} (h : Owx1 B w s nm) : TRd w s nm := by
  obtain ⟨ys, h1, h3⟩ := h
  obtain ⟨ao, e, hnil⟩ := h1.shape
  have hle := h1.le
  obtain ⟨sa, sn, sc⟩ := s
  simp only at e h1
  injection e with e1 e2 e3
  subst e1 e2 e3
  have hrd := h1.rd nm.length
  rw [h3] at hrd
  refine ⟨hrd, rfl, ⟨hle.1, by have := hle.2; simp only [maxLen] at this; exact this⟩, hnil, fun x hx => ?_⟩
  have : x ∈ ys := by rw [← h3] at hx; exact List.mem_of_mem_take hx
  have := h1.2 x this
  omega
/-- A list of names of one's own, from the block B on. -/
def OwxN (B : Nat) (w : World) (v : Value) (nss : List (List ByteArray)) : Prop :=
  ∃ xs, OwnV B w 26 v nss.length xs ∧ ∀ i (hi : i < nss.length), ∃ s : Sl, xs[i]? = some (.slice s.a s.n s.c) ∧ Owx1 B w s nss[i]
theorem OwxN.nil (B : Nat) (w : World) : OwxN B w (.slice none 0 0) [] := ⟨[], OwnV.nil B w 26, fun i hi => absurd hi (by simp)⟩
theorem OwxN.keep {B : Nat} {w w' : World} {v : Value} {nss : List (List ByteArray)} (h : OwxN B w v nss) (hb : ∀ j, B ≤ j → j < w.heap.size → w'.heap[j]? = w.heap[j]?) : OwxN B w' v nss := by
  obtain ⟨xs, h1, h2⟩ := h
  refine ⟨xs, h1.keep (fun j e hj => hb j (h1.lt j e) hj), fun i hi => ?_⟩
  obtain ⟨s, e1, e2⟩ := h2 i hi
  exact ⟨s, e1, e2.keep (fun j h1 h2 _ => hb j h1 h2)⟩
theorem OwxN.shape {B : Nat} {w : World} {v : Value} {nss : List (List ByteArray)} (h : OwxN B w v nss) : ∃ s : Sl, v = .slice s.a s.n s.c := by
  obtain ⟨xs, h1, _⟩ := h
  obtain ⟨ao, rfl, _⟩ := h1.shape
  exact ⟨⟨ao, nss.length, xs.length⟩, rfl⟩
theorem OwxN.rd {B : Nat} {w : World} {s : Sl} {nss : List (List ByteArray)} (h : OwxN B w (.slice s.a s.n s.c) nss) : NRd w s nss := by
  obtain ⟨a, n, c⟩ := s
  obtain ⟨xs, h1, h2⟩ := h
  rcases h1 with ⟨e, e0, rfl⟩ | ⟨g, e, hg, hblk, hn, hm⟩
  · injection e with e1 e2 e3
    simp only at e1 e2 e3
    subst e1 e2 e3
    exact ⟨.inl (List.eq_nil_of_length_eq_zero e0), e0, ⟨Nat.le_refl _, Nat.zero_le _⟩, fun _ => rfl⟩
  · injection e with e1 e2 e3
    simp only at e1 e2 e3
    subst e1 e2 e3
    refine ⟨.inr ⟨g, 0, rfl, hblk.lt, fun i hi => ?_⟩, rfl, ⟨hn, by simp only [maxLen] at hm; exact hm⟩, by simp⟩
    obtain ⟨s, e1, e2⟩ := h2 i hi
    refine ⟨s, ?_, e2.rd⟩
    rw [Nat.zero_add, hblk.cell i (by omega)]
    rw [List.getElem?_eq_getElem (by omega)] at e1
    exact e1
/-- Data of one's own. -/
def DOwx (B : Nat) (w : World) (x : DA) (d : Dat) : Prop := OwxN B w (.slice x.p1.a x.p1.n x.p1.c) d.ns ∧ UOwn B w x.p2 d.us ∧ Owx1 B w x.p3 d.ts ∧ BOwn B w x.p4 d.raw
theorem DOwx.keep {B : Nat} {w w' : World} {x : DA} {d : Dat} (h : DOwx B w x d) (hb : ∀ j, B ≤ j → j < w.heap.size → w'.heap[j]? = w.heap[j]?) : DOwx B w' x d :=
  ⟨h.1.keep hb, h.2.1.keep hb, h.2.2.1.keep (fun j h1 h2 _ => hb j h1 h2), h.2.2.2.keep hb⟩
theorem DOwx.rd {B : Nat} {w : World} {x : DA} {d : Dat} (h : DOwx B w x d) : DRd w x d := ⟨h.1.rd, h.2.1.rd, h.2.2.1.rd, h.2.2.2.rd⟩
theorem OwxN.kept {B g : Nat} {w w' : World} {v : Value} {nss : List (List ByteArray)} (h : OwxN B w v nss) (hg : w.grownBy w' (some g)) (hB : g < B) : OwxN B w' v nss := h.keep fun j h1 h2 => hg.block j h2 (fun e => by cases e; omega)
theorem OwxN.stays {B : Nat} {w w' : World} {v : Value} {nss : List (List ByteArray)} (h : OwxN B w v nss) (hb : Below w.heap.size w w') : OwxN B w' v nss := h.keep fun j _ h2 => hb.block j h2
theorem Owx1.stays {B : Nat} {w w' : World} {s : Sl} {nm : List ByteArray} (h : Owx1 B w s nm) (hb : Below w.heap.size w w') : Owx1 B w' s nm := h.keep fun j _ h2 _ => hb.block j h2
theorem Owx1.kept {B g : Nat} {w w' : World} {s : Sl} {nm : List ByteArray} (h : Owx1 B w s nm) (hg : w.grownBy w' (some g)) (hB : g < B) : Owx1 B w' s nm := h.keep fun j h1 h2 _ => hg.block j h2 (fun e => by cases e; omega)
theorem Owx1.mono {B B' : Nat} {w : World} {s : Sl} {nm : List ByteArray} (h : Owx1 B w s nm) (hB : B' ≤ B) : Owx1 B' w s nm := by
  obtain ⟨ys, h1, h2⟩ := h
  exact ⟨ys, h1.mono hB, h2⟩
theorem Owx1.n {B : Nat} {w : World} {s : Sl} {nm : List ByteArray} (h : Owx1 B w s nm) : s.n = nm.length := h.rd.len.symm
theorem OwxN.mono {B B' : Nat} {w : World} {v : Value} {nss : List (List ByteArray)} (h : OwxN B w v nss) (hB : B' ≤ B) : OwxN B' w v nss := by
  obtain ⟨xs, h1, h2⟩ := h
  refine ⟨xs, h1.mono hB, fun i hi => ?_⟩
  obtain ⟨s, e1, e2⟩ := h2 i hi
  exact ⟨s, e1, e2.mono hB⟩
theorem OwxN.keepTy {B : Nat} {w w' : World} {v : Value} {nss : List (List ByteArray)} (h : OwxN B w v nss) (hb : ∀ j, B ≤ j → j < w.heap.size → (∃ t zs, BlkV w j t zs ∧ (t = 26 ∨ t = 9)) → w'.heap[j]? = w.heap[j]?) : OwxN B w' v nss := by
  obtain ⟨xs, h1, h2⟩ := h
  refine ⟨xs, ?_, fun i hi => ?_⟩
  · rcases h1 with h1 | ⟨g, e, hg, hblk, hn⟩
    · exact .inl h1
    · exact .inr ⟨g, e, hg, hblk.same (hb g hg hblk.lt ⟨_, _, hblk, .inl rfl⟩), hn⟩
  · obtain ⟨s, e1, e2⟩ := h2 i hi
    exact ⟨s, e1, e2.keep (fun j h1 h2 ⟨zs, hz⟩ => hb j h1 h2 ⟨_, zs, hz, .inr rfl⟩)⟩
theorem DOwx.mono {B B' : Nat} {w : World} {x : DA} {d : Dat} (h : DOwx B w x d) (hB : B' ≤ B) : DOwx B' w x d := ⟨h.1.mono hB, h.2.1.mono hB, h.2.2.1.mono hB, h.2.2.2.mono hB⟩
theorem DOwx.stays {B : Nat} {w w' : World} {x : DA} {d : Dat} (h : DOwx B w x d) (hb : Below w.heap.size w w') : DOwx B w' x d := h.keep fun j _ hj => hb.block j hj
/-- Copied, with some of the names. -/
structure CqN (W1 W : World) (D : Nat) (x : DA) (d : Dat) : Prop where
  own : DOwx W1.heap.size W x d
  blk : DBlk W D x
  bel : Below W1.heap.size W1 W
  low : W1.heap.size ≤ D
theorem CqN.go {W1 W W' : World} {D : Nat} {x : DA} {d : Dat} (h : CqN W1 W D x d) (hb : Below W.heap.size W W') : CqN W1 W' D x d := ⟨h.own.stays hb, h.blk.same (hb.block D h.blk.lt), h.bel.trans (hb.mono h.bel.size), h.low⟩
end Go.Proofs.Ytgeoadkcmbageaa
namespace Go.Proofs.Ytgeoadkcmbageaa
open Go.ChangeShapes Go.WideShapes Go.ChangeAt Go.RowKit
set_option linter.unusedVariables false
set_option linter.unusedSimpArgs false
/-- What the reach alone says of data. -/
structure Wb (d : Dat) : Prop where
  nn : d.ns.length ≤ 5860000000000
  nl : ∀ x ∈ d.ns, x.length ≤ 8796093022000
  un : d.us.length ≤ 35184372088832
  tn : d.ts.length ≤ 8796093022000
  tz : ∀ x ∈ d.ts, x.size ≤ 140737488355328
  r : d.raw.length ≤ 140737488355328
end Go.Proofs.Ytgeoadkcmbageaa
namespace Go.Proofs.Ytgeoadkcmbageaa
open Go.ChangeShapes Go.WideShapes Go.ChangeAt Go.RowKit
set_option linter.unusedVariables false
set_option linter.unusedSimpArgs false
theorem ownsRow_stays {B e k n : Nat} {v : Value} {xs : List Value} {w w' : World} (h : w.ownsRow B e k v n xs) (hb : Below w.heap.size w w') : w'.ownsRow B e k v n xs :=
  h.kept (row := none) ⟨hb.os, hb.tape, hb.output, hb.size, fun j hj _ => hb.block j hj⟩ (by cases v.ownBlock with | none => exact .inl rfl | some j => exact .inr (by simp))
theorem ownsRow_low {B B' e k n : Nat} {v : Value} {xs : List Value} {w : World} (h : w.ownsRow B e k v n xs) (hB : B' ≤ B) : w.ownsRow B' e k v n xs :=
  ⟨h.1, h.2.elim .inl (fun ⟨g, cap, cur, e, hb, r⟩ => .inr ⟨g, cap, cur, e, Nat.le_trans hB hb, r⟩)⟩
/-- A record. -/
structure Rec where
  ow : List ByteArray
  t : Nat
  cl : Nat
  tt : Nat
  d : Dat
/-- Where a record's lists are. -/
structure RA where
  o : Sl
  d : DA
def recCells (x : RA) (r : Rec) : List Value := [.slice x.o.a x.o.n x.o.c, .int .u16 r.t, .int .u16 r.cl, .int .u32 r.tt, .slice x.d.p1.a x.d.p1.n x.d.p1.c, .slice x.d.p2.a x.d.p2.n x.d.p2.c, .slice x.d.p3.a x.d.p3.n x.d.p3.c, .slice x.d.p4.a x.d.p4.n x.d.p4.c]
def cellsR (ps : List (RA × Rec)) : List Value := ps.flatMap fun p => recCells p.1 p.2
theorem cellsR_at (ps : List (RA × Rec)) (k : Nat) (h : k < ps.length) (j : Nat) (hj : j < 8) : (cellsR ps)[k * 8 + j]? = (recCells ps[k].1 ps[k].2)[j]? := by
  induction ps generalizing k with
  | nil => simp at h
  | cons p ws ih =>
    have hc : cellsR (p :: ws) = recCells p.1 p.2 ++ cellsR ws := by simp [cellsR]
    have h8 : (recCells p.1 p.2).length = 8 := rfl
    rw [hc]
    cases k with
    | zero => rw [List.getElem?_append_left (by rw [h8]; omega)]; simp
    | succ k =>
      have := ih k (by simpa using h)
      rw [List.getElem?_append_right (by rw [h8]; omega), h8, show (k + 1) * 8 + j - 8 = k * 8 + j by omega, this]
      simp
theorem cellsR_app (a b : List (RA × Rec)) : cellsR (a ++ b) = cellsR a ++ cellsR b := by simp [cellsR]
def RRd (w : World) (x : RA) (r : Rec) : Prop := TRd w x.o r.ow ∧ DRd w x.d r.d
theorem RRd.below {w w' : World} {x : RA} {r : Rec} (h : RRd w x r) (hb : Below w.heap.size w w') : RRd w' x r := ⟨h.1.below hb, h.2.below hb⟩
def ROwx (B : Nat) (w : World) (x : RA) (r : Rec) : Prop := Owx1 B w x.o r.ow ∧ DOwx B w x.d r.d
/-- A list of records that can be read: eight cells each. -/
def RdR (w : World) (a : Option Addr) (rs : List Rec) : Prop :=
  rs = [] ∨ ∃ b o, a = some ⟨b, o, none⟩ ∧ b < w.heap.size ∧ ∀ i (h : i < rs.length), ∃ x : RA, (∀ j (hj : j < 8), w.cell? ⟨b, o + i * 8 + j, none⟩ = (recCells x rs[i])[j]?) ∧ RRd w x rs[i]
theorem RdR.below {w w' : World} {a : Option Addr} {rs : List Rec} (h : RdR w a rs) (hb : Below w.heap.size w w') : RdR w' a rs := by
  rcases h with h | ⟨b, o, h1, h2, h3⟩
  · exact .inl h
  · refine .inr ⟨b, o, h1, Nat.lt_of_lt_of_le h2 hb.size, fun i hi => ?_⟩
    obtain ⟨x, e1, e5⟩ := h3 i hi
    exact ⟨x, fun j hj => (hb.cell (p := ⟨b, o + i * 8 + j, none⟩) h2).trans (e1 j hj), e5.below hb⟩
theorem RdR.at {w : World} {a : Option Addr} {rs : List Rec} (h : RdR w a rs) (i : Nat) (hi : i < rs.length) : ∃ b o, a = some ⟨b, o, none⟩ ∧ b < w.heap.size ∧ ∃ x : RA, (∀ j (hj : j < 8), w.cell? ⟨b, o + i * 8 + j, none⟩ = (recCells x rs[i])[j]?) ∧ RRd w x rs[i] := by
  rcases h with h | ⟨b, o, h1, h2, h3⟩
  · subst h; simp at hi
  · exact ⟨b, o, h1, h2, h3 i hi⟩
/-- A record that can be read as long as no other block than one is written. -/
def RfR (B : Nat) (w : World) (g : Option Nat) (x : RA) (r : Rec) : Prop :=
  ∀ w' : World, w.heap.size ≤ w'.heap.size → (∀ j, j < w.heap.size → B ≤ j → some j ≠ g → w'.heap[j]? = w.heap[j]?) → RRd w' x r
theorem RfR.of {B B' : Nat} {w : World} {g : Option Nat} {x : RA} {r : Rec} (h : ROwx B' w x r) (hB : B ≤ B') (hg : ∀ k, g = some k → k < B') : RfR B w g x r := by
  intro w' hs hb
  have hk : ∀ j, B' ≤ j → j < w.heap.size → w'.heap[j]? = w.heap[j]? := fun j h1 h2 => hb j h2 (by omega) (fun e => by have := hg j e.symm; omega)
  exact ⟨(h.1.keep (fun j h1 h2 _ => hk j h1 h2)).rd, (h.2.keep hk).rd⟩
theorem RfR.go {B : Nat} {w w' : World} {g g' : Option Nat} {x : RA} {r : Rec} (h : RfR B w g x r) (hs : w.heap.size ≤ w'.heap.size) (hb : ∀ j, j < w.heap.size → B ≤ j → some j ≠ g → w'.heap[j]? = w.heap[j]?) (hg : ∀ j, j < w.heap.size → some j ≠ g → some j ≠ g') : RfR B w' g' x r := by
  intro w2 hs2 hb2
  exact h w2 (Nat.le_trans hs hs2) (fun j h1 h2 h3 => (hb2 j (by omega) h2 (hg j h1 h3)).trans (hb j h1 h2 h3))
/-- A list of records of one's own. -/
def OwR (B : Nat) (w : World) (v : Value) (rs : List Rec) : Prop :=
  ∃ ps : List (RA × Rec), ps.map (·.2) = rs ∧ w.ownsRow B 37 8 v ps.length (cellsR ps) ∧ ∀ p ∈ ps, RfR B w v.ownBlock p.1 p.2
theorem OwR.stays {B : Nat} {w w' : World} {v : Value} {rs : List Rec} (h : OwR B w v rs) (hb : Below w.heap.size w w') : OwR B w' v rs := by
  obtain ⟨ps, h1, h2, h3⟩ := h
  exact ⟨ps, h1, ownsRow_stays h2 hb, fun p hp => (h3 p hp).go hb.size (fun j hj _ _ => hb.block j hj) (fun j _ h => h)⟩
theorem OwR.mono {B B' : Nat} {w : World} {v : Value} {rs : List Rec} (h : OwR B w v rs) (hB : B' ≤ B) : OwR B' w v rs := by
  obtain ⟨ps, h1, h2, h3⟩ := h
  exact ⟨ps, h1, ownsRow_low h2 hB, fun p hp w' hs hb => h3 p hp w' hs (fun j e1 e2 e3 => hb j e1 (by omega) e3)⟩
theorem OwR.rd {B : Nat} {w : World} {v : Value} {rs : List Rec} (h : OwR B w v rs) : ∃ a c, v = .slice a rs.length c ∧ RdR w a rs ∧ rs.length ≤ c ∧ c ≤ 9223372036854775807 ∧ (a = none → c = 0) := by
  obtain ⟨ps, rfl, h2, h3⟩ := h
  have hpl : (ps.map (·.2)).length = ps.length := by simp
  rw [hpl]
  rcases h2.2 with ⟨rfl, h0⟩ | ⟨g, cap, cur, rfl, hb, hg, k1, k2, k3, k4⟩
  · have : ps = [] := List.length_eq_zero_iff.1 h0
    subst this
    exact ⟨none, 0, rfl, .inl rfl, by simp, by omega, fun _ => rfl⟩
  · refine ⟨_, cap, rfl, .inr ⟨g, 0, rfl, (Array.getElem?_eq_some_iff.1 hg).1, fun i hi => ?_⟩, k1, by simpa only [maxLen] using k2, by simp⟩
    have hi' : i < ps.length := by simpa using hi
    have ad : ∀ j, (⟨g, 0, none⟩ : Addr).add j = ⟨g, 0 + j, none⟩ := fun j => by unfold Addr.add; split <;> simp_all
    have hgi : (ps.map (·.2))[i] = ps[i].2 := by simp
    refine ⟨ps[i].1, fun j hj => ?_, ?_⟩
    · rw [hgi]
      have e1 := cellsR_at ps i hi' j hj
      have hlt : j < (recCells ps[i].1 ps[i].2).length := hj
      rw [List.getElem?_eq_getElem hlt] at e1 ⊢
      have := h2.cells (g := g) rfl _ _ e1
      rw [ad] at this
      rw [Nat.add_assoc]; exact this
    · rw [hgi]
      exact h3 ps[i] (List.getElem_mem _) w (Nat.le_refl _) (fun _ _ _ _ => rfl)
/-- One more behind a list of records. -/
theorem OwR.push {B : Nat} {wr w2 w3 w4 : World} {v v' : Value} {ps : List (RA × Rec)} {y : RA} {r : Rec} (h3 : ∀ p ∈ ps, RfR B wr v.ownBlock p.1 p.2) (hl : wr.ownsRow B 37 8 v ps.length (cellsR ps)) (hB : B ≤ wr.heap.size) (hy : ROwx wr.heap.size w2 y r) (hb3 : Below w2.heap.size w2 w3) (hb2 : Below wr.heap.size wr w2) (h5 : w4.ownsRow B 37 8 v' (ps.length + 1) (cellsR ps ++ cellsR [(y, r)])) (h6 : w3.grownBy w4 v.ownBlock) (h7 : v'.ownBlock = v.ownBlock ∨ v'.ownBlock = some w3.heap.size) : OwR B w4 v' (ps.map (·.2) ++ [r]) := by
  refine ⟨ps ++ [(y, r)], by simp, ?_, ?_⟩
  · rw [cellsR_app, List.length_append]; exact h5
  · have s2 := hb2.size
    have s3 := hb3.size
    have s4 := h6.size
    have hlt := hl.lt
    intro p hp
    rcases List.mem_append.1 hp with hp | hp
    · refine (h3 p hp).go (by omega) (fun j e1 e2 e3 => ?_) (fun j e1 e2 => ?_)
      · rw [h6.block j (by omega) e3, hb3.block j (by omega), hb2.block j e1]
      · rcases h7 with h7 | h7
        · rw [h7]; exact e2
        · rw [h7]; intro e; injection e with e; omega
    · rw [List.mem_singleton] at hp
      subst hp
      have := RfR.of (g := v.ownBlock) hy hB (fun k e => (hlt k e).2)
      refine this.go (by omega) (fun j e1 e2 e3 => ?_) (fun j e1 e2 => ?_)
      · rw [h6.block j (by omega) e3, hb3.block j (by omega)]
      · rcases h7 with h7 | h7
        · rw [h7]; exact e2
        · rw [h7]; intro e; injection e with e; omega
end Go.Proofs.Ytgeoadkcmbageaa
namespace Go.Proofs.Ytgeoadkcmbageaa
open Go.ChangeShapes Go.WideShapes Go.ChangeAt Go.RowKit
set_option linter.unusedVariables false
set_option linter.unusedSimpArgs false
theorem inf33 : ∃ i, Try.prog.info? 33 = some i ∧ i.zero = some (.slice none 0 0) ∧ i.size = 1 ∧ i.bytes = 24 := by
  obtain ⟨i, h1, h2⟩ := Option.map_eq_some_iff.1 (show (Try.prog.info? 33).map (fun i => (i.zero, i.size, i.bytes)) = some (some (.slice none 0 0), 1, 24) by kernel_rfl)
  simp only [Prod.mk.injEq] at h2
  exact ⟨i, h1, h2.1, h2.2.1, h2.2.2⟩
/-- A piece that can be read, and does not lie in a block. -/
def PcX (w : World) (g : Option Nat) (p : Piece) : Prop := Rd w p.1 p.2.2 ∧ (p.1 = none → p.2.1 = 0) ∧ (p.2.2 = [] ∨ ∃ b o, p.1 = some ⟨b, o, none⟩ ∧ b < w.heap.size ∧ some b ≠ g)
theorem PcX.go {w w' : World} {g g' : Option Nat} {p : Piece} (h : PcX w g p) (hg : w.grownBy w' g) (h' : ∀ b, b < w.heap.size → some b ≠ g → some b ≠ g') : PcX w' g' p := by
  obtain ⟨⟨h1, h1b⟩, h2, h3⟩ := h
  rcases h3 with h3 | ⟨b, o, e1, e2, e3⟩
  · exact ⟨⟨.inl h3, h1b⟩, h2, .inl h3⟩
  · refine ⟨⟨?_, h1b⟩, h2, .inr ⟨b, o, e1, Nat.lt_of_lt_of_le e2 hg.size, h' b e2 e3⟩⟩
    rcases h1 with h1 | ⟨b', o', g1, g2, g3⟩
    · exact .inl h1
    · rw [e1] at g1
      cases g1
      refine .inr ⟨b, o, e1, Nat.lt_of_lt_of_le e2 hg.size, fun i hi => ?_⟩
      rw [← g3 i hi]
      have := hg.block b e2 e3
      simp only [World.cell?, this]
/-- A list of pieces of one's own. -/
def PcO (B : Nat) (w : World) (v : Value) (ps : List Piece) : Prop := w.ownsRow B 33 1 v ps.length (ps.map pcV) ∧ ∀ p ∈ ps, PcX w v.ownBlock p
theorem PcO.nil (B : Nat) (w : World) : PcO B w (.slice none 0 0) [] := ⟨⟨rfl, .inl ⟨rfl, rfl⟩⟩, by simp⟩
theorem PcO.push {B : Nat} {w w' : World} {v v' : Value} {ps qs : List Piece} (h : ∀ p ∈ ps, PcX w v.ownBlock p) (hq : ∀ p ∈ qs, PcX w v.ownBlock p) (h5 : w'.ownsRow B 33 1 v' (ps.length + qs.length) (ps.map pcV ++ qs.map pcV)) (h6 : w.grownBy w' v.ownBlock) (h7 : v'.ownBlock = v.ownBlock ∨ v'.ownBlock = some w.heap.size) : PcO B w' v' (ps ++ qs) := by
  refine ⟨by rw [List.map_append, List.length_append]; exact h5, fun p hp => ?_⟩
  have hx : PcX w v.ownBlock p := by
    rcases List.mem_append.1 hp with hp | hp
    · exact h p hp
    · exact hq p hp
  refine hx.go h6 (fun b hb hne => ?_)
  rcases h7 with h7 | h7
  · rw [h7]; exact hne
  · rw [h7]; intro e; injection e with e; omega
theorem three_new (w : World) (a b c : Value) (t : TypeId) : ∀ j u, [a, b, c][j]? = some u → (w.alloc (.cells #[a, b, c] t)).cell? ((⟨w.heap.size, 0, none⟩ : Addr).add j) = some u := by
  intro j u hu
  have ad : (⟨w.heap.size, 0, none⟩ : Addr).add j = ⟨w.heap.size, j, none⟩ := by unfold Addr.add; split <;> simp_all
  rw [ad]
  refine box_cell (heap_alloc_new w _) j u ?_
  simpa using hu
theorem PcO.rd {B : Nat} {w : World} {v : Value} {ps : List Piece} (h : PcO B w v ps) : ∃ a c, v = .slice a ps.length c ∧ PcR w a ps ∧ ps.length ≤ c := by
  obtain ⟨h2, h3⟩ := h
  have hx : ∀ p ∈ ps, Rd w p.1 p.2.2 ∧ (p.1 = none → p.2.1 = 0) := fun p hp => ⟨(h3 p hp).1, (h3 p hp).2.1⟩
  rcases h2.2 with ⟨rfl, h0⟩ | ⟨g, cap, cur, rfl, hb, hg, k1, k2, k3, k4⟩
  · have : ps = [] := List.length_eq_zero_iff.1 h0
    subst this
    exact ⟨none, 0, rfl, ⟨.inl rfl, hx⟩, by simp⟩
  · refine ⟨_, cap, rfl, ⟨.inr ⟨g, 0, rfl, (Array.getElem?_eq_some_iff.1 hg).1, fun i hi => ?_⟩, hx⟩, k1⟩
    have hi' : i < ps.length := by simpa using hi
    have ad : ∀ j, (⟨g, 0, none⟩ : Addr).add j = ⟨g, 0 + j, none⟩ := fun j => by unfold Addr.add; split <;> simp_all
    have := h2.cells (g := g) rfl i _ (List.getElem?_eq_getElem hi)
    rw [ad] at this
    exact this
theorem w16_blk (n : Nat) (h : n ≤ 65535) (w : World) : Blk (w.alloc (.cells #[.int .u8 ((n : Int) / 256), .int .u8 ((n : Int) % 256)] 5)) w.heap.size (w16 n) := by
  refine ⟨?_, ?_⟩
  · rw [heap_alloc_new]
    have e1 : ((n : Int) / 256) = ((n / 256 % 256 : Nat) : Int) := by omega
    have e2 : ((n : Int) % 256) = ((n % 256 : Nat) : Int) := by omega
    rw [e1, e2]
    rfl
  · intro z hz
    simp only [w16, List.mem_cons, List.not_mem_nil, or_false] at hz
    rcases hz with rfl | rfl <;> omega
theorem put16x (n : Nat) (h : n ≤ 65535) (w : World) : Calls Try.prog 61 #[.int .i64 (n : Int)] w fun e w' => ∃ g, e = .returned (.tuple #[.slice (some ⟨g, 0, none⟩) 2 2, .int .i64 0]) ∧ Hid (g = w.heap.size ∧ Blk w' g (w16 n) ∧ Below w.heap.size w w') := by
  refine (put16_yes (n : Int) w (by omega) (by omega)).mono ?_
  rintro e w' ⟨rfl, rfl⟩
  exact ⟨_, rfl, rfl, w16_blk n h w, newE_below _ _⟩
theorem Blk.pcx {w : World} {g : Nat} {zs : List Int} (h : Blk w g zs) {q : Option Nat} (c : Nat) (hq : some g ≠ q) : PcX w q (some ⟨g, 0, none⟩, c, zs) := by
  refine ⟨⟨.inr ⟨g, 0, rfl, h.lt, fun i hi => by rw [Nat.zero_add]; exact h.cell i hi⟩, h.2⟩, by simp, .inr ⟨g, 0, rfl, h.lt, hq⟩⟩
theorem BRd.pcx {w w' : World} {x : Sl} {zs : List Int} (h : BRd w x zs) {q : Option Nat} (hb : Below w.heap.size w w') (hq : ∀ g, q = some g → w.heap.size ≤ g) : PcX w' q (x.a, x.c, zs) := by
  refine ⟨h.rd.below hb, h.nil, ?_⟩
  rcases h.rd.1 with h1 | ⟨b, o, h1, h2, _⟩
  · exact .inl h1
  · exact .inr ⟨b, o, h1, Nat.lt_of_lt_of_le h2 hb.size, fun e => by have := hq b e.symm; omega⟩
theorem PcX.stay {w w' : World} {g : Option Nat} {p : Piece} (h : PcX w g p) (hb : Below w.heap.size w w') : PcX w' g p := h.go ⟨hb.os, hb.tape, hb.output, hb.size, fun k hk _ => hb.block k hk⟩ (fun _ _ h => h)
set_option maxRecDepth 100000 in
set_option maxHeartbeats 1000000 in
theorem written38 (s : Sl) (os : List Opt) (w : World) (h : OsRd w s os) (hf : (obs os).length ≤ 65535) : Calls Try.prog 38 #[(.slice s.a s.n s.c)] w fun e w' => ∃ g, e = .returned (.slice (some ⟨g, 0, none⟩) (obs os).length (obs os).length) ∧ Hid (w.heap.size ≤ g ∧ Blk w' g (obs os) ∧ Below w.heap.size w w') := by
  have HO : Hid (OsRd w s os) := h
  have HF : Hid ((obs os).length ≤ 65535) := hf
  have hln := h.len
  have hcap := h.cap
  have hmany : 4 * os.length ≤ 65535 := by
    have : ∀ l : List Opt, 4 * l.length ≤ (obs l).length := by
      intro l
      induction l with
      | nil => simp [obs]
      | cons o l ih => simp only [obs, List.length_append, ob_len, List.length_cons]; omega
    have := this os
    omega
  clear h hf
  obtain ⟨sa, N, sc⟩ := s
  simp only at *
  obtain ⟨T, hT⟩ : ∃ T, T = (obs os).length := ⟨_, rfl⟩
  have HT : Hid (T = (obs os).length) := hT
  rw [← hT]
  clear hT
  obtain ⟨i33, hi, hz0, hz1, hz2⟩ := inf33
  have HI : Hid (Try.prog.info? 33 = some i33 ∧ i33.zero = some (.slice none 0 0) ∧ i33.size = 1 ∧ i33.bytes = 24) := ⟨hi, hz0, hz1, hz2⟩
  clear hi hz0 hz1 hz2
  go_enter Try.func38, Try.ntmps38
  go_wp2_with fail
  go_loopw [3, 12] (fun v x wr => ∃ k : Nat, k ≤ N ∧ x = .int .i64 k ∧ Hid (∃ ps, PcO w.heap.size wr v ps ∧ ps.length = 3 * k ∧ ps.flatMap (·.2.2) = obs (os.take k)) ∧ Hid (Below w.heap.size w wr)) (fun _ x _ => N - (intOf x).toNat)
  case atStart => exact ⟨0, Nat.zero_le _, rfl, ⟨[], PcO.nil _ _, rfl, rfl⟩, Below.refl _ _⟩
  case round =>
    obtain ⟨k, hk, rfl, HW, HB⟩ := hrel
    by_cases hlt : k < N
    · have hlt' : (k : Int) < (N : Int) := by omega
      have hke : k < os.length := by omega
      obtain ⟨b, o, e1, e2, x, e3, e4, e5⟩ := HO.out.at k hke
      have c3 := (HB.out.cell (p := ⟨b, o + k * 2, none⟩) e2).trans e3
      have c4 := (HB.out.cell (p := ⟨b, o + k * 2 + 1, none⟩) e2).trans e4
      have hbr : b < wr.heap.size := Nat.lt_of_lt_of_le e2 HB.out.size
      have HX : Hid (BRd w x os[k].d) := e5
      have hxl := e5.len
      have hcd : os[k].cd < 65536 := HO.out.cds _ (List.getElem_mem hke)
      have HST : Hid (obs (os.take (k + 1)) = obs (os.take k) ++ (w16 os[k].cd ++ w16 x.n ++ os[k].d)) := (show _ = _ by
        rw [List.take_succ_eq_append_getElem hke, obs_app]
        simp [obs, ob, hxl])
      have hxn : x.n ≤ 65535 := by
        have h1 := obs_le os (k + 1)
        have h2 := obs_step hke
        have h3 := HF.out
        omega
      clear e3 e4 e5 hxl
      simp only at e1
      subst e1
      obtain ⟨xa, xn, xc⟩ := x
      generalize os[k].cd = cd at *
      generalize os[k].d = dt at *
      simp only at *
      have hb0 := newE_below wr (.cells #[.int .u16 (cd : Int), .slice xa xn xc] 68)
      have hbx : (wr.alloc (.cells #[.int .u16 (cd : Int), .slice xa xn xc] 68)).heap[wr.heap.size]? = some (.cells #[.int .u16 (cd : Int), .slice xa xn xc] 68) := heap_alloc_new _ _
      have HB0 : Hid (Below wr.heap.size wr (wr.alloc (.cells #[.int .u16 (cd : Int), .slice xa xn xc] 68))) := hb0
      have HBX : Hid ((wr.alloc (.cells #[.int .u16 (cd : Int), .slice xa xn xc] 68)).heap[wr.heap.size]? = some (.cells #[.int .u16 (cd : Int), .slice xa xn xc] 68)) := hbx
      have hcw : IntKind.i64.wrap (cd : Int) = (cd : Int) := by rw [IntKind.wrap_i64]; omega
      clear hb0 hbx
      go_wp2_with fail
      generalize wr.alloc (.cells _ 68) = w0 at *
      refine (put16x cd (by omega) w0).mono ?_
      rintro e w1 ⟨g1, rfl, H1⟩
      have hx1 := (H1.out.2.2.block wr.heap.size (box_lt HBX.out)).trans HBX.out
      have HBX1 : Hid (w1.heap[wr.heap.size]? = some (.cells #[.int .u16 (cd : Int), .slice xa xn xc] 68)) := hx1
      have d1 := box_cell hx1 1 _ rfl
      have hl1 := box_lt hx1
      clear hx1
      go_wp2_with fail
      refine (put16x xn (by omega) w1).mono ?_
      rintro e w2 ⟨g2, rfl, H2⟩
      have hx2 := (H2.out.2.2.block wr.heap.size (box_lt HBX1.out)).trans HBX1.out
      have d2 := box_cell hx2 1 _ rfl
      have hl2 := box_lt hx2
      clear hx2 d1 hl1
      obtain ⟨ps, hp1, hp2, hp3⟩ := HW.out
      have HP : Hid (PcO w.heap.size wr u3 ps ∧ ps.flatMap (·.2.2) = obs (os.take k)) := ⟨hp1, hp3⟩
      have HPL : Hid (ps.length = 3 * k) := hp2
      clear hp1 hp2 hp3
      have HBR : Hid (Below wr.heap.size wr w2) := HB0.out.trans ((H1.out.2.2.mono HB0.out.size).trans (H2.out.2.2.mono (Nat.le_trans HB0.out.size H1.out.2.2.size)))
      have HOW : Hid ((w2.alloc (.cells #[.slice (some ⟨g1, 0, none⟩) 2 2, .slice (some ⟨g2, 0, none⟩) 2 2, .slice xa xn xc] 33)).ownsRow w.heap.size 33 1 u3 ps.length (ps.map pcV)) := (ownsRow_stays HP.out.1.1 HBR.out).alloc _
      have HBW : Hid (Below w.heap.size w (w2.alloc (.cells #[.slice (some ⟨g1, 0, none⟩) 2 2, .slice (some ⟨g2, 0, none⟩) 2 2, .slice xa xn xc] 33))) := (HB.out.trans (HBR.out.mono HB.out.size)).trans ((newE_below _ _).mono (Nat.le_trans HB.out.size HBR.out.size))
      have hbnd : ps.length ≤ 100000 := by rw [HPL.out]; omega
      have HN3 := Lib.hid (three_new w2 (.slice (some ⟨g1, 0, none⟩) 2 2) (.slice (some ⟨g2, 0, none⟩) 2 2) (.slice xa xn xc) 33)
      go_wp2_with (at_builtin; refine wpList_append_own_at _ rfl _ _ 97 rfl w.heap.size 33 i33 _ 1 24 Try.underlying97 HI.out.1 HI.out.2.1 HI.out.2.2.1 HI.out.2.2.2 rfl (by omega) _ ps.length _ rfl HOW.out ⟨w2.heap.size, 0, none⟩ 3 3 [.slice (some ⟨g1, 0, none⟩) 2 2, .slice (some ⟨g2, 0, none⟩) 2 2, .slice xa xn xc] rfl rfl HN3.out (by simp [Value.oneCell']) (by simp only [maxLen]; omega) (by omega) HBW.out.size ?_; intro v' w' h5 h6 _ h7; have H5 := Lib.hid h5; have H6 := Lib.hid h6; have H7 := Lib.hid h7; clear h5 h6 h7)
      refine ⟨⟨k + 1, by omega, by go_num, ⟨ps ++ [(some ⟨g1, 0, none⟩, 2, w16 cd), (some ⟨g2, 0, none⟩, 2, w16 xn), (xa, xc, dt)], ?_, ?_, ?_⟩, HBW.out.grown H6.out HBW.out.size (fun g e => (HOW.out.lt g e).1)⟩, by simp [intOf]; omega⟩
      · have hl3 : dt.length = xn := HX.out.len
        have e3 : [((some ⟨g1, 0, none⟩, 2, w16 cd) : Piece), (some ⟨g2, 0, none⟩, 2, w16 xn), (xa, xc, dt)].map pcV = [.slice (some ⟨g1, 0, none⟩) 2 2, .slice (some ⟨g2, 0, none⟩) 2 2, .slice xa xn xc] := by
          simp [pcV, w16, hl3]
        have hn1 := newE_below w2 (.cells #[.slice (some ⟨g1, 0, none⟩) 2 2, .slice (some ⟨g2, 0, none⟩) 2 2, .slice xa xn xc] 33)
        have s0 := HB0.out.size
        have s1 := H1.out.2.2.size
        have hg1 := H1.out.1
        have hg2 := H2.out.1
        have hlt := HP.out.1.1.lt
        refine PcO.push (w := w2.alloc (.cells #[.slice (some ⟨g1, 0, none⟩) 2 2, .slice (some ⟨g2, 0, none⟩) 2 2, .slice xa xn xc] 33)) (v := u3) (fun p hp => ((HP.out.1.2 p hp).stay HBR.out).stay hn1) (fun p hp => ?_) (by rw [e3]; exact H5.out) H6.out H7.out
        simp only [List.mem_cons, List.not_mem_nil, or_false] at hp
        rcases hp with rfl | rfl | rfl
        · exact ((Blk.pcx H1.out.2.1 2 (fun e => by have := (hlt g1 e.symm).2; omega)).stay H2.out.2.2).stay hn1
        · exact (Blk.pcx H2.out.2.1 2 (fun e => by have := (hlt g2 e.symm).2; omega)).stay hn1
        · exact BRd.pcx (x := ⟨xa, xn, xc⟩) HX.out HBW.out (fun g e => (hlt g e).1)
      · rw [List.length_append, HPL.out]; simp; omega
      · rw [List.flatMap_append, HP.out.2, HST.out]; simp
    · have hge : (N : Int) ≤ (k : Int) := by omega
      obtain ⟨ps, hp1, hp2, hp3⟩ := HW.out
      obtain ⟨a, c, hv, hr, hc⟩ := hp1.rd
      have hjn : jn ps ps.length = obs os := by
        unfold jn
        rw [List.take_length, hp3, List.take_of_length_le (by omega)]
      have KJ := Lib.hid (join62 a ps.length c ps wr rfl hr hc (by omega) (by rw [hjn]; have := HF.out; omega))
      rw [hjn, ← HT.out] at KJ
      clear hr hp1 hp2 hp3 hjn hc
      generalize ps.length = P at *
      subst hv
      go_wp2_with fail
      refine KJ.out.mono ?_
      rintro e w2 ⟨rfl, H2⟩
      go_wp2_with fail
      go_ret
      exact ⟨_, rfl, HB.out.size, H2.out.1, HB.out.trans (H2.out.2.mono HB.out.size)⟩
end Go.Proofs.Ytgeoadkcmbageaa
namespace Go.Proofs.Ytgeoadkcmbageaa
open Go.ChangeShapes Go.WideShapes Go.ChangeAt Go.RowKit
set_option linter.unusedVariables false
set_option linter.unusedSimpArgs false
/-- A question's name, type, class. -/
structure Qn where
  nm : List ByteArray
  ty : Nat
  cl : Nat
/-- Where a question lies. -/
structure QA where
  s : Sl
  ty : Nat
  cl : Nat
structure QOk (w : World) (x : QA) (q : Qn) : Prop where
  rd : TRd w x.s q.nm
  ty : x.ty = q.ty
  cl : x.cl = q.cl
  bt : q.ty < 65536
  bc : q.cl < 65536
theorem QOk.below {w w' : World} {x : QA} {q : Qn} (h : QOk w x q) (hb : Below w.heap.size w w') : QOk w' x q := ⟨h.rd.below hb, h.ty, h.cl, h.bt, h.bc⟩
end Go.Proofs.Ytgeoadkcmbageaa
namespace Go.Proofs.Ytgeoadkcmbageaa
open Go.ChangeShapes Go.WideShapes Go.ChangeAt Go.RowKit
set_option linter.unusedVariables false
set_option linter.unusedSimpArgs false
/-- Questions that can be read. -/
structure QsRd (w : World) (s : Sl) (qs : List Qn) : Prop where
  rd : qs = [] ∨ ∃ b o, s.a = some ⟨b, o, none⟩ ∧ b < w.heap.size ∧ ∀ i (h : i < qs.length), ∃ x : QA, w.cell? ⟨b, o + i * 3, none⟩ = some (.slice x.s.a x.s.n x.s.c) ∧ w.cell? ⟨b, o + i * 3 + 1, none⟩ = some (.int .u16 (x.ty : Int)) ∧ w.cell? ⟨b, o + i * 3 + 2, none⟩ = some (.int .u16 (x.cl : Int)) ∧ QOk w x qs[i]
  len : qs.length = s.n
  cap : s.n ≤ s.c ∧ s.c ≤ 9223372036854775807
  nil : s.a = none → s.c = 0
theorem QsRd.below {w w' : World} {s : Sl} {qs : List Qn} (h : QsRd w s qs) (hb : Below w.heap.size w w') : QsRd w' s qs := by
  refine ⟨?_, h.len, h.cap, h.nil⟩
  rcases h.rd with h1 | ⟨b, o, h1, h2, h3⟩
  · exact .inl h1
  · refine .inr ⟨b, o, h1, Nat.lt_of_lt_of_le h2 hb.size, fun i hi => ?_⟩
    obtain ⟨x, e1, e2, e3, h5⟩ := h3 i hi
    exact ⟨x, (hb.cell (p := ⟨b, o + i * 3, none⟩) h2).trans e1, (hb.cell (p := ⟨b, o + i * 3 + 1, none⟩) h2).trans e2, (hb.cell (p := ⟨b, o + i * 3 + 2, none⟩) h2).trans e3, h5.below hb⟩
theorem QsRd.at {w : World} {s : Sl} {qs : List Qn} (h : QsRd w s qs) (i : Nat) (hi : i < qs.length) : ∃ b o, s.a = some ⟨b, o, none⟩ ∧ b < w.heap.size ∧ ∃ x : QA, w.cell? ⟨b, o + i * 3, none⟩ = some (.slice x.s.a x.s.n x.s.c) ∧ w.cell? ⟨b, o + i * 3 + 1, none⟩ = some (.int .u16 (x.ty : Int)) ∧ w.cell? ⟨b, o + i * 3 + 2, none⟩ = some (.int .u16 (x.cl : Int)) ∧ QOk w x qs[i] := by
  rcases h.rd with h1 | ⟨b, o, h1, h2, h3⟩
  · subst h1; simp at hi
  · exact ⟨b, o, h1, h2, h3 i hi⟩
theorem QsRd.none (w : World) : QsRd w ⟨none, 0, 0⟩ [] := ⟨.inl rfl, rfl, ⟨Nat.le_refl _, Nat.zero_le _⟩, fun _ => rfl⟩
end Go.Proofs.Ytgeoadkcmbageaa
namespace Go.Proofs.Ytgeoadkcmbageaa
set_option linter.unusedVariables false
def unfl (n v : Nat) : Bool := n / v % 2 == 1
end Go.Proofs.Ytgeoadkcmbageaa
namespace Go.Proofs.Ytgeoadkcmbageaa
open Go.ChangeShapes Go.WideShapes Go.ChangeAt Go.RowKit
set_option linter.unusedVariables false
/-- A message's box. -/
def MBox (w : World) (b : Nat) (id : Value) (rs : Bool) (op : Value) (aa tc rd ra ad cd : Bool) : Prop :=
  b < w.heap.size ∧ w.cell? ⟨b, 1, none⟩ = some (.bool rs) ∧ w.cell? ⟨b, 3, none⟩ = some (.bool aa) ∧ w.cell? ⟨b, 4, none⟩ = some (.bool tc) ∧ w.cell? ⟨b, 5, none⟩ = some (.bool rd) ∧ w.cell? ⟨b, 6, none⟩ = some (.bool ra) ∧ w.cell? ⟨b, 7, none⟩ = some (.bool ad) ∧ w.cell? ⟨b, 8, none⟩ = some (.bool cd)
theorem MBox.below {w w' : World} {b : Nat} {id : Value} {rs : Bool} {op : Value} {aa tc rd ra ad cd : Bool} (h : MBox w b id rs op aa tc rd ra ad cd) (hb : Below w.heap.size w w') : MBox w' b id rs op aa tc rd ra ad cd := by
  obtain ⟨h0, h1, h2, h3, h4, h5, h6, h7⟩ := h
  exact ⟨Nat.lt_of_lt_of_le h0 hb.size, (hb.cell (p := ⟨b, 1, none⟩) h0).trans h1, (hb.cell (p := ⟨b, 3, none⟩) h0).trans h2, (hb.cell (p := ⟨b, 4, none⟩) h0).trans h3, (hb.cell (p := ⟨b, 5, none⟩) h0).trans h4, (hb.cell (p := ⟨b, 6, none⟩) h0).trans h5, (hb.cell (p := ⟨b, 7, none⟩) h0).trans h6, (hb.cell (p := ⟨b, 8, none⟩) h0).trans h7⟩
end Go.Proofs.Ytgeoadkcmbageaa
namespace Go.Proofs.Ytgeoadkcmbageaa
open Go.ChangeShapes Go.WideShapes Go.ChangeAt Go.RowKit
set_option linter.unusedVariables false
set_option linter.unusedSimpArgs false
theorem cell_of_block {W : World} {D i : Nat} {cs : Array Value} {ty : TypeId} {v : Value} (hD : W.heap[D]? = some (.cells cs ty)) (hv : cs[i]? = some v) : W.cell? ⟨D, i, none⟩ = some v := by
  simp [World.cell?, hD, hv]
theorem frozen_of_block {W : World} {D i : Nat} {cs : Array Value} {ty : TypeId} (hD : W.heap[D]? = some (.cells cs ty)) : W.frozen? ⟨D, i, none⟩ = false := by
  simp [World.frozen?, hD]
end Go.Proofs.Ytgeoadkcmbageaa
namespace Go.Proofs.Ytgeoadkcmbageaa
open Go.ChangeShapes Go.WideShapes Go.ChangeAt Go.RowKit
set_option linter.unusedVariables false
set_option linter.unusedSimpArgs false
theorem alloc_at (w : World) (o : Obj) : (w.alloc o).heap[w.heap.size]? = some o := by
  show (w.heap.push o)[w.heap.size]? = some o
  simp
end Go.Proofs.Ytgeoadkcmbageaa
namespace Go.Proofs.Ytgeoadkcmbageaa
open Go.ChangeShapes Go.WideShapes Go.ChangeAt Go.RowKit
set_option linter.unusedVariables false
set_option linter.unusedSimpArgs false
theorem nat_and_bit (n k : Nat) : n &&& 2 ^ k = (unfl n (2 ^ k)).toNat * 2 ^ k := by
  have e : unfl n (2 ^ k) = n.testBit k := by
    rw [Nat.testBit_eq_decide_div_mod_eq]; unfold unfl
    rcases Nat.mod_two_eq_zero_or_one (n / 2 ^ k) with h | h <;> simp [h]
  rw [e]
  apply Nat.eq_of_testBit_eq
  intro i
  rw [Nat.testBit_and, Nat.testBit_two_pow]
  by_cases hik : k = i
  · subst hik
    cases h : n.testBit k <;> simp [Nat.testBit_two_pow]
  · cases h : n.testBit k <;> simp [Nat.testBit_two_pow, hik]
theorem block_lt {W : World} {b : Nat} {o : Obj} (h : W.heap[b]? = some o) : b < W.heap.size := by
  rcases Nat.lt_or_ge b W.heap.size with h1 | h1
  · exact h1
  · rw [Array.getElem?_eq_none h1] at h; cases h
theorem block_alloc {W : World} {b : Nat} {o : Obj} (h : W.heap[b]? = some o) (x : Obj) : (W.alloc x).heap[b]? = some o := (Below.heap_alloc W x b (block_lt h)).trans h
end Go.Proofs.Ytgeoadkcmbageaa
namespace Go.Proofs.Ytgeoadkcmbageaa
open Go.ChangeShapes Go.WideShapes Go.ChangeAt Go.RowKit
set_option linter.unusedVariables false
set_option linter.unusedSimpArgs false
set_option maxRecDepth 100000 in
set_option maxHeartbeats 2000000 in
theorem samer45 (x y : RA) (r : Rec) (w : World) (h1 : RRd w x r) (h2 : RRd w y r) :
    Calls Try.prog 15 #[.agg (recCells x r).toArray, .agg (recCells y r).toArray] w fun e w' => e = .returned (.bool true) ∧ Below w.heap.size w w' := by
  have KD : ∀ W, Below w.heap.size w W → Hid (Calls Try.prog 42 #[.agg #[.slice x.d.p1.a x.d.p1.n x.d.p1.c, .slice x.d.p2.a x.d.p2.n x.d.p2.c, .slice x.d.p3.a x.d.p3.n x.d.p3.c, .slice x.d.p4.a x.d.p4.n x.d.p4.c], .agg #[.slice y.d.p1.a y.d.p1.n y.d.p1.c, .slice y.d.p2.a y.d.p2.n y.d.p2.c, .slice y.d.p3.a y.d.p3.n y.d.p3.c, .slice y.d.p4.a y.d.p4.n y.d.p4.c]] W fun e w' => e = .returned (.bool true) ∧ Hid (Below W.heap.size W w')) := fun W hb => samedata_yes x.d y.d r.d W (h1.2.below hb) (h2.2.below hb)
  have hnn : x.o.n = y.o.n := h1.1.len.symm.trans h2.1.len
  have KN : ∀ W, Below w.heap.size w W → Hid (Calls Try.prog 41 #[.slice x.o.a x.o.n x.o.c, .slice y.o.a x.o.n y.o.c] W fun e w' => e = .returned (.bool true) ∧ Hid (Below W.heap.size W w')) := fun W hb => sameN_yes x.o.a y.o.a x.o.n x.o.c y.o.c r.ow W (h1.1.rd.below hb) (h2.1.rd.below hb) h1.1.len (Nat.le_trans h1.1.cap.1 h1.1.cap.2)
  clear h1 h2
  obtain ⟨⟨xa, xn, xc⟩, ⟨⟨xa1, xn1, xc1⟩, ⟨xa2, xn2, xc2⟩, ⟨xa3, xn3, xc3⟩, ⟨xa4, xn4, xc4⟩⟩⟩ := x
  obtain ⟨⟨ya, yn, yc⟩, ⟨⟨ya1, yn1, yc1⟩, ⟨ya2, yn2, yc2⟩, ⟨ya3, yn3, yc3⟩, ⟨ya4, yn4, yc4⟩⟩⟩ := y
  obtain ⟨ow, t, cl, tt, d⟩ := r
  simp only at KD KN hnn
  subst hnn
  show Calls Try.prog 15 #[.agg #[.slice xa xn xc, .int .u16 (t : Int), .int .u16 (cl : Int), .int .u32 (tt : Int), .slice xa1 xn1 xc1, .slice xa2 xn2 xc2, .slice xa3 xn3 xc3, .slice xa4 xn4 xc4], .agg #[.slice ya xn yc, .int .u16 (t : Int), .int .u16 (cl : Int), .int .u32 (tt : Int), .slice ya1 yn1 yc1, .slice ya2 yn2 yc2, .slice ya3 yn3 yc3, .slice ya4 yn4 yc4]] w fun e w' => e = .returned (.bool true) ∧ Below w.heap.size w w'
  go_enter Try.func15, Try.ntmps15
  go_wp2_with fail
  refine (KN _ (((Below.refl _ _).alloc (Nat.le_refl _) _).alloc (by simp) _)).out.mono ?_
  rintro e w2 ⟨rfl, hb2'⟩
  have hb2 := hb2'.out
  have HB2 : Hid (Below w.heap.size w w2 ∧ w2.heap[w.heap.size]? = some (.cells #[.slice xa xn xc, .int .u16 (t : Int), .int .u16 (cl : Int), .int .u32 (tt : Int), .slice xa1 xn1 xc1, .slice xa2 xn2 xc2, .slice xa3 xn3 xc3, .slice xa4 xn4 xc4] 37) ∧ w2.heap[w.heap.size + 1]? = some (.cells #[.slice ya xn yc, .int .u16 (t : Int), .int .u16 (cl : Int), .int .u32 (tt : Int), .slice ya1 yn1 yc1, .slice ya2 yn2 yc2, .slice ya3 yn3 yc3, .slice ya4 yn4 yc4] 37)) := by
    refine ⟨(((Below.refl _ _).alloc (Nat.le_refl _) _).alloc (by simp) _).trans (hb2.mono (by simp; omega)), (hb2.block _ (by simp; omega)).trans (block_alloc (alloc_at _ _) _), (hb2.block _ (by simp)).trans ?_⟩
    have := alloc_at (w.alloc (.cells #[.slice xa xn xc, .int .u16 (t : Int), .int .u16 (cl : Int), .int .u32 (tt : Int), .slice xa1 xn1 xc1, .slice xa2 xn2 xc2, .slice xa3 xn3 xc3, .slice xa4 xn4 xc4] 37)) (.cells #[.slice ya xn yc, .int .u16 (t : Int), .int .u16 (cl : Int), .int .u32 (tt : Int), .slice ya1 yn1 yc1, .slice ya2 yn2 yc2, .slice ya3 yn3 yc3, .slice ya4 yn4 yc4] 37)
    simp only [World.size_alloc] at this
    exact this
  clear hb2 hb2' KN
  have p0 := block_lt HB2.out.2.1
  have p1 := block_lt HB2.out.2.2
  have u0 : w2.cell? ⟨w.heap.size, 0, none⟩ = some (.slice xa xn xc) := cell_of_block HB2.out.2.1 rfl
  have u1 : w2.cell? ⟨w.heap.size, 1, none⟩ = some (.int .u16 (t : Int)) := cell_of_block HB2.out.2.1 rfl
  have u2 : w2.cell? ⟨w.heap.size, 2, none⟩ = some (.int .u16 (cl : Int)) := cell_of_block HB2.out.2.1 rfl
  have u3 : w2.cell? ⟨w.heap.size, 3, none⟩ = some (.int .u32 (tt : Int)) := cell_of_block HB2.out.2.1 rfl
  have u4 : w2.cell? ⟨w.heap.size, 4, none⟩ = some (.slice xa1 xn1 xc1) := cell_of_block HB2.out.2.1 rfl
  have u5 : w2.cell? ⟨w.heap.size, 5, none⟩ = some (.slice xa2 xn2 xc2) := cell_of_block HB2.out.2.1 rfl
  have u6 : w2.cell? ⟨w.heap.size, 6, none⟩ = some (.slice xa3 xn3 xc3) := cell_of_block HB2.out.2.1 rfl
  have u7 : w2.cell? ⟨w.heap.size, 7, none⟩ = some (.slice xa4 xn4 xc4) := cell_of_block HB2.out.2.1 rfl
  have v0 : w2.cell? ⟨w.heap.size + 1, 0, none⟩ = some (.slice ya xn yc) := cell_of_block HB2.out.2.2 rfl
  have v1 : w2.cell? ⟨w.heap.size + 1, 1, none⟩ = some (.int .u16 (t : Int)) := cell_of_block HB2.out.2.2 rfl
  have v2 : w2.cell? ⟨w.heap.size + 1, 2, none⟩ = some (.int .u16 (cl : Int)) := cell_of_block HB2.out.2.2 rfl
  have v3 : w2.cell? ⟨w.heap.size + 1, 3, none⟩ = some (.int .u32 (tt : Int)) := cell_of_block HB2.out.2.2 rfl
  have v4 : w2.cell? ⟨w.heap.size + 1, 4, none⟩ = some (.slice ya1 yn1 yc1) := cell_of_block HB2.out.2.2 rfl
  have v5 : w2.cell? ⟨w.heap.size + 1, 5, none⟩ = some (.slice ya2 yn2 yc2) := cell_of_block HB2.out.2.2 rfl
  have v6 : w2.cell? ⟨w.heap.size + 1, 6, none⟩ = some (.slice ya3 yn3 yc3) := cell_of_block HB2.out.2.2 rfl
  have v7 : w2.cell? ⟨w.heap.size + 1, 7, none⟩ = some (.slice ya4 yn4 yc4) := cell_of_block HB2.out.2.2 rfl
  go_wp2_with fail
  refine (KD _ HB2.out.1).out.mono ?_
  rintro e w3 ⟨rfl, hb3⟩
  go_wp2
  go_ret
  exact ⟨rfl, HB2.out.1.trans (hb3.out.mono HB2.out.1.size)⟩
end Go.Proofs.Ytgeoadkcmbageaa
namespace Go.Proofs.Ytgeoadkcmbageaa
open Go.ChangeShapes Go.WideShapes Go.ChangeAt Go.RowKit
set_option linter.unusedVariables false
set_option linter.unusedSimpArgs false
theorem set_ne (W : World) (a b : Addr) (u : Value) (h : ¬ b.block = a.block) : (W.setCell a u).cell? b = W.cell? b := World.cell?_of_block (w := W) (Below.heap_setCell W a u b.block h)
end Go.Proofs.Ytgeoadkcmbageaa
namespace Go.Proofs.Ytgeoadkcmbageaa
open Go.ChangeShapes Go.WideShapes Go.ChangeAt Go.RowKit
set_option linter.unusedVariables false
set_option linter.unusedSimpArgs false
theorem put8 {w : World} {g : Nat} {v0 v1 v2 v3 v4 v5 v6 v7 : Value} {t : TypeId} (h : w.heap[g]? = some (.cells #[v0, v1, v2, v3, v4, v5, v6, v7] t)) (x0 x1 x2 x3 x4 x5 x6 x7 : Value) : ((((((((w.setCell ⟨g, 0, none⟩ x0).setCell ⟨g, 1, none⟩ x1).setCell ⟨g, 2, none⟩ x2).setCell ⟨g, 3, none⟩ x3).setCell ⟨g, 4, none⟩ x4).setCell ⟨g, 5, none⟩ x5).setCell ⟨g, 6, none⟩ x6).setCell ⟨g, 7, none⟩ x7).heap[g]? = some (.cells #[x0, x1, x2, x3, x4, x5, x6, x7] t) :=
  by
  have h0 : (w.setCell ⟨g, 0, none⟩ x0).heap[g]? = some (.cells #[x0, v1, v2, v3, v4, v5, v6, v7] t) := heap_set h 0 x0
  have h1 : ((w.setCell ⟨g, 0, none⟩ x0).setCell ⟨g, 1, none⟩ x1).heap[g]? = some (.cells #[x0, x1, v2, v3, v4, v5, v6, v7] t) := heap_set h0 1 x1
  have h2 : (((w.setCell ⟨g, 0, none⟩ x0).setCell ⟨g, 1, none⟩ x1).setCell ⟨g, 2, none⟩ x2).heap[g]? = some (.cells #[x0, x1, x2, v3, v4, v5, v6, v7] t) := heap_set h1 2 x2
  have h3 : ((((w.setCell ⟨g, 0, none⟩ x0).setCell ⟨g, 1, none⟩ x1).setCell ⟨g, 2, none⟩ x2).setCell ⟨g, 3, none⟩ x3).heap[g]? = some (.cells #[x0, x1, x2, x3, v4, v5, v6, v7] t) := heap_set h2 3 x3
  have h4 : (((((w.setCell ⟨g, 0, none⟩ x0).setCell ⟨g, 1, none⟩ x1).setCell ⟨g, 2, none⟩ x2).setCell ⟨g, 3, none⟩ x3).setCell ⟨g, 4, none⟩ x4).heap[g]? = some (.cells #[x0, x1, x2, x3, x4, v5, v6, v7] t) := heap_set h3 4 x4
  have h5 : ((((((w.setCell ⟨g, 0, none⟩ x0).setCell ⟨g, 1, none⟩ x1).setCell ⟨g, 2, none⟩ x2).setCell ⟨g, 3, none⟩ x3).setCell ⟨g, 4, none⟩ x4).setCell ⟨g, 5, none⟩ x5).heap[g]? = some (.cells #[x0, x1, x2, x3, x4, x5, v6, v7] t) := heap_set h4 5 x5
  have h6 : (((((((w.setCell ⟨g, 0, none⟩ x0).setCell ⟨g, 1, none⟩ x1).setCell ⟨g, 2, none⟩ x2).setCell ⟨g, 3, none⟩ x3).setCell ⟨g, 4, none⟩ x4).setCell ⟨g, 5, none⟩ x5).setCell ⟨g, 6, none⟩ x6).heap[g]? = some (.cells #[x0, x1, x2, x3, x4, x5, x6, v7] t) := heap_set h5 6 x6
  have h7 : ((((((((w.setCell ⟨g, 0, none⟩ x0).setCell ⟨g, 1, none⟩ x1).setCell ⟨g, 2, none⟩ x2).setCell ⟨g, 3, none⟩ x3).setCell ⟨g, 4, none⟩ x4).setCell ⟨g, 5, none⟩ x5).setCell ⟨g, 6, none⟩ x6).setCell ⟨g, 7, none⟩ x7).heap[g]? = some (.cells #[x0, x1, x2, x3, x4, x5, x6, x7] t) := heap_set h6 7 x7
  exact h7
theorem put8_below (w : World) (g : Nat) (x0 x1 x2 x3 x4 x5 x6 x7 : Value) : Below g w ((((((((w.setCell ⟨g, 0, none⟩ x0).setCell ⟨g, 1, none⟩ x1).setCell ⟨g, 2, none⟩ x2).setCell ⟨g, 3, none⟩ x3).setCell ⟨g, 4, none⟩ x4).setCell ⟨g, 5, none⟩ x5).setCell ⟨g, 6, none⟩ x6).setCell ⟨g, 7, none⟩ x7) :=
  ((((((((Below.refl g w).setCell (p := ⟨g, 0, none⟩) (Nat.le_refl g) x0).setCell (p := ⟨g, 1, none⟩) (Nat.le_refl g) x1).setCell (p := ⟨g, 2, none⟩) (Nat.le_refl g) x2).setCell (p := ⟨g, 3, none⟩) (Nat.le_refl g) x3).setCell (p := ⟨g, 4, none⟩) (Nat.le_refl g) x4).setCell (p := ⟨g, 5, none⟩) (Nat.le_refl g) x5).setCell (p := ⟨g, 6, none⟩) (Nat.le_refl g) x6).setCell (p := ⟨g, 7, none⟩) (Nat.le_refl g) x7
theorem put8_other (w : World) (g : Nat) (x0 x1 x2 x3 x4 x5 x6 x7 : Value) (j : Nat) (h : j ≠ g) : ((((((((w.setCell ⟨g, 0, none⟩ x0).setCell ⟨g, 1, none⟩ x1).setCell ⟨g, 2, none⟩ x2).setCell ⟨g, 3, none⟩ x3).setCell ⟨g, 4, none⟩ x4).setCell ⟨g, 5, none⟩ x5).setCell ⟨g, 6, none⟩ x6).setCell ⟨g, 7, none⟩ x7).heap[j]? = w.heap[j]? := by
  rw [Below.heap_setCell _ _ _ _ h, Below.heap_setCell _ _ _ _ h, Below.heap_setCell _ _ _ _ h, Below.heap_setCell _ _ _ _ h, Below.heap_setCell _ _ _ _ h, Below.heap_setCell _ _ _ _ h, Below.heap_setCell _ _ _ _ h, Below.heap_setCell _ _ _ _ h]
end Go.Proofs.Ytgeoadkcmbageaa
namespace Go.Proofs.Ytgeoadkcmbageaa
open Go.ChangeShapes Go.WideShapes Go.ChangeAt Go.RowKit
set_option linter.unusedVariables false
set_option linter.unusedSimpArgs false
/-- The record of what is said. -/
def recE (E : Edn) : Rec := ⟨[], 41, E.sz.toNat, ttlE E, ⟨[], [], [], obs E.os⟩⟩
def nilS : Sl := ⟨none, 0, 0⟩
theorem nil_t (w : World) : TRd w nilS [] := ⟨.inl rfl, rfl, ⟨Nat.le_refl _, by simp [nilS]⟩, fun _ => rfl, fun x hx => (by cases hx)⟩
theorem Blk.brd {w : World} {g n : Nat} {zs : List Int} (h : Blk w g zs) (hn : zs.length = n) (hm : n ≤ 1000000) : BRd w ⟨some ⟨g, 0, none⟩, n, n⟩ zs :=
  ⟨⟨.inr ⟨g, 0, rfl, h.lt, fun i hi => by rw [Nat.zero_add]; exact h.cell i hi⟩, h.2⟩, hn, ⟨Nat.le_refl _, by simp only; omega⟩, by simp⟩
set_option maxRecDepth 100000 in
set_option maxHeartbeats 4000000 in
theorem record11_no (E : Edn) (s : Sl) (w : World) (h : OsRd w s E.os) (hf : ∀ o ∈ E.os, o.d.length ≤ 65540) (hs : ¬ Say E) : Calls Try.prog 11 #[.agg #[.int .i64 E.sz, .int .i64 E.hi, .int .i64 E.ve, .bool E.dd, .slice s.a s.n s.c]] w fun e w' => e = .returned (.tuple #[.agg #[.slice none 0 0, .int .u16 0, .int .u16 0, .int .u32 0, .slice none 0 0, .slice none 0 0, .slice none 0 0, .slice none 0 0], .int .i64 2]) ∧ Hid (Below w.heap.size w w') := by
  have HO : Hid (OsRd w s E.os) := h
  have HF : Hid (∀ o ∈ E.os, o.d.length ≤ 65540) := hf
  have HD : Hid (decide (Say E) = false) := decide_eq_false hs
  clear h hf hs
  obtain ⟨sz, hi, ve, dd, os⟩ := E
  obtain ⟨sa, sn, sc⟩ := s
  simp only at *
  obtain ⟨V, hV⟩ : ∃ V, V = (w.alloc (.cells #[.int .i64 sz, .int .i64 hi, .int .i64 ve, .bool dd, .slice sa sn sc] 24)).alloc (.cells #[.slice none 0 0, .int .u16 0, .int .u16 0, .int .u32 0, .slice none 0 0, .slice none 0 0, .slice none 0 0, .slice none 0 0] 37) := ⟨_, rfl⟩
  have HV : Hid (Below w.heap.size w V ∧ V.heap[w.heap.size]? = some (.cells #[.int .i64 sz, .int .i64 hi, .int .i64 ve, .bool dd, .slice sa sn sc] 24) ∧ V.heap[w.heap.size + 1]? = some (.cells #[.slice none 0 0, .int .u16 0, .int .u16 0, .int .u32 0, .slice none 0 0, .slice none 0 0, .slice none 0 0, .slice none 0 0] 37) ∧ V.heap.size = w.heap.size + 1 + 1) := by
    rw [hV]
    refine ⟨((Below.refl _ _).alloc (Nat.le_refl _) _).alloc (by simp) _, block_alloc (alloc_at _ _) _, ?_, by simp⟩
    have := alloc_at (w.alloc (.cells #[.int .i64 sz, .int .i64 hi, .int .i64 ve, .bool dd, .slice sa sn sc] 24)) (.cells #[.slice none 0 0, .int .u16 0, .int .u16 0, .int .u32 0, .slice none 0 0, .slice none 0 0, .slice none 0 0, .slice none 0 0] 37)
    simp only [World.size_alloc] at this
    exact this
  have KS : ∀ W, Below V.heap.size V W → W.cell? ⟨w.heap.size, 0, none⟩ = some (.int .i64 sz) ∧ W.cell? ⟨w.heap.size, 1, none⟩ = some (.int .i64 hi) ∧ W.cell? ⟨w.heap.size, 2, none⟩ = some (.int .i64 ve) ∧ W.cell? ⟨w.heap.size, 3, none⟩ = some (.bool dd) ∧ W.cell? ⟨w.heap.size, 4, none⟩ = some (.slice sa sn sc) := fun W hb => by
    have m := (hb.block _ (block_lt HV.out.2.1)).trans HV.out.2.1
    exact ⟨cell_of_block m rfl, cell_of_block m rfl, cell_of_block m rfl, cell_of_block m rfl, cell_of_block m rfl⟩
  have KZ : ∀ W, Below V.heap.size V W → Hid (W.heap[w.heap.size + 1]? = some (.cells #[.slice none 0 0, .int .u16 0, .int .u16 0, .int .u32 0, .slice none 0 0, .slice none 0 0, .slice none 0 0, .slice none 0 0] 37)) := fun W hb => (hb.block _ (block_lt HV.out.2.2.1)).trans HV.out.2.2.1
  have p0 := block_lt HV.out.2.1
  have p1 := block_lt HV.out.2.2.1
  have KM := Lib.hid (may36 ⟨sz, hi, ve, dd, os⟩ ⟨sa, sn, sc⟩ V (HO.out.below HV.out.1) HF.out)
  go_enter Try.func11, Try.ntmps11
  go_wp2_with fail
  rw [← hV]
  obtain ⟨c0, c1, c2, c3, c4⟩ := KS V (Below.refl _ _)
  have HVV : Hid (V = (w.alloc (.cells #[.int .i64 sz, .int .i64 hi, .int .i64 ve, .bool dd, .slice sa sn sc] 24)).alloc (.cells #[.slice none 0 0, .int .u16 0, .int .u16 0, .int .u32 0, .slice none 0 0, .slice none 0 0, .slice none 0 0, .slice none 0 0] 37)) := hV
  clear hV
  go_wp2_with fail
  refine KM.out.mono ?_
  rintro e w1 ⟨rfl, H1⟩
  clear c0 c1 c2 c3 c4
  rw [HD.out]
  obtain ⟨d0, d1, d2, d3, d4⟩ := KS w1 H1.out
  have q0 : w.heap.size < w1.heap.size := Nat.lt_of_lt_of_le p0 H1.out.size
  have q1 : w.heap.size + 1 < w1.heap.size := Nat.lt_of_lt_of_le p1 H1.out.size
  have z := KZ w1 H1.out
  have z0 : w1.cell? ⟨w.heap.size + 1, 0, none⟩ = some (.slice none 0 0) := (cell_of_block z.out rfl)
  have z1 : w1.cell? ⟨w.heap.size + 1, 1, none⟩ = some (.int .u16 0) := (cell_of_block z.out rfl)
  have z2 : w1.cell? ⟨w.heap.size + 1, 2, none⟩ = some (.int .u16 0) := (cell_of_block z.out rfl)
  have z3 : w1.cell? ⟨w.heap.size + 1, 3, none⟩ = some (.int .u32 0) := (cell_of_block z.out rfl)
  have z4 : w1.cell? ⟨w.heap.size + 1, 4, none⟩ = some (.slice none 0 0) := (cell_of_block z.out rfl)
  have z5 : w1.cell? ⟨w.heap.size + 1, 5, none⟩ = some (.slice none 0 0) := (cell_of_block z.out rfl)
  have z6 : w1.cell? ⟨w.heap.size + 1, 6, none⟩ = some (.slice none 0 0) := (cell_of_block z.out rfl)
  have z7 : w1.cell? ⟨w.heap.size + 1, 7, none⟩ = some (.slice none 0 0) := (cell_of_block z.out rfl)
  have f0 : w1.frozen? ⟨w.heap.size + 1, 0, none⟩ = false := (frozen_of_block z.out)
  have f1 : w1.frozen? ⟨w.heap.size + 1, 1, none⟩ = false := (frozen_of_block z.out)
  have f2 : w1.frozen? ⟨w.heap.size + 1, 2, none⟩ = false := (frozen_of_block z.out)
  have f3 : w1.frozen? ⟨w.heap.size + 1, 3, none⟩ = false := (frozen_of_block z.out)
  have f4 : w1.frozen? ⟨w.heap.size + 1, 4, none⟩ = false := (frozen_of_block z.out)
  have f5 : w1.frozen? ⟨w.heap.size + 1, 5, none⟩ = false := (frozen_of_block z.out)
  have f6 : w1.frozen? ⟨w.heap.size + 1, 6, none⟩ = false := (frozen_of_block z.out)
  have f7 : w1.frozen? ⟨w.heap.size + 1, 7, none⟩ = false := (frozen_of_block z.out)
  go_wp2_with fail
  have z8 : ((((((((w1.setCell ⟨w.heap.size + 1, 0, none⟩ (.slice none 0 0)).setCell ⟨w.heap.size + 1, 1, none⟩ (.int .u16 0)).setCell ⟨w.heap.size + 1, 2, none⟩ (.int .u16 0)).setCell ⟨w.heap.size + 1, 3, none⟩ (.int .u32 0)).setCell ⟨w.heap.size + 1, 4, none⟩ (.slice none 0 0)).setCell ⟨w.heap.size + 1, 5, none⟩ (.slice none 0 0)).setCell ⟨w.heap.size + 1, 6, none⟩ (.slice none 0 0)).setCell ⟨w.heap.size + 1, 7, none⟩ (.slice none 0 0)).heap[w.heap.size + 1]? = some (.cells #[.slice none 0 0, .int .u16 0, .int .u16 0, .int .u32 0, .slice none 0 0, .slice none 0 0, .slice none 0 0, .slice none 0 0] 37) := put8 z.out _ _ _ _ _ _ _ _
  have HB8 : Hid (Below (w.heap.size + 1) w1 ((((((((w1.setCell ⟨w.heap.size + 1, 0, none⟩ (.slice none 0 0)).setCell ⟨w.heap.size + 1, 1, none⟩ (.int .u16 0)).setCell ⟨w.heap.size + 1, 2, none⟩ (.int .u16 0)).setCell ⟨w.heap.size + 1, 3, none⟩ (.int .u32 0)).setCell ⟨w.heap.size + 1, 4, none⟩ (.slice none 0 0)).setCell ⟨w.heap.size + 1, 5, none⟩ (.slice none 0 0)).setCell ⟨w.heap.size + 1, 6, none⟩ (.slice none 0 0)).setCell ⟨w.heap.size + 1, 7, none⟩ (.slice none 0 0))) := put8_below w1 (w.heap.size + 1) _ _ _ _ _ _ _ _
  generalize ((((((((w1.setCell ⟨w.heap.size + 1, 0, none⟩ (.slice none 0 0)).setCell ⟨w.heap.size + 1, 1, none⟩ (.int .u16 0)).setCell ⟨w.heap.size + 1, 2, none⟩ (.int .u16 0)).setCell ⟨w.heap.size + 1, 3, none⟩ (.int .u32 0)).setCell ⟨w.heap.size + 1, 4, none⟩ (.slice none 0 0)).setCell ⟨w.heap.size + 1, 5, none⟩ (.slice none 0 0)).setCell ⟨w.heap.size + 1, 6, none⟩ (.slice none 0 0)).setCell ⟨w.heap.size + 1, 7, none⟩ (.slice none 0 0)) = w8 at *
  have y0 : w8.cell? ⟨w.heap.size + 1, 0, none⟩ = some (.slice none 0 0) := cell_of_block z8 rfl
  have y1 : w8.cell? ⟨w.heap.size + 1, 1, none⟩ = some (.int .u16 0) := cell_of_block z8 rfl
  have y2 : w8.cell? ⟨w.heap.size + 1, 2, none⟩ = some (.int .u16 0) := cell_of_block z8 rfl
  have y3 : w8.cell? ⟨w.heap.size + 1, 3, none⟩ = some (.int .u32 0) := cell_of_block z8 rfl
  have y4 : w8.cell? ⟨w.heap.size + 1, 4, none⟩ = some (.slice none 0 0) := cell_of_block z8 rfl
  have y5 : w8.cell? ⟨w.heap.size + 1, 5, none⟩ = some (.slice none 0 0) := cell_of_block z8 rfl
  have y6 : w8.cell? ⟨w.heap.size + 1, 6, none⟩ = some (.slice none 0 0) := cell_of_block z8 rfl
  have y7 : w8.cell? ⟨w.heap.size + 1, 7, none⟩ = some (.slice none 0 0) := cell_of_block z8 rfl
  have y8 := block_lt z8
  clear z8 z0 f0 z1 f1 z2 f2 z3 f3 z4 f4 z5 f5 z6 f6 z7 f7 KS KZ
  have hss := HV.out.2.2.2
  refine bodyPost_ret (v := .tuple #[.agg #[.slice none 0 0, .int .u16 0, .int .u16 0, .int .u32 0, .slice none 0 0, .slice none 0 0, .slice none 0 0, .slice none 0 0], .int .i64 2]) ?_ rfl ⟨rfl, ?_⟩
  · simp [results, Try.results11, go_sem, y0, y1, y2, y3, y4, y5, y6, y7]
  · exact (HV.out.1.trans (H1.out.mono (by omega))).trans (HB8.out.mono (by omega))
set_option maxRecDepth 100000 in
set_option maxHeartbeats 4000000 in
theorem record11_yes (E : Edn) (s : Sl) (w : World) (h : OsRd w s E.os) (hf : ∀ o ∈ E.os, o.d.length ≤ 65540) (hs : Say E) : Calls Try.prog 11 #[.agg #[.int .i64 E.sz, .int .i64 E.hi, .int .i64 E.ve, .bool E.dd, .slice s.a s.n s.c]] w fun e w' => ∃ x : RA, e = .returned (.tuple #[.agg (recCells x (recE E)).toArray, .int .i64 0]) ∧ Hid (RRd w' x (recE E) ∧ Below w.heap.size w w') := by
  have HO : Hid (OsRd w s E.os) := h
  have HF : Hid (∀ o ∈ E.os, o.d.length ≤ 65540) := hf
  have HD : Hid (decide (Say E) = true) := decide_eq_true hs
  have HSY : Hid (Say E) := hs
  have hz1 := hs.1
  have HR : Hid (recE E = ⟨[], 41, E.sz.toNat, ttlE E, ⟨[], [], [], obs E.os⟩⟩) := (show _ = _ from rfl)
  clear h hf hs
  generalize recE E = r at *
  obtain ⟨sz, hi, ve, dd, os⟩ := E
  obtain ⟨sa, sn, sc⟩ := s
  simp only at *
  have hwz : IntKind.u16.wrap sz = sz := by rw [IntKind.wrap_u16]; omega
  obtain ⟨n, hn⟩ : ∃ n, n = (obs os).length := ⟨_, rfl⟩
  have HN : Hid (n = (obs os).length) := hn
  obtain ⟨T, hT⟩ : ∃ T : Int, T = (ttlE ⟨sz, hi, ve, dd, os⟩ : Int) := ⟨_, rfl⟩
  have HT : Hid (T = (ttlE ⟨sz, hi, ve, dd, os⟩ : Int)) := hT
  clear hn hT
  obtain ⟨V, hV⟩ : ∃ V, V = (w.alloc (.cells #[.int .i64 sz, .int .i64 hi, .int .i64 ve, .bool dd, .slice sa sn sc] 24)).alloc (.cells #[.slice none 0 0, .int .u16 0, .int .u16 0, .int .u32 0, .slice none 0 0, .slice none 0 0, .slice none 0 0, .slice none 0 0] 37) := ⟨_, rfl⟩
  have HV : Hid (Below w.heap.size w V ∧ V.heap[w.heap.size]? = some (.cells #[.int .i64 sz, .int .i64 hi, .int .i64 ve, .bool dd, .slice sa sn sc] 24) ∧ V.heap[w.heap.size + 1]? = some (.cells #[.slice none 0 0, .int .u16 0, .int .u16 0, .int .u32 0, .slice none 0 0, .slice none 0 0, .slice none 0 0, .slice none 0 0] 37) ∧ V.heap.size = w.heap.size + 1 + 1) := by
    rw [hV]
    refine ⟨((Below.refl _ _).alloc (Nat.le_refl _) _).alloc (by simp) _, block_alloc (alloc_at _ _) _, ?_, by simp⟩
    have := alloc_at (w.alloc (.cells #[.int .i64 sz, .int .i64 hi, .int .i64 ve, .bool dd, .slice sa sn sc] 24)) (.cells #[.slice none 0 0, .int .u16 0, .int .u16 0, .int .u32 0, .slice none 0 0, .slice none 0 0, .slice none 0 0, .slice none 0 0] 37)
    simp only [World.size_alloc] at this
    exact this
  have KS : ∀ W, Below V.heap.size V W → W.cell? ⟨w.heap.size, 0, none⟩ = some (.int .i64 sz) ∧ W.cell? ⟨w.heap.size, 1, none⟩ = some (.int .i64 hi) ∧ W.cell? ⟨w.heap.size, 2, none⟩ = some (.int .i64 ve) ∧ W.cell? ⟨w.heap.size, 3, none⟩ = some (.bool dd) ∧ W.cell? ⟨w.heap.size, 4, none⟩ = some (.slice sa sn sc) := fun W hb => by
    have m := (hb.block _ (block_lt HV.out.2.1)).trans HV.out.2.1
    exact ⟨cell_of_block m rfl, cell_of_block m rfl, cell_of_block m rfl, cell_of_block m rfl, cell_of_block m rfl⟩
  have KZ : ∀ W, Below V.heap.size V W → Hid (W.heap[w.heap.size + 1]? = some (.cells #[.slice none 0 0, .int .u16 0, .int .u16 0, .int .u32 0, .slice none 0 0, .slice none 0 0, .slice none 0 0, .slice none 0 0] 37)) := fun W hb => (hb.block _ (block_lt HV.out.2.2.1)).trans HV.out.2.2.1
  have p0 := block_lt HV.out.2.1
  have p1 := block_lt HV.out.2.2.1
  have KM := Lib.hid (may36 ⟨sz, hi, ve, dd, os⟩ ⟨sa, sn, sc⟩ V (HO.out.below HV.out.1) HF.out)
  go_enter Try.func11, Try.ntmps11
  go_wp2_with fail
  rw [← hV]
  obtain ⟨c0, c1, c2, c3, c4⟩ := KS V (Below.refl _ _)
  have HVV : Hid (V = (w.alloc (.cells #[.int .i64 sz, .int .i64 hi, .int .i64 ve, .bool dd, .slice sa sn sc] 24)).alloc (.cells #[.slice none 0 0, .int .u16 0, .int .u16 0, .int .u32 0, .slice none 0 0, .slice none 0 0, .slice none 0 0, .slice none 0 0] 37)) := hV
  clear hV
  go_wp2_with fail
  refine KM.out.mono ?_
  rintro e w1 ⟨rfl, H1⟩
  clear c0 c1 c2 c3 c4
  rw [HD.out]
  obtain ⟨d0, d1, d2, d3, d4⟩ := KS w1 H1.out
  have q0 : w.heap.size < w1.heap.size := Nat.lt_of_lt_of_le p0 H1.out.size
  have q1 : w.heap.size + 1 < w1.heap.size := Nat.lt_of_lt_of_le p1 H1.out.size
  have K37 : ∀ W : World, Hid (Calls Try.prog 37 #[.agg #[.int .i64 sz, .int .i64 hi, .int .i64 ve, .bool dd, .slice sa sn sc]] W fun e w' => e = .returned (.int .u32 T) ∧ Hid (Below W.heap.size W w')) := fun W => by
    rw [HT.out]
    exact ttl37 ⟨sz, hi, ve, dd, os⟩ ⟨sa, sn, sc⟩ W HSY.out
  have K38 : ∀ W : World, Below w.heap.size w W → Hid (Calls Try.prog 38 #[.slice sa sn sc] W fun e w' => ∃ g, e = .returned (.slice (some ⟨g, 0, none⟩) n n) ∧ Hid (W.heap.size ≤ g ∧ Blk w' g (obs os) ∧ Below W.heap.size W w')) := fun W hb => by
    rw [HN.out]
    exact written38 ⟨sa, sn, sc⟩ os W (HO.out.below hb) HSY.out.2.2.2
  have HB1 : Hid (Below V.heap.size V w1) := H1.out
  go_upto_region 3 with fail
  go_region_held3 (fun W => W.cell? ⟨w.heap.size, 0, none⟩ = some (.int .i64 sz) ∧ W.cell? ⟨w.heap.size, 1, none⟩ = some (.int .i64 hi) ∧ W.cell? ⟨w.heap.size, 2, none⟩ = some (.int .i64 ve) ∧ W.cell? ⟨w.heap.size, 3, none⟩ = some (.bool dd) ∧ W.cell? ⟨w.heap.size, 4, none⟩ = some (.slice sa sn sc)) (first | exact ⟨(by rw [set_ne _ _ _ _ (by simp), set_ne _ _ _ _ (by simp), set_ne _ _ _ _ (by simp), set_ne _ _ _ _ (by simp), set_ne _ _ _ _ (by simp), set_ne _ _ _ _ (by simp), set_ne _ _ _ _ (by simp), set_ne _ _ _ _ (by simp)]; exact (KS _ HB7.out).1), (by rw [set_ne _ _ _ _ (by simp), set_ne _ _ _ _ (by simp), set_ne _ _ _ _ (by simp), set_ne _ _ _ _ (by simp), set_ne _ _ _ _ (by simp), set_ne _ _ _ _ (by simp), set_ne _ _ _ _ (by simp), set_ne _ _ _ _ (by simp)]; exact (KS _ HB7.out).2.1), (by rw [set_ne _ _ _ _ (by simp), set_ne _ _ _ _ (by simp), set_ne _ _ _ _ (by simp), set_ne _ _ _ _ (by simp), set_ne _ _ _ _ (by simp), set_ne _ _ _ _ (by simp), set_ne _ _ _ _ (by simp), set_ne _ _ _ _ (by simp)]; exact (KS _ HB7.out).2.2.1), (by rw [set_ne _ _ _ _ (by simp), set_ne _ _ _ _ (by simp), set_ne _ _ _ _ (by simp), set_ne _ _ _ _ (by simp), set_ne _ _ _ _ (by simp), set_ne _ _ _ _ (by simp), set_ne _ _ _ _ (by simp), set_ne _ _ _ _ (by simp)]; exact (KS _ HB7.out).2.2.2.1), (by rw [set_ne _ _ _ _ (by simp), set_ne _ _ _ _ (by simp), set_ne _ _ _ _ (by simp), set_ne _ _ _ _ (by simp), set_ne _ _ _ _ (by simp), set_ne _ _ _ _ (by simp), set_ne _ _ _ _ (by simp), set_ne _ _ _ _ (by simp)]; exact (KS _ HB7.out).2.2.2.2)⟩ | exact KS _ HB7.out | exact KS _ HB6.out | exact KS _ HB1.out.drew | exact KS _ HB1.out) (first
    | (go_at_call 37; refine Calls.mono (K37 _).out ?_; rintro e w6 ⟨rfl, H6⟩; have HB6 : Hid (Below V.heap.size V w6) := (by first | exact HB1.out.drew.trans (H6.out.mono HB1.out.size) | exact HB1.out.trans (H6.out.mono HB1.out.size)))
    | (go_at_call 38; refine Calls.mono (K38 _ ?hb).out ?_; (case hb => first | exact HV.out.1.trans (HB6.out.mono HV.out.1.size) | exact (HV.out.1.trans (HB6.out.mono HV.out.1.size)).drew); rintro e w7 ⟨g7, rfl, H7⟩; have HB7 : Hid (Below V.heap.size V w7) := (by first | exact HB6.out.trans (H7.out.2.2.mono HB6.out.size) | exact HB6.out.drew.trans (H7.out.2.2.mono HB6.out.size)); have z := KZ w7 HB7.out; have z0 : w7.cell? ⟨w.heap.size + 1, 0, none⟩ = some (.slice none 0 0) := (cell_of_block z.out rfl); have z1 : w7.cell? ⟨w.heap.size + 1, 1, none⟩ = some (.int .u16 0) := (cell_of_block z.out rfl); have z2 : w7.cell? ⟨w.heap.size + 1, 2, none⟩ = some (.int .u16 0) := (cell_of_block z.out rfl); have z3 : w7.cell? ⟨w.heap.size + 1, 3, none⟩ = some (.int .u32 0) := (cell_of_block z.out rfl); have z4 : w7.cell? ⟨w.heap.size + 1, 4, none⟩ = some (.slice none 0 0) := (cell_of_block z.out rfl); have z5 : w7.cell? ⟨w.heap.size + 1, 5, none⟩ = some (.slice none 0 0) := (cell_of_block z.out rfl); have z6 : w7.cell? ⟨w.heap.size + 1, 6, none⟩ = some (.slice none 0 0) := (cell_of_block z.out rfl); have z7 : w7.cell? ⟨w.heap.size + 1, 7, none⟩ = some (.slice none 0 0) := (cell_of_block z.out rfl); have f0 : w7.frozen? ⟨w.heap.size + 1, 0, none⟩ = false := (frozen_of_block z.out); have f1 : w7.frozen? ⟨w.heap.size + 1, 1, none⟩ = false := (frozen_of_block z.out); have f2 : w7.frozen? ⟨w.heap.size + 1, 2, none⟩ = false := (frozen_of_block z.out); have f3 : w7.frozen? ⟨w.heap.size + 1, 3, none⟩ = false := (frozen_of_block z.out); have f4 : w7.frozen? ⟨w.heap.size + 1, 4, none⟩ = false := (frozen_of_block z.out); have f5 : w7.frozen? ⟨w.heap.size + 1, 5, none⟩ = false := (frozen_of_block z.out); have f6 : w7.frozen? ⟨w.heap.size + 1, 6, none⟩ = false := (frozen_of_block z.out); have f7 : w7.frozen? ⟨w.heap.size + 1, 7, none⟩ = false := (frozen_of_block z.out); have p7 := block_lt z.out)
    | fail)
  have z8 : ((((((((w7.setCell ⟨w.heap.size + 1, 0, none⟩ (.slice none 0 0)).setCell ⟨w.heap.size + 1, 1, none⟩ (.int .u16 41)).setCell ⟨w.heap.size + 1, 2, none⟩ (.int .u16 sz)).setCell ⟨w.heap.size + 1, 3, none⟩ (.int .u32 T)).setCell ⟨w.heap.size + 1, 4, none⟩ (.slice none 0 0)).setCell ⟨w.heap.size + 1, 5, none⟩ (.slice none 0 0)).setCell ⟨w.heap.size + 1, 6, none⟩ (.slice none 0 0)).setCell ⟨w.heap.size + 1, 7, none⟩ (.slice (some ⟨g7, 0, none⟩) n n)).heap[w.heap.size + 1]? = some (.cells #[.slice none 0 0, .int .u16 41, .int .u16 sz, .int .u32 T, .slice none 0 0, .slice none 0 0, .slice none 0 0, .slice (some ⟨g7, 0, none⟩) n n] 37) := by
    exact put8 z.out _ _ _ _ _ _ _ _
  have HO8 : Hid (∀ j, j ≠ w.heap.size + 1 → ((((((((w7.setCell ⟨w.heap.size + 1, 0, none⟩ (.slice none 0 0)).setCell ⟨w.heap.size + 1, 1, none⟩ (.int .u16 41)).setCell ⟨w.heap.size + 1, 2, none⟩ (.int .u16 sz)).setCell ⟨w.heap.size + 1, 3, none⟩ (.int .u32 T)).setCell ⟨w.heap.size + 1, 4, none⟩ (.slice none 0 0)).setCell ⟨w.heap.size + 1, 5, none⟩ (.slice none 0 0)).setCell ⟨w.heap.size + 1, 6, none⟩ (.slice none 0 0)).setCell ⟨w.heap.size + 1, 7, none⟩ (.slice (some ⟨g7, 0, none⟩) n n)).heap[j]? = w7.heap[j]?) := fun j hj => put8_other w7 (w.heap.size + 1) _ _ _ _ _ _ _ _ j hj
  have HB8 : Hid (Below V.heap.size V w7 ∧ Below (w.heap.size + 1) w7 ((((((((w7.setCell ⟨w.heap.size + 1, 0, none⟩ (.slice none 0 0)).setCell ⟨w.heap.size + 1, 1, none⟩ (.int .u16 41)).setCell ⟨w.heap.size + 1, 2, none⟩ (.int .u16 sz)).setCell ⟨w.heap.size + 1, 3, none⟩ (.int .u32 T)).setCell ⟨w.heap.size + 1, 4, none⟩ (.slice none 0 0)).setCell ⟨w.heap.size + 1, 5, none⟩ (.slice none 0 0)).setCell ⟨w.heap.size + 1, 6, none⟩ (.slice none 0 0)).setCell ⟨w.heap.size + 1, 7, none⟩ (.slice (some ⟨g7, 0, none⟩) n n))) := ⟨HB7.out, put8_below w7 (w.heap.size + 1) _ _ _ _ _ _ _ _⟩
  generalize ((((((((w7.setCell ⟨w.heap.size + 1, 0, none⟩ (.slice none 0 0)).setCell ⟨w.heap.size + 1, 1, none⟩ (.int .u16 41)).setCell ⟨w.heap.size + 1, 2, none⟩ (.int .u16 sz)).setCell ⟨w.heap.size + 1, 3, none⟩ (.int .u32 T)).setCell ⟨w.heap.size + 1, 4, none⟩ (.slice none 0 0)).setCell ⟨w.heap.size + 1, 5, none⟩ (.slice none 0 0)).setCell ⟨w.heap.size + 1, 6, none⟩ (.slice none 0 0)).setCell ⟨w.heap.size + 1, 7, none⟩ (.slice (some ⟨g7, 0, none⟩) n n)) = w8 at *
  have y0 : w8.cell? ⟨w.heap.size + 1, 0, none⟩ = some (.slice none 0 0) := cell_of_block z8 rfl
  have y1 : w8.cell? ⟨w.heap.size + 1, 1, none⟩ = some (.int .u16 41) := cell_of_block z8 rfl
  have y2 : w8.cell? ⟨w.heap.size + 1, 2, none⟩ = some (.int .u16 sz) := cell_of_block z8 rfl
  have y3 : w8.cell? ⟨w.heap.size + 1, 3, none⟩ = some (.int .u32 T) := cell_of_block z8 rfl
  have y4 : w8.cell? ⟨w.heap.size + 1, 4, none⟩ = some (.slice none 0 0) := cell_of_block z8 rfl
  have y5 : w8.cell? ⟨w.heap.size + 1, 5, none⟩ = some (.slice none 0 0) := cell_of_block z8 rfl
  have y6 : w8.cell? ⟨w.heap.size + 1, 6, none⟩ = some (.slice none 0 0) := cell_of_block z8 rfl
  have y7 : w8.cell? ⟨w.heap.size + 1, 7, none⟩ = some (.slice (some ⟨g7, 0, none⟩) n n) := cell_of_block z8 rfl
  have y8 := block_lt z8
  clear z8 z0 f0 z1 f1 z2 f2 z3 f3 z4 f4 z5 f5 z6 f6 z7 f7 KS KZ
  go_wp2
  have hs := HV.out.2.2.2
  have hv6 := HB6.out.size
  have hg7 := H7.out.1
  have hblk : Blk w8 g7 (obs os) := H7.out.2.1.same (HO8.out g7 (by omega))
  have hsay := HSY.out
  have hcap : n ≤ 65535 := by rw [HN.out]; exact hsay.2.2.2
  refine bodyPost_ret (v := .tuple #[.agg #[.slice none 0 0, .int .u16 41, .int .u16 sz, .int .u32 T, .slice none 0 0, .slice none 0 0, .slice none 0 0, .slice (some ⟨g7, 0, none⟩) n n], .int .i64 0]) ?_ rfl ⟨⟨nilS, ⟨nilS, nilS, nilS, ⟨some ⟨g7, 0, none⟩, n, n⟩⟩⟩, ?_, ⟨?_, ?_⟩, ?_⟩
  · simp [results, Try.results11, go_sem, y0, y1, y2, y3, y4, y5, y6, y7]
  · rw [HR.out]
    have e1 : ((sz.toNat : Nat) : Int) = sz := Int.toNat_of_nonneg hz1.1
    simp only [recCells, nilS, e1, HT.out]
    rfl
  · rw [HR.out]; exact nil_t _
  · rw [HR.out]
    exact ⟨⟨.inl rfl, rfl, ⟨Nat.le_refl _, by simp [nilS]⟩, fun _ => rfl⟩, ⟨.inl rfl, rfl, ⟨Nat.le_refl _, by simp [nilS]⟩, fun _ => rfl, fun x hx => (by cases hx)⟩, nil_t _, hblk.brd HN.out.symm (by omega)⟩
  · exact (HV.out.1.trans (HB8.out.1.mono (by omega))).trans (HB8.out.2.mono (by omega))
end Go.Proofs.Ytgeoadkcmbageaa
namespace Go.Proofs.Ytgeoadkcmbageaa
open Go.ChangeShapes Go.WideShapes Go.ChangeAt Go.RowKit
set_option linter.unusedVariables false
set_option linter.unusedSimpArgs false
theorem two_of {zs : List Int} {p : Nat} (h : p + 2 ≤ zs.length) : (zs.drop p).take 2 = [zs[p], zs[p + 1]] := by
  rw [List.drop_eq_getElem_cons (by omega), List.drop_eq_getElem_cons (by omega)]
  rfl
theorem four_of {zs : List Int} {p : Nat} (h : p + 4 ≤ zs.length) : zs.drop p = zs[p] :: zs[p + 1] :: zs[p + 2] :: zs[p + 3] :: zs.drop (p + 4) := by
  rw [List.drop_eq_getElem_cons (by omega), List.drop_eq_getElem_cons (by omega), List.drop_eq_getElem_cons (by omega), List.drop_eq_getElem_cons (by omega)]
theorem tkE_some {zs : List Int} {p n : Nat} (h : p + n ≤ zs.length) : tk zs (some p) (n : Int) = (zs.drop p).take n := by
  simp only [tk]
  rw [if_pos ⟨by omega, by omega⟩, Int.toNat_natCast]
theorem mvE_some {len p n : Nat} (h : p + n ≤ len) : mv len (some p) (n : Int) = some (p + n) := by
  simp only [mv]
  rw [if_pos ⟨by omega, by omega⟩, Int.toNat_natCast]
theorem mvE_off {len p n : Nat} (h : ¬ p + n ≤ len) : mv len (some p) (n : Int) = none := by
  simp only [mv]
  rw [if_neg (by omega)]
/-- One option more. -/
theorem read_step {zs : List Int} (hb : ∀ z ∈ zs, 0 ≤ z ∧ z ≤ 255) {p : Nat} (hp : p < zs.length) {st1 st2 st3 : Option Nat} {c n : Int} {d : List Int} (h1 : st1 = mv zs.length (some p) 2) (hc : c = val (tk zs (some p) 2)) (hn : n = val (tk zs st1 2)) (h2 : st2 = mv zs.length st1 2) (hd : d = tk zs st2 n) (h3 : st3 = mv zs.length st2 n) :
    (st3 = none ∧ gopt (zs.drop p) = none) ∨ (∃ q, st3 = some q ∧ p + 4 ≤ q ∧ q ≤ zs.length ∧ gopt (zs.drop p) = (gopt (zs.drop q)).map (⟨c.toNat, d⟩ :: ·)) := by
  by_cases g1 : p + 2 ≤ zs.length
  · rw [show (2 : Int) = ((2 : Nat) : Int) from rfl, mvE_some g1] at h1
    subst h1
    rw [show (2 : Int) = ((2 : Nat) : Int) from rfl, tkE_some g1, two_of g1] at hc
    by_cases g2 : p + 2 + 2 ≤ zs.length
    · rw [show (2 : Int) = ((2 : Nat) : Int) from rfl, mvE_some g2] at h2
      subst h2
      rw [show (2 : Int) = ((2 : Nat) : Int) from rfl, tkE_some g2, two_of g2] at hn
      have g4 : p + 4 ≤ zs.length := by omega
      have b0 := hb zs[p] (List.getElem_mem _)
      have b1 := hb zs[p + 1] (List.getElem_mem _)
      have b2 := hb zs[p + 2] (List.getElem_mem _)
      have b3 := hb zs[p + 3] (List.getElem_mem _)
      have hc' : c = 256 * zs[p] + zs[p + 1] := by rw [hc]; simp [val]; omega
      have hn' : n = 256 * zs[p + 2] + zs[p + 3] := by rw [hn]; simp [val]; omega
      obtain ⟨m, rfl⟩ : ∃ m : Nat, n = (m : Int) := ⟨n.toNat, by omega⟩
      have e4 := four_of g4
      have hg := gopt_four zs[p] zs[p + 1] zs[p + 2] zs[p + 3] (zs.drop (p + 4))
      rw [← hn', ← hc', Int.toNat_natCast, ← e4] at hg
      by_cases g5 : p + 4 + m ≤ zs.length
      · refine .inr ⟨p + 4 + m, ?_, by omega, g5, ?_⟩
        · rw [h3, mvE_some (by omega)]
        · rw [hg, if_pos (by simp; omega), List.drop_drop, hd, tkE_some (by omega)]
      · refine .inl ⟨?_, ?_⟩
        · rw [h3, mvE_off (by omega)]
        · rw [hg, if_neg (by simp; omega)]
    · rw [show (2 : Int) = ((2 : Nat) : Int) from rfl, mvE_off g2] at h2
      subst h2
      refine .inl ⟨by rw [h3]; rfl, gopt_short (by simp; omega) (by simp; omega)⟩
  · rw [show (2 : Int) = ((2 : Nat) : Int) from rfl, mvE_off g1] at h1
    subst h1
    refine .inl ⟨by rw [h3, h2]; rfl, gopt_short (by simp; omega) (by simp; omega)⟩
theorem tk_val2 {zs : List Int} (hb : ∀ z ∈ zs, 0 ≤ z ∧ z ≤ 255) (st : Option Nat) : 0 ≤ val (tk zs st 2) ∧ val (tk zs st 2) ≤ 65535 := by
  have h1 := tk_bytes zs st 2 hb
  have h2 := tk_len zs st 2
  have h3 := val_bd _ h1
  have h4 : (256 : Int) ^ (tk zs st 2).length ≤ 256 ^ 2 := by
    have h5 : (tk zs st 2).length ≤ 2 := h2
    rcases (show (tk zs st 2).length = 0 ∨ (tk zs st 2).length = 1 ∨ (tk zs st 2).length = 2 by omega) with h | h | h <;> rw [h] <;> decide
  omega
/-- An option's bytes, in a block of their own, beside a list's. -/
def ODt (B : Nat) (w : World) (g : Option Nat) (x : Sl) (zs : List Int) : Prop := BRd w x zs ∧ (zs = [] ∨ ∃ b o, x.a = some ⟨b, o, none⟩ ∧ B ≤ b ∧ b < w.heap.size ∧ some b ≠ g)
theorem ODt.go {B : Nat} {w w' : World} {g g' : Option Nat} {x : Sl} {zs : List Int} (h : ODt B w g x zs) (hs : w.heap.size ≤ w'.heap.size) (hb : ∀ j, B ≤ j → j < w.heap.size → some j ≠ g → w'.heap[j]? = w.heap[j]?) (hg : ∀ b, b < w.heap.size → some b ≠ g → some b ≠ g') : ODt B w' g' x zs := by
  obtain ⟨h1, h2⟩ := h
  rcases h2 with h2 | ⟨b, o, e1, e2, e3, e4⟩
  · exact ⟨⟨⟨.inl h2, h1.rd.2⟩, h1.len, h1.cap, h1.nil⟩, .inl h2⟩
  · refine ⟨⟨⟨?_, h1.rd.2⟩, h1.len, h1.cap, h1.nil⟩, .inr ⟨b, o, e1, e2, Nat.lt_of_lt_of_le e3 hs, hg b e3 e4⟩⟩
    rcases h1.rd.1 with h | ⟨b', o', g1, g2, g3⟩
    · exact .inl h
    · rw [e1] at g1
      cases g1
      refine .inr ⟨b, o, e1, Nat.lt_of_lt_of_le e3 hs, fun i hi => ?_⟩
      rw [← g3 i hi]
      simp only [World.cell?, hb b e2 e3 e4]
def oCells (x : Sl) (o : Opt) : List Value := [.int .u16 (o.cd : Int), .slice x.a x.n x.c]
def cellsO (ps : List (Sl × Opt)) : List Value := ps.flatMap fun p => oCells p.1 p.2
theorem cellsO_at (ps : List (Sl × Opt)) (k : Nat) (h : k < ps.length) (j : Nat) (hj : j < 2) : (cellsO ps)[k * 2 + j]? = (oCells ps[k].1 ps[k].2)[j]? := by
  induction ps generalizing k with
  | nil => simp at h
  | cons p ws ih =>
    have hc : cellsO (p :: ws) = oCells p.1 p.2 ++ cellsO ws := by simp [cellsO]
    have h8 : (oCells p.1 p.2).length = 2 := rfl
    rw [hc]
    cases k with
    | zero => rw [List.getElem?_append_left (by rw [h8]; omega)]; simp
    | succ k =>
      have := ih k (by simpa using h)
      rw [List.getElem?_append_right (by rw [h8]; omega), h8, show (k + 1) * 2 + j - 2 = k * 2 + j by omega, this]
      simp
theorem cellsO_app (a b : List (Sl × Opt)) : cellsO (a ++ b) = cellsO a ++ cellsO b := by simp [cellsO]
/-- A list of options of one's own. -/
def OwO (B : Nat) (w : World) (v : Value) (os : List Opt) : Prop :=
  ∃ ps : List (Sl × Opt), ps.map (·.2) = os ∧ w.ownsRow B 68 2 v ps.length (cellsO ps) ∧ ∀ p ∈ ps, ODt B w v.ownBlock p.1 p.2.d ∧ p.2.cd < 65536
theorem OwO.nil (B : Nat) (w : World) : OwO B w (.slice none 0 0) [] := ⟨[], rfl, ⟨rfl, .inl ⟨rfl, rfl⟩⟩, by simp⟩
theorem OwO.rd {B : Nat} {w : World} {v : Value} {os : List Opt} (h : OwO B w v os) : ∃ s : Sl, v = .slice s.a s.n s.c ∧ OsRd w s os := by
  obtain ⟨ps, rfl, h2, h3⟩ := h
  have hcd : ∀ o ∈ ps.map (·.2), o.cd < 65536 := by
    intro o ho
    obtain ⟨p, hp, rfl⟩ := List.mem_map.1 ho
    exact (h3 p hp).2
  rcases h2.2 with ⟨rfl, h0⟩ | ⟨g, cap, cur, rfl, hb, hg, k1, k2, k3, k4⟩
  · have : ps = [] := List.length_eq_zero_iff.1 h0
    subst this
    exact ⟨⟨none, 0, 0⟩, rfl, OsRd.none w⟩
  · refine ⟨⟨some ⟨g, 0, none⟩, ps.length, cap⟩, rfl, .inr ⟨g, 0, rfl, (Array.getElem?_eq_some_iff.1 hg).1, fun i hi => ?_⟩, by simp, ⟨k1, by simpa only [maxLen] using k2⟩, by simp, hcd⟩
    have hi' : i < ps.length := by simpa using hi
    have ad : ∀ j, (⟨g, 0, none⟩ : Addr).add j = ⟨g, 0 + j, none⟩ := fun j => by unfold Addr.add; split <;> simp_all
    have hgi : (ps.map (·.2))[i] = ps[i].2 := by simp
    rw [hgi]
    have c0 := h2.cells (g := g) rfl (i * 2 + 0) _ (cellsO_at ps i hi' 0 (by omega))
    have c1 := h2.cells (g := g) rfl (i * 2 + 1) _ (cellsO_at ps i hi' 1 (by omega))
    rw [ad] at c0 c1
    exact ⟨ps[i].1, c0, by rw [Nat.add_assoc]; exact c1, (h3 ps[i] (List.getElem_mem _)).1.1⟩
theorem inf68 : ∃ i, Try.prog.info? 68 = some i ∧ i.zero = some (.agg #[.int .u16 0, .slice none 0 0]) ∧ i.size = 2 ∧ i.bytes = 32 := by
  obtain ⟨i, h1, h2⟩ := Option.map_eq_some_iff.1 (show (Try.prog.info? 68).map (fun i => (i.zero, i.size, i.bytes)) = some (some (.agg #[.int .u16 0, .slice none 0 0]), 2, 32) by kernel_rfl)
  simp only [Prod.mk.injEq] at h2
  exact ⟨i, h1, h2.1, h2.2.1, h2.2.2⟩
theorem two_new (w : World) (a b : Value) (t : TypeId) : ∀ j u, [a, b][j]? = some u → (w.alloc (.cells #[a, b] t)).cell? ((⟨w.heap.size, 0, none⟩ : Addr).add j) = some u := by
  intro j u hu
  have ad : (⟨w.heap.size, 0, none⟩ : Addr).add j = ⟨w.heap.size, j, none⟩ := by unfold Addr.add; split <;> simp_all
  rw [ad]
  refine box_cell (heap_alloc_new w _) j u ?_
  simpa using hu
/-- Take, its bytes as a slice. -/
theorem take66 (g : Nat) (a : Option Addr) (len cap : Nat) (zs : List Int) (st : Option Nat) (n : Int) (w : World) (hs : RSt w g a len cap st) (hr : Rd w a zs) (hl : zs.length = len) (hc : len ≤ cap) (hm : len ≤ 140737488355328) (hd : a = none → cap = 0) (ho : Off a g) :
    Calls Try.prog 66 #[.pointer (some ⟨g, 0, none⟩), .int .i64 n] w fun e w' => ∃ x : Sl, e = .returned (.slice x.a x.n x.c) ∧ Hid (ODt w.heap.size w' none x (tk zs st n) ∧ RSt w' g a len cap (mv len st n) ∧ w.grownBy w' (some g)) := by
  have hz := tk_bytes zs st n hr.2
  refine (rtake_any g a len cap zs st n w hs hr hl hc hm hd ho).mono ?_
  rintro e w' ⟨v, ys, rfl, H⟩
  obtain ⟨h1, h2, h3, h4⟩ := H.out
  rcases h1 with ⟨rfl, e2, e3⟩ | ⟨q, rfl, e2, e3, e4, e5⟩
  · have hnil : tk zs st n = [] := List.length_eq_zero_iff.1 e2
    refine ⟨⟨none, 0, 0⟩, rfl, ⟨⟨⟨.inl hnil, hz⟩, by rw [hnil]; rfl, ⟨Nat.le_refl _, by simp⟩, fun _ => rfl⟩, .inl hnil⟩, h3, h4⟩
  · refine ⟨⟨some ⟨q, 0, none⟩, (tk zs st n).length, ys.length⟩, rfl, ⟨⟨⟨.inr ⟨q, 0, rfl, e3.lt, fun i hi => ?_⟩, hz⟩, rfl, ⟨e4, by simpa only [maxLen] using e5⟩, by simp⟩, .inr ⟨q, 0, rfl, e2, e3.lt, by simp⟩⟩, h3, h4⟩
    have := e3.cell i (by omega)
    rw [Nat.zero_add, this]
    congr 2
    have : (ys.take (tk zs st n).length)[i]? = (tk zs st n)[i]? := by rw [h2]
    rw [List.getElem?_take_of_lt hi, List.getElem?_eq_getElem (by omega), List.getElem?_eq_getElem hi] at this
    rw [List.getD_eq_getElem?_getD, List.getD_eq_getElem?_getD, List.getElem?_eq_getElem (by omega), List.getElem?_eq_getElem hi, this]
end Go.Proofs.Ytgeoadkcmbageaa
