/- The reader of octets, for names. -/
import Derived.Test.YtkbpjaojgkpffaaOcb
namespace Go.Proofs.Ytkbpjaojgkpffaa
open Go.ChangeShapes Go.WideShapes Go.ChangeAt Go.RowKit
set_option linter.unusedVariables false
set_option linter.unusedSimpArgs false
attribute [local go_sem] view0 view1 view2 view3 slice_is_nil

theorem new_below (w : World) (o : Obj) : Below w.heap.size w (w.alloc o) := (Below.refl _ _).alloc (Nat.le_refl _) _
attribute [local go_sem] view0 view1 view2 view3

/-- A reader's state: its place, or none where it is bad. -/
def RSt (w : World) (g : Nat) (a : Option Addr) (len cap : Nat) : Option Nat → Prop
  | some k => RBlk w g (.slice a len cap) k false ∧ k ≤ len
  | none => RBlk w g (.slice none 0 0) 0 true
/-- What becomes of the state by going on over n bytes, by going to a place; the bytes that are gone over. -/
def mv (len : Nat) (st : Option Nat) (n : Int) : Option Nat := match st with
  | some k => if 0 ≤ n ∧ k + n ≤ len then some (k + n.toNat) else none
  | none => none
def tk (zs : List Int) (st : Option Nat) (n : Int) : List Int := match st with
  | some k => if 0 ≤ n ∧ k + n ≤ zs.length then (zs.drop k).take n.toNat else []
  | none => []
def pos : Option Nat → Int
  | some k => k
  | none => 0
def lft (len : Nat) : Option Nat → Int
  | some k => (len : Int) - (k : Int)
  | none => 0
theorem mv_zero (len : Nat) (st : Option Nat) (h : ∀ k, st = some k → k ≤ len) : mv len st 0 = st := by
  cases st with
  | none => rfl
  | some k => have := h k rfl; simp [mv]; omega
theorem tk_len (zs : List Int) (st : Option Nat) (n : Nat) : (tk zs st n).length ≤ n := by
  unfold tk
  split
  · split
    · simp; omega
    · simp
  · simp
theorem tk_bytes (zs : List Int) (st : Option Nat) (n : Int) (h : ∀ z ∈ zs, 0 ≤ z ∧ z ≤ 255) : ∀ z ∈ tk zs st n, 0 ≤ z ∧ z ≤ 255 := by
  unfold tk
  split
  · split
    · intro z hz; exact h z (List.mem_of_mem_drop (List.mem_of_mem_take hz))
    · simp
  · simp
theorem RSt.le {w : World} {g : Nat} {a : Option Addr} {len cap : Nat} {st : Option Nat} (h : RSt w g a len cap st) : ∀ k, st = some k → k ≤ len := by
  rintro k rfl; exact h.2
theorem RSt.lt {w : World} {g : Nat} {a : Option Addr} {len cap : Nat} {st : Option Nat} (h : RSt w g a len cap st) : g < w.heap.size := by
  cases st with
  | none => exact RBlk.lt h
  | some k => exact RBlk.lt h.1
theorem RSt.same {w w' : World} {g : Nat} {a : Option Addr} {len cap : Nat} {st : Option Nat} (h : RSt w g a len cap st) (hb : w'.heap[g]? = w.heap[g]?) : RSt w' g a len cap st := by
  cases st with
  | none => exact RBlk.same h hb
  | some k => exact ⟨RBlk.same h.1 hb, h.2⟩
theorem below_grown {w w' : World} {row : Option Nat} (h : Below w.heap.size w w') : w.grownBy w' row := ⟨h.os, h.tape, h.output, h.size, fun k hk _ => h.block k hk⟩
theorem move_any (g : Nat) (a : Option Addr) (len cap : Nat) (zs : List Int) (st st' : Option Nat) (n : Int) (c : Nat) (w : World) (hs : RSt w g a len cap st) (hr : Rd w a zs) (hl : zs.length = len) (hc : len ≤ cap) (hm : len ≤ 140737488355328) (hd : a = none → cap = 0) (ho : Off a g)
    (hst : mv len st n = st') (htk : (tk zs st n).length = c) :
    Calls Try.prog 94 #[.pointer (some ⟨g, 0, none⟩), .int .u8 0, .int .i64 n] w fun e w' => ∃ ov oc, e = .returned (.agg #[.slice ov c oc, .int .i64 (pos st'), .int .i64 (lft len st'), .bool st'.isNone]) ∧
      Hid (Rd w' ov (tk zs st n) ∧ (ov = none → oc = 0) ∧ RSt w' g a len cap st' ∧ w.grownBy w' (some g)) := by
  subst hst; subst htk
  cases st with
  | none =>
    refine (move_isbad g 0 n _ _ w hs).mono ?_
    rintro e w' ⟨rfl, hb⟩
    exact ⟨none, 0, rfl, ⟨.inl rfl, by simp [tk]⟩, fun _ => rfl, RSt.same (st := none) hs (hb.block g (RBlk.lt hs)), below_grown hb⟩
  | some k =>
    by_cases h : 0 ≤ n ∧ k + n ≤ len
    · obtain ⟨m, rfl⟩ := Int.eq_ofNat_of_zero_le h.1
      have hkm : k + m ≤ len := by omega
      have e1 : mv len (some k) m = some (k + m) := by simp only [mv]; rw [if_pos h]; rfl
      have e2 : tk zs (some k) m = (zs.drop k).take m := by simp only [tk]; rw [if_pos (by rw [hl]; exact h)]; rfl
      have e3 : ((zs.drop k).take m).length = m := by simp; omega
      rw [e1, e2, e3]
      refine (move_here g a len cap k m zs w hs.1 hr hl hc hm hkm ho).mono ?_
      rintro e w' ⟨ov, rfl, H⟩
      obtain ⟨h1, h2, h3, h4⟩ := H.out
      refine ⟨ov, cap - k, by simp [pos, lft], h1, fun e => by rw [hd (h2 e)]; omega, ⟨by simpa using h3, hkm⟩, h4⟩
    · have e1 : mv len (some k) n = none := by simp only [mv]; rw [if_neg h]
      have e2 : tk zs (some k) n = [] := by simp only [tk]; rw [if_neg (by rw [hl]; exact h)]
      rw [e1, e2]
      have hkl := hs.2
      refine (move_here_out g a len cap k n w hs.1 hc hm ⟨by omega, by omega⟩ (by omega)).mono ?_
      rintro e w' ⟨rfl, H⟩
      exact ⟨none, 0, rfl, ⟨.inl rfl, by simp⟩, fun _ => rfl, H.out.1, H.out.2⟩
theorem rbyte_any (g : Nat) (a : Option Addr) (len cap : Nat) (zs : List Int) (st : Option Nat) (w : World) (hs : RSt w g a len cap st) (hr : Rd w a zs) (hl : zs.length = len) (hc : len ≤ cap) (hm : len ≤ 140737488355328) (hd : a = none → cap = 0) (ho : Off a g) :
    Calls Try.prog 75 #[.pointer (some ⟨g, 0, none⟩)] w fun e w' => e = .returned (.int .i64 (val (tk zs st 1))) ∧ Hid (RSt w' g a len cap (mv len st 1) ∧ w.grownBy w' (some g)) := by
  have H0 : Hid (RSt w g a len cap st ∧ Rd w a zs ∧ zs.length = len ∧ (a = none → cap = 0) ∧ Off a g) := ⟨hs, hr, hl, hd, ho⟩
  clear hs hr hl hd ho
  obtain ⟨st', hst⟩ : ∃ x, mv len st 1 = x := ⟨_, rfl⟩
  obtain ⟨c, htk⟩ : ∃ x, (tk zs st 1).length = x := ⟨_, rfl⟩
  have hc4 : c ≤ 1 := by have : (tk zs st (1 : Int)).length ≤ 1 := tk_len zs st 1; omega
  have hv := val_small4 (tk zs st 1) (tk_bytes zs st 1 H0.out.2.1.2) (by omega)
  have HT : Hid (mv len st 1 = st' ∧ (tk zs st 1).length = c) := ⟨hst, htk⟩
  clear hst htk
  rw [HT.out.1]
  go_enter Try.func75, Try.ntmps75
  go_wp2_with fail
  refine (move_any g a len cap zs st st' 1 c _ H0.out.1 H0.out.2.1 H0.out.2.2.1 hc hm H0.out.2.2.2.1 H0.out.2.2.2.2 HT.out.1 HT.out.2).mono ?_
  rintro e w1 ⟨ov, oc, rfl, H1⟩
  go_wp2_with fail
  refine (number_any ov c oc (tk zs st 1) _ H1.out.1 HT.out.2 (by omega)).mono ?_
  rintro e w2 ⟨rfl, rfl⟩
  go_wp2
  go_ret
  exact ⟨by simp, H1.out.2.2.1, H1.out.2.2.2⟩
theorem rtake_any (g : Nat) (a : Option Addr) (len cap : Nat) (zs : List Int) (st : Option Nat) (n : Int) (w : World) (hs : RSt w g a len cap st) (hr : Rd w a zs) (hl : zs.length = len) (hc : len ≤ cap) (hm : len ≤ 140737488355328) (hd : a = none → cap = 0) (ho : Off a g) :
    Calls Try.prog 76 #[.pointer (some ⟨g, 0, none⟩), .int .i64 n] w fun e w' => ∃ v ys, e = .returned v ∧ Hid (Own w.heap.size w' v (tk zs st n).length ys ∧ ys.take (tk zs st n).length = tk zs st n ∧ RSt w' g a len cap (mv len st n) ∧ w.grownBy w' (some g)) := by
  have H0 : Hid (RSt w g a len cap st ∧ Rd w a zs ∧ zs.length = len ∧ (a = none → cap = 0) ∧ Off a g) := ⟨hs, hr, hl, hd, ho⟩
  clear hs hr hl hd ho
  obtain ⟨st', hst⟩ : ∃ x, mv len st n = x := ⟨_, rfl⟩
  obtain ⟨c, htk⟩ : ∃ x, (tk zs st n).length = x := ⟨_, rfl⟩
  have HT : Hid (mv len st n = st' ∧ (tk zs st n).length = c) := ⟨hst, htk⟩
  have hcl : c ≤ len := by
    have h1 := H0.out.2.2.1
    rw [← htk]; unfold tk
    split
    · split
      · simp; omega
      · simp
    · simp
  clear hst htk
  rw [HT.out.1, HT.out.2]
  go_enter Try.func76, Try.ntmps76
  go_wp2_with fail
  refine (move_any g a len cap zs st st' n c _ H0.out.1 H0.out.2.1 H0.out.2.2.1 hc hm H0.out.2.2.2.1 H0.out.2.2.2.2 HT.out.1 HT.out.2).mono ?_
  rintro e w1 ⟨ov, oc, rfl, H1⟩
  cases ov with
  | none =>
    have ec : c = 0 := by
      rw [← HT.out.2]
      rcases H1.out.1.1 with h | ⟨b, o, h, _⟩
      · rw [h]; rfl
      · cases h
    have eo : oc = 0 := H1.out.2.1 rfl
    subst ec; subst eo
    go_wp2_with fail
    refine (clone_none _).mono ?_
    rintro e w2 ⟨rfl, rfl⟩
    go_wp2
    go_ret
    have et : tk zs st n = [] := List.eq_nil_of_length_eq_zero HT.out.2
    exact ⟨_, [], rfl, .inl ⟨rfl, rfl, rfl⟩, by rw [et]; rfl, H1.out.2.2.1, H1.out.2.2.2⟩
  | some x =>
    have HX : Hid (Calls Try.prog 92 #[.slice (some x) c oc] w1 fun e w' => ∃ v ys, e = .returned v ∧ Hid (Own w1.heap.size w' v c ys ∧ ys.take c = tk zs st n ∧ Below w1.heap.size w1 w')) := by
      have := clone_any x oc (tk zs st n) w1 H1.out.1 (by rw [HT.out.2]; omega)
      rw [HT.out.2] at this
      exact this
    go_wp2_with fail
    refine HX.out.mono ?_
    rintro e w2 ⟨v, ys, rfl, H2⟩
    go_wp2
    go_ret
    obtain ⟨p1, p2, p3⟩ := H2.out
    have hgs := H1.out.2.2.1.lt
    have hsz := H1.out.2.2.2.size
    refine ⟨v, ys, rfl, ?_, p2, H1.out.2.2.1.same (p3.block g hgs), ?_⟩
    · rcases p1 with h | ⟨g', h1, h2, h3⟩
      · exact .inl h
      · exact .inr ⟨g', h1, by omega, h3⟩
    · have hg := H1.out.2.2.2
      exact ⟨p3.os.trans hg.os, p3.tape.trans hg.tape, p3.output.trans hg.output, Nat.le_trans hg.size p3.size, fun j hj hne => (p3.block j (by omega)).trans (hg.block j hj hne)⟩
theorem rat_any (g : Nat) (a : Option Addr) (len cap : Nat) (zs : List Int) (st : Option Nat) (w : World) (hs : RSt w g a len cap st) (hr : Rd w a zs) (hl : zs.length = len) (hc : len ≤ cap) (hm : len ≤ 140737488355328) (hd : a = none → cap = 0) (ho : Off a g) :
    Calls Try.prog 78 #[.pointer (some ⟨g, 0, none⟩)] w fun e w' => e = .returned (.int .i64 (pos st)) ∧ Hid (RSt w' g a len cap st ∧ w.grownBy w' (some g)) := by
  have H0 : Hid (RSt w g a len cap st ∧ Rd w a zs ∧ zs.length = len ∧ (a = none → cap = 0) ∧ Off a g) := ⟨hs, hr, hl, hd, ho⟩
  clear hs hr hl hd ho
  go_enter Try.func78, Try.ntmps78
  go_wp2_with fail
  refine (move_any g a len cap zs st st 0 _ _ H0.out.1 H0.out.2.1 H0.out.2.2.1 hc hm H0.out.2.2.2.1 H0.out.2.2.2.2 (mv_zero len st H0.out.1.le) rfl).mono ?_
  rintro e w1 ⟨ov, oc, rfl, H1⟩
  go_wp2
  go_ret
  exact ⟨rfl, H1.out.2.2.1, H1.out.2.2.2⟩
theorem rbad_any (g : Nat) (a : Option Addr) (len cap : Nat) (zs : List Int) (st : Option Nat) (w : World) (hs : RSt w g a len cap st) (hr : Rd w a zs) (hl : zs.length = len) (hc : len ≤ cap) (hm : len ≤ 140737488355328) (hd : a = none → cap = 0) (ho : Off a g) :
    Calls Try.prog 77 #[.pointer (some ⟨g, 0, none⟩)] w fun e w' => e = .returned (.bool st.isNone) ∧ Hid (RSt w' g a len cap st ∧ w.grownBy w' (some g)) := by
  have H0 : Hid (RSt w g a len cap st ∧ Rd w a zs ∧ zs.length = len ∧ (a = none → cap = 0) ∧ Off a g) := ⟨hs, hr, hl, hd, ho⟩
  clear hs hr hl hd ho
  go_enter Try.func77, Try.ntmps77
  go_wp2_with fail
  refine (move_any g a len cap zs st st 0 _ _ H0.out.1 H0.out.2.1 H0.out.2.2.1 hc hm H0.out.2.2.2.1 H0.out.2.2.2.2 (mv_zero len st H0.out.1.le) rfl).mono ?_
  rintro e w1 ⟨ov, oc, rfl, H1⟩
  go_wp2
  go_ret
  exact ⟨rfl, H1.out.2.2.1, H1.out.2.2.2⟩
set_option maxRecDepth 100000 in
set_option maxHeartbeats 400000 in
theorem new_any (x : Addr) (cap : Nat) (zs : List Int) (w : World) (hr : Rd w (some x) zs) (hm : zs.length ≤ 140737488355328) :
    Calls Try.prog 74 #[.slice (some x) zs.length cap] w fun e w' => ∃ gr a' ca, e = .returned (.pointer (some ⟨gr, 0, none⟩)) ∧ Hid (w.heap.size ≤ gr ∧ RBlk w' gr (.slice a' zs.length ca) 0 false ∧ Rd w' a' zs ∧ zs.length ≤ ca ∧ (a' = none → ca = 0) ∧ Off a' gr ∧ (∀ y o, a' = some ⟨y, o, none⟩ → w.heap.size ≤ y ∧ y < w'.heap.size) ∧ Below w.heap.size w w') := by
  have HX : Hid (Calls Try.prog 92 #[.slice (some x) zs.length cap] w fun e w' => ∃ v ys, e = .returned v ∧ Hid (Own w.heap.size w' v zs.length ys ∧ ys.take zs.length = zs ∧ Below w.heap.size w w')) := clone_any x cap zs w hr hm
  clear hr hm
  generalize hl : zs.length = len at *
  have HL : Hid (zs.length = len) := hl
  clear hl
  go_enter Try.func74, Try.ntmps74
  go_wp2_with fail
  refine HX.out.mono ?_
  rintro e w1 ⟨v, ys, rfl, H1⟩
  obtain ⟨a', rfl, hoa⟩ := H1.out.1.addr
  have HO : Hid (OwnA w.heap.size w1 a' len ys ∧ ys.take len = zs ∧ Below w.heap.size w w1) := ⟨hoa, H1.out.2.1, H1.out.2.2⟩
  clear hoa H1
  generalize hy : ys.length = yl
  have HY : Hid (ys.length = yl) := hy
  clear hy
  go_wp2
  go_ret
  obtain ⟨q1, q2, q3⟩ := HO.out
  have hnb := new_below w1 (.cells #[.pointer (some ⟨w1.heap.size, 0, none⟩), .slice a' len yl, .int .i64 0, .bool false] 113)
  have hrd := q1.rdTake len
  rw [q2] at hrd
  refine ⟨w1.heap.size, a', yl, rfl, q3.size, heap_alloc_new _ _, hrd.below hnb, ?_, ?_, ?_, ?_, q3.trans (hnb.mono q3.size)⟩
  · have := q1.le.1; rw [HY.out] at this; exact this
  · intro e; have := q1.nil e; rw [HY.out] at this; exact this
  · rintro y o rfl
    have := (q1.lt y rfl).2
    omega
  · rintro y o rfl
    have h1 := (q1.lt y rfl)
    have h2 := hnb.size
    exact ⟨h1.1, by omega⟩
end Go.Proofs.Ytkbpjaojgkpffaa
