/- What the document's reader does, whatever its state. -/
import Derived.Test.YtglkjiebcmmglaaRef
namespace Go.Proofs.Ytglkjiebcmmglaa
open Go.ChangeShapes Go.WideShapes Go.ChangeAt Go.RowKit
set_option linter.unusedVariables false
set_option linter.unusedSimpArgs false

theorem refspoilt {w W : World} (g : Nat) (t : Value) (k : Int) (bad : Bool) (hb : MBlk W g t k bad) (hgr : w.grownBy W (some g)) :
    MBlk (((W.setCell ⟨g, 2, none⟩ (.bool true)).setCell ⟨g, 1, none⟩ (.int .i64 0)).setCell ⟨g, 0, none⟩ (.slice none 0 0)) g (.slice none 0 0) 0 true ∧
    w.grownBy (((W.setCell ⟨g, 2, none⟩ (.bool true)).setCell ⟨g, 1, none⟩ (.int .i64 0)).setCell ⟨g, 0, none⟩ (.slice none 0 0)) (some g) := by
  have h4 := heap_set (heap_set (heap_set hb 2 (.bool true)) 1 (.int .i64 0)) 0 (.slice none 0 0)
  refine ⟨h4.trans (by simp), hgr.os, hgr.tape, hgr.output, ?_, fun j hj hne => ?_⟩
  · have := hgr.size
    simpa [World.setCell] using this
  · have hj' : j ≠ g := fun e => hne (by rw [e])
    rw [Below.heap_setCell _ _ _ j hj', Below.heap_setCell _ _ _ j hj', Below.heap_setCell _ _ _ j hj']
    exact hgr.block j hj hne

set_option maxHeartbeats 1000000 in
theorem reftake_neg (g : Nat) (b : Option Addr) (len cap : Nat) (k n : Int) (w : World) (hb : MBlk w g (.slice b len cap) k false) (hn : n < 0) :
    Calls Try.prog 50 #[.pointer (some ⟨g, 0, none⟩), .int .i64 n] w fun e w' => e = .returned (.slice none 0 0) ∧ Hid (MBlk w' g (.slice none 0 0) 0 true ∧ w.grownBy w' (some g)) := by
  have H0 : Hid (MBlk w g (.slice b len cap) k false) := hb
  have hg := hb.lt
  have c0 := hb.c0
  have c1 := hb.c1
  have c2 := hb.c2
  have d1 : decide (n < 0) = true := by simpa using hn
  clear hb
  go_enter Try.func50, Try.ntmps50
  go_wp2_with fail
  go_quiet (fail)
  have HW : Hid (MBlk (w.drewN nq) g (.slice b len cap) k false ∧ w.grownBy (w.drewN nq) (some g)) := ⟨H0.out, rfl, rfl, rfl, Nat.le_refl _, fun _ _ _ => rfl⟩
  clear c0 c1 c2
  generalize w.drewN nq = W2 at *
  have c0 := HW.out.1.c0
  have c1 := HW.out.1.c1
  have c2 := HW.out.1.c2
  have f0 := HW.out.1.fz 0
  have f1 := HW.out.1.fz 1
  have f2 := HW.out.1.fz 2
  go_wp2
  go_ret
  exact ⟨rfl, refspoilt g _ _ _ HW.out.1 HW.out.2⟩

set_option maxHeartbeats 1000000 in
theorem reftake_far (g : Nat) (b : Option Addr) (len cap : Nat) (k n : Int) (w : World) (hb : MBlk w g (.slice b len cap) k false) (hk : 0 ≤ k ∧ k ≤ len) (hm : len ≤ 140737488355328) (h0 : 0 ≤ n) (hn : (len : Int) - k < n) :
    Calls Try.prog 50 #[.pointer (some ⟨g, 0, none⟩), .int .i64 n] w fun e w' => e = .returned (.slice none 0 0) ∧ Hid (MBlk w' g (.slice none 0 0) 0 true ∧ w.grownBy w' (some g)) := by
  have H0 : Hid (MBlk w g (.slice b len cap) k false) := hb
  have hg := hb.lt
  have c0 := hb.c0
  have c1 := hb.c1
  have c2 := hb.c2
  have d1 : decide (n < 0) = false := by simp; omega
  have hw1 : IntKind.i64.wrap ((len : Int) - k) = (len : Int) - k := by rw [IntKind.wrap_i64]; omega
  have d2 : decide ((len : Int) - k < n) = true := by simpa using hn
  clear hb
  go_enter Try.func50, Try.ntmps50
  go_wp2_with fail
  go_quiet (fail)
  have HW : Hid (MBlk (w.drewN nq) g (.slice b len cap) k false ∧ w.grownBy (w.drewN nq) (some g)) := ⟨H0.out, rfl, rfl, rfl, Nat.le_refl _, fun _ _ _ => rfl⟩
  clear c0 c1 c2
  generalize w.drewN nq = W2 at *
  have c0 := HW.out.1.c0
  have c1 := HW.out.1.c1
  have c2 := HW.out.1.c2
  have f0 := HW.out.1.fz 0
  have f1 := HW.out.1.fz 1
  have f2 := HW.out.1.fz 2
  go_wp2
  go_ret
  exact ⟨rfl, refspoilt g _ _ _ HW.out.1 HW.out.2⟩

set_option maxHeartbeats 1000000 in
theorem reftake_isbad (g : Nat) (b : Option Addr) (len cap : Nat) (k n : Int) (w : World) (hb : MBlk w g (.slice b len cap) k true)  :
    Calls Try.prog 50 #[.pointer (some ⟨g, 0, none⟩), .int .i64 n] w fun e w' => e = .returned (.slice none 0 0) ∧ Hid (MBlk w' g (.slice none 0 0) 0 true ∧ w.grownBy w' (some g)) := by
  have H0 : Hid (MBlk w g (.slice b len cap) k true) := hb
  have hg := hb.lt
  have c0 := hb.c0
  have c1 := hb.c1
  have c2 := hb.c2
  clear hb
  go_enter Try.func50, Try.ntmps50
  go_wp2_with fail
  go_quiet (fail)
  have HW : Hid (MBlk (w.drewN nq) g (.slice b len cap) k true ∧ w.grownBy (w.drewN nq) (some g)) := ⟨H0.out, rfl, rfl, rfl, Nat.le_refl _, fun _ _ _ => rfl⟩
  clear c0 c1 c2
  generalize w.drewN nq = W2 at *
  have c0 := HW.out.1.c0
  have c1 := HW.out.1.c1
  have c2 := HW.out.1.c2
  have f0 := HW.out.1.fz 0
  have f1 := HW.out.1.fz 1
  have f2 := HW.out.1.fz 2
  go_wp2
  go_ret
  exact ⟨rfl, refspoilt g _ _ _ HW.out.1 HW.out.2⟩

set_option maxHeartbeats 1000000 in
theorem refjump_ok (g : Nat) (b : Option Addr) (len cap : Nat) (k n : Int) (w : World) (hb : MBlk w g (.slice b len cap) k false) (h0 : 0 ≤ n) (hn : n ≤ len) :
    Calls Try.prog 51 #[.pointer (some ⟨g, 0, none⟩), .int .i64 n] w fun e w' => e = .returned (.tuple #[]) ∧ Hid (MBlk w' g (.slice b len cap) n false ∧ w.grownBy w' (some g)) := by
  have H0 : Hid (MBlk w g (.slice b len cap) k false) := hb
  have hg := hb.lt
  have c0 := hb.c0
  have c1 := hb.c1
  have c2 := hb.c2
  have f0 := hb.fz 0
  have f1 := hb.fz 1
  have f2 := hb.fz 2
  clear hb
  go_enter Try.func51, Try.ntmps51
  go_wp2
  go_end0
  exact ⟨rfl, heap_set H0.out 1 _, rfl, rfl, rfl, by simp [World.setCell], fun j hj hne => Below.heap_setCell _ _ _ j (fun e => hne (by rw [e]))⟩

set_option maxHeartbeats 1000000 in
theorem refjump_neg (g : Nat) (b : Option Addr) (len cap : Nat) (k n : Int) (w : World) (hb : MBlk w g (.slice b len cap) k false) (hn : n < 0) :
    Calls Try.prog 51 #[.pointer (some ⟨g, 0, none⟩), .int .i64 n] w fun e w' => e = .returned (.tuple #[]) ∧ Hid (MBlk w' g (.slice none 0 0) 0 true ∧ w.grownBy w' (some g)) := by
  have H0 : Hid (MBlk w g (.slice b len cap) k false) := hb
  have hg := hb.lt
  have c0 := hb.c0
  have c1 := hb.c1
  have c2 := hb.c2
  have f0 := hb.fz 0
  have f1 := hb.fz 1
  have f2 := hb.fz 2
  clear hb
  go_enter Try.func51, Try.ntmps51
  go_wp2
  exact bodyPost_ret (v := .tuple #[]) (by simp [results, Try.results51, go_sem]) rfl ⟨rfl, refspoilt g _ _ _ H0.out (World.grownBy.refl _ _)⟩

set_option maxHeartbeats 1000000 in
theorem refjump_far (g : Nat) (b : Option Addr) (len cap : Nat) (k n : Int) (w : World) (hb : MBlk w g (.slice b len cap) k false) (h0 : 0 ≤ n) (hn : (len : Int) < n) :
    Calls Try.prog 51 #[.pointer (some ⟨g, 0, none⟩), .int .i64 n] w fun e w' => e = .returned (.tuple #[]) ∧ Hid (MBlk w' g (.slice none 0 0) 0 true ∧ w.grownBy w' (some g)) := by
  have H0 : Hid (MBlk w g (.slice b len cap) k false) := hb
  have hg := hb.lt
  have c0 := hb.c0
  have c1 := hb.c1
  have c2 := hb.c2
  have f0 := hb.fz 0
  have f1 := hb.fz 1
  have f2 := hb.fz 2
  clear hb
  go_enter Try.func51, Try.ntmps51
  go_wp2
  exact bodyPost_ret (v := .tuple #[]) (by simp [results, Try.results51, go_sem]) rfl ⟨rfl, refspoilt g _ _ _ H0.out (World.grownBy.refl _ _)⟩

set_option maxHeartbeats 1000000 in
theorem refjump_isbad (g : Nat) (b : Option Addr) (len cap : Nat) (k n : Int) (w : World) (hb : MBlk w g (.slice b len cap) k true)  :
    Calls Try.prog 51 #[.pointer (some ⟨g, 0, none⟩), .int .i64 n] w fun e w' => e = .returned (.tuple #[]) ∧ Hid (MBlk w' g (.slice none 0 0) 0 true ∧ w.grownBy w' (some g)) := by
  have H0 : Hid (MBlk w g (.slice b len cap) k true) := hb
  have hg := hb.lt
  have c0 := hb.c0
  have c1 := hb.c1
  have c2 := hb.c2
  have f0 := hb.fz 0
  have f1 := hb.fz 1
  have f2 := hb.fz 2
  clear hb
  go_enter Try.func51, Try.ntmps51
  go_wp2
  exact bodyPost_ret (v := .tuple #[]) (by simp [results, Try.results51, go_sem]) rfl ⟨rfl, refspoilt g _ _ _ H0.out (World.grownBy.refl _ _)⟩

/-- The document's reader's state. -/
def MSt (w : World) (g : Nat) (b : Option Addr) (len cap : Nat) : Option Nat → Prop
  | some k => MBlk w g (.slice b len cap) k false ∧ k ≤ len
  | none => MBlk w g (.slice none 0 0) 0 true
theorem MSt.le {w : World} {g : Nat} {a : Option Addr} {len cap : Nat} {st : Option Nat} (h : MSt w g a len cap st) : ∀ k, st = some k → k ≤ len := by
  rintro k rfl; exact h.2
theorem MSt.lt {w : World} {g : Nat} {a : Option Addr} {len cap : Nat} {st : Option Nat} (h : MSt w g a len cap st) : g < w.heap.size := by
  cases st with
  | none => exact MBlk.lt h
  | some k => exact MBlk.lt h.1
theorem MSt.same {w w' : World} {g : Nat} {a : Option Addr} {len cap : Nat} {st : Option Nat} (h : MSt w g a len cap st) (hb : w'.heap[g]? = w.heap[g]?) : MSt w' g a len cap st := by
  cases st with
  | none => exact MBlk.same h hb
  | some k => exact ⟨MBlk.same h.1 hb, h.2⟩

theorem reftake_any (g : Nat) (b : Option Addr) (len cap : Nat) (zs : List Int) (st : Option Nat) (n : Int) (w : World) (hs : MSt w g b len cap st) (hr : Rd w b zs) (hl : zs.length = len) (hc : len ≤ cap) (hm : len ≤ 140737488355328) (hd : b = none → cap = 0) (ho : Off b g) :
    Calls Try.prog 50 #[.pointer (some ⟨g, 0, none⟩), .int .i64 n] w fun e w' => ∃ v ys, e = .returned v ∧ Hid (Own w.heap.size w' v (tk zs st n).length ys ∧ ys.take (tk zs st n).length = tk zs st n ∧ MSt w' g b len cap (mv len st n) ∧ w.grownBy w' (some g)) := by
  cases st with
  | none =>
    refine (reftake_isbad g none 0 0 0 n w hs).mono ?_
    rintro e w' ⟨rfl, H⟩
    exact ⟨_, [], rfl, .inl ⟨rfl, rfl, rfl⟩, rfl, H.out.1, H.out.2⟩
  | some k =>
    have hkl := hs.2
    by_cases h : 0 ≤ n ∧ k + n ≤ len
    · obtain ⟨m, rfl⟩ := Int.eq_ofNat_of_zero_le h.1
      have hkm : k + m ≤ len := by omega
      have e1 : mv len (some k) m = some (k + m) := by simp only [mv]; rw [if_pos h]; rfl
      have e2 : tk zs (some k) m = (zs.drop k).take m := by simp only [tk]; rw [if_pos (by rw [hl]; exact h)]; rfl
      have e3 : ((zs.drop k).take m).length = m := by simp; omega
      rw [e1, e2, e3]
      refine (reftake_ok g b len cap k m zs w hs.1 hr hl hc hm hd ho hkm).mono ?_
      rintro e w' ⟨v, ys, rfl, H⟩
      obtain ⟨h1, h2, h3, h4⟩ := H.out
      exact ⟨v, ys, rfl, h1, h2, ⟨by simpa using h3, hkm⟩, h4⟩
    · have e1 : mv len (some k) n = none := by simp only [mv]; rw [if_neg h]
      have e2 : tk zs (some k) n = [] := by simp only [tk]; rw [if_neg (by rw [hl]; exact h)]
      rw [e1, e2]
      by_cases h0 : n < 0
      · refine (reftake_neg g b len cap k n w hs.1 h0).mono ?_
        rintro e w' ⟨rfl, H⟩
        exact ⟨_, [], rfl, .inl ⟨rfl, rfl, rfl⟩, rfl, H.out.1, H.out.2⟩
      · refine (reftake_far g b len cap k n w hs.1 ⟨by omega, by omega⟩ (by omega) (by omega) (by omega)).mono ?_
        rintro e w' ⟨rfl, H⟩
        exact ⟨_, [], rfl, .inl ⟨rfl, rfl, rfl⟩, rfl, H.out.1, H.out.2⟩

theorem refjump_any (g : Nat) (b : Option Addr) (len cap : Nat) (st : Option Nat) (n : Int) (w : World) (hs : MSt w g b len cap st) :
    Calls Try.prog 51 #[.pointer (some ⟨g, 0, none⟩), .int .i64 n] w fun e w' => e = .returned (.tuple #[]) ∧ Hid (MSt w' g b len cap (jm len st n) ∧ w.grownBy w' (some g)) := by
  cases st with
  | none =>
    refine (refjump_isbad g none 0 0 0 n w hs).mono ?_
    rintro e w' ⟨rfl, H⟩
    exact ⟨rfl, H.out.1, H.out.2⟩
  | some k =>
    by_cases h : 0 ≤ n ∧ n ≤ len
    · obtain ⟨m, rfl⟩ := Int.eq_ofNat_of_zero_le h.1
      have e1 : jm len (some k) m = some m := by simp only [jm]; rw [if_pos h]; rfl
      rw [e1]
      refine (refjump_ok g b len cap k m w hs.1 h.1 h.2).mono ?_
      rintro e w' ⟨rfl, H⟩
      exact ⟨rfl, ⟨H.out.1, by omega⟩, H.out.2⟩
    · have e1 : jm len (some k) n = none := by simp only [jm]; rw [if_neg h]
      rw [e1]
      by_cases h0 : n < 0
      · refine (refjump_neg g b len cap k n w hs.1 h0).mono ?_
        rintro e w' ⟨rfl, H⟩
        exact ⟨rfl, H.out.1, H.out.2⟩
      · refine (refjump_far g b len cap k n w hs.1 (by omega) (by omega)).mono ?_
        rintro e w' ⟨rfl, H⟩
        exact ⟨rfl, H.out.1, H.out.2⟩

set_option maxHeartbeats 400000 in
theorem refnumber_in (a : Option Addr) (len cap at_ n : Nat) (zs : List Int) (w : World) (hr : Rd w a zs) (hl : zs.length = len) (hm : len ≤ 140737488355328) (hn : at_ + n ≤ len) (h4 : n ≤ 4) :
    Calls Try.prog 41 #[.slice a len cap, .int .i64 at_, .int .i64 n] w fun e w' => e = .returned (.tuple #[.int .u64 (val ((zs.drop at_).take n)), .bool true]) ∧ w' = w := by
  have HL : Hid (zs.length = len) := hl
  have HR : Hid (Rd w a zs) := hr
  clear hl hr
  have h1 : ¬ (at_ : Int) < 0 := by omega
  have h2 : (at_ : Int) ≤ (len : Int) := by omega
  have h3 : (n : Int) ≤ (len : Int) - (at_ : Int) := by omega
  have h3' : decide ((len : Int) - (at_ : Int) < (n : Int)) = false := by simp; omega
  go_enter Try.func41, Try.ntmps41
  go_wp2
  go_loop [8, 9] (fun v i => ∃ k : Nat, k ≤ n ∧ i = .int .i64 k ∧ v = .int .u64 (val ((zs.drop at_).take k))) (fun _ i => n - (intOf i).toNat)
  case atStart => exact ⟨0, Nat.zero_le _, rfl, rfl⟩
  case round =>
    obtain ⟨k, hk, rfl, rfl⟩ := hrel
    by_cases hlt : k < n
    · rcases HR.out.1 with e1 | ⟨b, o, rfl, e1, e2⟩
      · have := HL.out; subst e1; simp at this; omega
      · have hcc := e2 (at_ + k) (by rw [HL.out]; omega)
        have hb := HR.out.bd (at_ + k)
        have hv := val_small (zs.drop at_) (fun z hz => HR.out.2 z (List.mem_of_mem_drop hz)) k (by omega)
        clear e2
        have hlt' : (k : Int) < (n : Int) := by omega
        have hlt2 : (at_ : Int) + (k : Int) < (len : Int) := by omega
        go_wp2
        go_round
        case rel =>
          refine ⟨k + 1, by omega, by go_num, ?_⟩
          rw [take_snoc (zs.drop at_) k (by rw [List.length_drop, HL.out]; omega), val_snoc]
          have e : (zs.drop at_).getD k 0 = zs.getD (at_ + k) 0 := by simp [List.getD_eq_getElem?_getD, List.getElem?_drop]
          rw [e, ← List.getD_eq_getElem?_getD, u64_step _ _ hv.1 hv.2 hb.1 hb.2]
        case measure => simp [intOf]; omega
    · obtain rfl : k = n := by omega
      go_wp2
      go_ret2
      exact ⟨rfl, rfl⟩

theorem tk_full (zs : List Int) (st : Option Nat) (n : Nat) : (tk zs st n).length = n ∨ tk zs st n = [] := by
  unfold tk
  split
  · split
    · rename_i k h
      left
      rw [Int.toNat_natCast, List.length_take, List.length_drop]
      omega
    · right; rfl
  · right; rfl
set_option maxHeartbeats 400000 in
theorem refnumber_zero (a : Option Addr) (cap : Nat) (n : Int) (w : World) (h : 0 < n) :
    Calls Try.prog 41 #[.slice a 0 cap, .int .i64 0, .int .i64 n] w fun e w' => e = .returned (.tuple #[.int .u64 0, .bool false]) ∧ w' = w := by
  go_enter Try.func41, Try.ntmps41
  go_wp2
  go_ret2
  exact ⟨rfl, rfl⟩

/-- The document's number of n bytes, at most four. -/
theorem refnum_any (g : Nat) (b : Option Addr) (len cap : Nat) (zs : List Int) (st : Option Nat) (n : Nat) (hn4 : n ≤ 4) (hn1 : 1 ≤ n) (w : World) (hs : MSt w g b len cap st) (hr : Rd w b zs) (hl : zs.length = len) (hc : len ≤ cap) (hm : len ≤ 140737488355328) (hd : b = none → cap = 0) (ho : Off b g) :
    Calls Try.prog 49 #[.pointer (some ⟨g, 0, none⟩), .int .i64 n] w fun e w' => e = .returned (.int .u64 (val (tk zs st n))) ∧ Hid (MSt w' g b len cap (mv len st n) ∧ w.grownBy w' (some g)) := by
  have H0 : Hid (MSt w g b len cap st ∧ Rd w b zs ∧ zs.length = len ∧ (b = none → cap = 0) ∧ Off b g) := ⟨hs, hr, hl, hd, ho⟩
  clear hs hr hl hd ho
  go_enter Try.func49, Try.ntmps49
  go_wp2_with fail
  refine (reftake_any g b len cap zs st n _ H0.out.1 H0.out.2.1 H0.out.2.2.1 hc hm H0.out.2.2.2.1 H0.out.2.2.2.2).mono ?_
  rintro e w1 ⟨v, ys, rfl, H1⟩
  obtain ⟨p1, p2, p3, p4⟩ := H1.out
  have hle : (tk zs st n).length ≤ n := tk_len zs st n
  rcases p1 with ⟨rfl, q1, q2⟩ | ⟨g', rfl, q1, q2, q3, q4⟩
  · have HT : Hid (tk zs st n = []) := List.eq_nil_of_length_eq_zero q1
    clear p2 p3 p4 q1 q2 hle
    go_wp2_with fail
    refine (refnumber_no none 0 0 0 n _ (by omega) (by omega) (by omega)).mono ?_
    rintro e w2 ⟨rfl, rfl⟩
    go_wp2
    go_ret
    exact ⟨by rw [HT.out]; rfl, H1.out.2.2.1, H1.out.2.2.2⟩
  · obtain ⟨m, hm1⟩ : ∃ m, (tk zs st n).length = m := ⟨_, rfl⟩
    have hrd := q2.rd (tk zs st n).length
    rw [p2] at hrd
    have HX : Hid (Calls Try.prog 41 #[.slice (some ⟨g', 0, none⟩) m ys.length, .int .i64 0, .int .i64 n] w1 fun e w' => (∃ ok, e = .returned (.tuple #[.int .u64 (val (tk zs st n)), .bool ok])) ∧ w' = w1) := by
      rcases tk_full zs st n with hf | hf
      · have := refnumber_in (some ⟨g', 0, none⟩) m ys.length 0 n (tk zs st n) w1 hrd hm1 (by omega) (by omega) hn4
        refine this.mono ?_
        rintro e w2 ⟨rfl, rfl⟩
        rw [List.drop_zero, List.take_of_length_le (by omega)]
        exact ⟨⟨_, rfl⟩, rfl⟩
      · have hm0 : m = 0 := by rw [← hm1, hf]; rfl
        rw [hm0, hf]
        refine (refnumber_zero (some ⟨g', 0, none⟩) ys.length n w1 (by omega)).mono ?_
        rintro e w2 ⟨rfl, rfl⟩
        exact ⟨⟨_, rfl⟩, rfl⟩
    rw [hm1]
    clear p2 p3 p4 q1 q2 q3 q4 hle hrd
    go_wp2_with fail
    refine HX.out.mono ?_
    rintro e w2 ⟨⟨ok, rfl⟩, rfl⟩
    go_wp2
    go_ret
    exact ⟨rfl, H1.out.2.2.1, H1.out.2.2.2⟩
end Go.Proofs.Ytglkjiebcmmglaa
