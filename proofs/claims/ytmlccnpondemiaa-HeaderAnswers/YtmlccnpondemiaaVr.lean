/- slices.EqualFunc over names; header.sameQuestion. -/
import Derived.Test.YtmlccnpondemiaaVq
import Derived.Test.YtmlccnpondemiaaDm
namespace Go.Proofs.Ytmlccnpondemiaa
open Go.ChangeShapes Go.WideShapes Go.ChangeAt Go.RowKit
set_option linter.unusedVariables false
set_option linter.unusedSimpArgs false

def lbl (s : ByteArray) : List Int := (nums s).map fz
theorem slb_lbl (s t : ByteArray) : slb s t = decide (lbl s = lbl t) := rfl
/-- Two names are the same, folded, label by label. -/
def snm (ss ts : List ByteArray) : Bool := decide (ss.map lbl = ts.map lbl)
theorem snm_true {ss ts : List ByteArray} (hl : ss.length = ts.length) (h : ∀ j (h1 : j < ss.length) (h2 : j < ts.length), lbl ss[j] = lbl ts[j]) : snm ss ts = true := by
  unfold snm
  rw [decide_eq_true_iff]
  apply List.ext_getElem (by simp [hl])
  intro j h1 h2
  simp only [List.getElem_map]
  simp only [List.length_map] at h1 h2
  exact h j h1 h2
theorem snm_false {ss ts : List ByteArray} (j : Nat) (h1 : j < ss.length) (h2 : j < ts.length) (h : lbl ss[j] ≠ lbl ts[j]) : snm ss ts = false := by
  unfold snm
  rw [decide_eq_false_iff_not]
  intro e
  apply h
  have := congrArg (fun l => l[j]?) e
  simp only [List.getElem?_map, List.getElem?_eq_getElem h1, List.getElem?_eq_getElem h2] at this
  simpa using this
theorem snm_len {ss ts : List ByteArray} (h : ss.length ≠ ts.length) : snm ss ts = false := by
  unfold snm
  rw [decide_eq_false_iff_not]
  intro e
  exact h (by simpa using congrArg List.length e)

set_option maxHeartbeats 1000000 in
theorem eqf41 (x y : Sl) (ss ts : List ByteArray) (w : World) (h1 : TRd w x ss) (h2 : TRd w y ts) :
    Calls Try.prog 41 #[.slice x.a x.n x.c, .slice y.a y.n y.c, .func (.func 42) #[] #[]] w fun e w' => e = .returned (.bool (snm ss ts)) ∧ Below w.heap.size w w' := by
  obtain ⟨a, n, c⟩ := x
  obtain ⟨b, m, d⟩ := y
  have HX : Hid (TRd w ⟨a, n, c⟩ ss) := h1
  have HY : Hid (TRd w ⟨b, m, d⟩ ts) := h2
  have HLs : Hid (ss.length = n) := h1.len
  have HLt : Hid (ts.length = m) := h2.len
  have hn : n ≤ 9223372036854775807 := Nat.le_trans h1.cap.1 h1.cap.2
  clear h1 h2
  by_cases hl : n = m
  · subst hl
    go_enter Try.func41, Try.ntmps41
    go_wp2_with fail
    go_loopw [17] (fun y wr => ∃ k : Nat, k ≤ n ∧ y = .int .i64 (k : Int) ∧ Hid (∀ j (h1 : j < ss.length) (h2 : j < ts.length), j < k → lbl ss[j] = lbl ts[j]) ∧ Hid (Below w.heap.size w wr)) (fun y _ => n - (intOf y).toNat)
    case atStart => exact ⟨0, by omega, rfl, fun j _ _ hj => absurd hj (by omega), Below.refl _ _⟩
    case round =>
      obtain ⟨k, hk, rfl, HK, HB⟩ := hrel
      by_cases hlt : k < n
      · have hlt' : (k : Int) < (n : Int) := by omega
        have hks : k < ss.length := by rw [HLs.out]; exact hlt
        have hkt : k < ts.length := by rw [HLt.out]; exact hlt
        obtain ⟨b1, o1, e1, q1, r1⟩ := (HX.out.rd.below HB.out).at k hks
        obtain ⟨b2, o2, e2, q2, r2⟩ := (HY.out.rd.below HB.out).at k hkt
        simp only at e1 e2
        subst e1 e2
        have KL := Lib.hid (slabel42 ss[k] ts[k] (HX.out.z63 _ (List.getElem_mem _)) (HY.out.z63 _ (List.getElem_mem _)) wr)
        have HQ : ∀ q, q = slb ss[k] ts[k] → Hid (q = decide (lbl ss[k] = lbl ts[k])) := fun q h => h.trans (slb_lbl _ _)
        obtain ⟨q, hq⟩ : ∃ q, q = slb ss[k] ts[k] := ⟨_, rfl⟩
        rw [← hq] at KL
        have HQ' := HQ q hq
        clear HQ hq
        have HGs : Hid (k < ss.length) := hks
        have HGt : Hid (k < ts.length) := hkt
        have HE : ∀ (s t : ByteArray), s = ss[k] → t = ts[k] → Hid (Calls Try.prog 42 #[.string s, .string t] wr fun e w' => e = .returned (.bool q) ∧ Below wr.heap.size wr w') := fun s t h1 h2 => by rw [h1, h2]; exact KL.out
        obtain ⟨s, hs⟩ : ∃ s, s = ss[k] := ⟨_, rfl⟩
        obtain ⟨t, ht⟩ : ∃ t, t = ts[k] := ⟨_, rfl⟩
        have KL' := HE s t hs ht
        have r1' : wr.cell? ⟨b1, o1 + k, none⟩ = some (.string s) := by rw [hs]; exact r1
        have r2' : wr.cell? ⟨b2, o2 + k, none⟩ = some (.string t) := by rw [ht]; exact r2
        clear HE KL hs ht r1 r2
        cases q
        · go_wp2_with fail
          refine KL'.out.mono ?_
          rintro e w2 ⟨rfl, hb2⟩
          go_wp2
          go_ret
          refine ⟨?_, HB.out.trans (hb2.mono HB.out.size)⟩
          rw [snm_false k HGs.out HGt.out (by have := HQ'.out; simpa using this)]
          rfl
        · go_wp2_with fail
          refine KL'.out.mono ?_
          rintro e w2 ⟨rfl, hb2⟩
          have HB2 : Hid (Below w.heap.size w w2) := HB.out.trans (hb2.mono HB.out.size)
          clear hb2
          go_wp2
          refine ⟨⟨k + 1, by omega, by go_num, ?_, HB2.out⟩, by simp [intOf]; omega⟩
          intro j h1 h2 hj
          rcases Nat.lt_or_ge j k with h | h
          · exact HK.out j h1 h2 h
          · obtain rfl : j = k := by omega
            have := HQ'.out; simpa using this
      · obtain rfl : k = n := by omega
        go_wp2
        go_ret
        refine ⟨?_, HB.out⟩
        rw [snm_true (by rw [HLs.out, HLt.out]) (fun j h1 h2 => HK.out j h1 h2 (by rw [HLs.out] at h1; exact h1))]
        rfl
  · have hne : ((n : Int) == (m : Int)) = false := by simp; omega
    have hf : snm ss ts = false := snm_len (by rw [HLs.out, HLt.out]; exact hl)
    rw [hf]
    go_enter Try.func41, Try.ntmps41
    go_wp2
    go_ret
    exact ⟨rfl, Below.refl _ _⟩

/-- A question's name, type, class. -/
structure Qn where
  nm : List ByteArray
  ty : Nat
  cl : Nat
def sqn (p q : Qn) : Bool := p.ty == q.ty && p.cl == q.cl && snm p.nm q.nm
/-- Where a question lies. -/
structure QA where
  s : Sl
  ty : Nat
  cl : Nat
structure QOk (w : World) (x : QA) (q : Qn) : Prop where
  rd : TRd w x.s q.nm
  ty : x.ty = q.ty
  cl : x.cl = q.cl
  bt : q.ty < 65536
  bc : q.cl < 65536
theorem QOk.below {w w' : World} {x : QA} {q : Qn} (h : QOk w x q) (hb : Below w.heap.size w w') : QOk w' x q := ⟨h.rd.below hb, h.ty, h.cl, h.bt, h.bc⟩

set_option maxHeartbeats 1000000 in
theorem squest31 (x y : QA) (p q : Qn) (w : World) (h1 : QOk w x p) (h2 : QOk w y q) :
    Calls Try.prog 31 #[.agg #[.slice x.s.a x.s.n x.s.c, .int .u16 (x.ty : Int), .int .u16 (x.cl : Int)], .agg #[.slice y.s.a y.s.n y.s.c, .int .u16 (y.ty : Int), .int .u16 (y.cl : Int)]] w fun e w' => e = .returned (.bool (sqn p q)) ∧ Below w.heap.size w w' := by
  obtain ⟨s1, t1, l1⟩ := x
  obtain ⟨s2, t2, l2⟩ := y
  obtain ⟨p1, p2, p3⟩ := p
  obtain ⟨q1, q2, q3⟩ := q
  obtain ⟨hr1, e1, e2, b1, b2⟩ := h1
  obtain ⟨hr2, e3, e4, b3, b4⟩ := h2
  simp only at *
  subst e1 e2 e3 e4
  have KN : ∀ W, Below w.heap.size w W → Hid (Calls Try.prog 41 #[.slice s1.a s1.n s1.c, .slice s2.a s2.n s2.c, .func (.func 42) #[] #[]] W fun e w' => e = .returned (.bool (snm p1 q1)) ∧ Below W.heap.size W w') := fun W hb => eqf41 s1 s2 p1 q1 W (hr1.below hb) (hr2.below hb)
  clear hr1 hr2
  obtain ⟨a1, n1, c1⟩ := s1
  obtain ⟨a2, n2, c2⟩ := s2
  simp only at KN
  simp only [sqn]
  generalize snm p1 q1 = r at *
  by_cases ht : t1 = t2
  · subst ht
    by_cases hc : l1 = l2
    · subst hc
      simp only [BEq.rfl, Bool.true_and]
      go_enter Try.func31, Try.ntmps31
      go_wp2_with fail
      refine (KN _ (((Below.refl _ _).alloc (Nat.le_refl _) _).alloc (by simp) _)).out.mono ?_
      rintro e w2 ⟨rfl, hb2⟩
      go_wp2
      go_ret
      exact ⟨rfl, (((Below.refl _ _).alloc (Nat.le_refl _) _).alloc (by simp) _).trans (hb2.mono (by simp; omega))⟩
    · have hne : ((l1 : Int) == (l2 : Int)) = false := by simp; omega
      have hf : (l1 == l2) = false := by simp; omega
      rw [hf]
      simp only [Bool.and_false, Bool.false_and]
      go_enter Try.func31, Try.ntmps31
      go_wp2
      go_ret
      exact ⟨rfl, ((Below.refl _ _).alloc (Nat.le_refl _) _).alloc (by simp) _⟩
  · have hne : ((t1 : Int) == (t2 : Int)) = false := by simp; omega
    have hf : (t1 == t2) = false := by simp; omega
    rw [hf]
    simp only [Bool.false_and]
    go_enter Try.func31, Try.ntmps31
    go_wp2
    go_ret
    exact ⟨rfl, ((Below.refl _ _).alloc (Nat.le_refl _) _).alloc (by simp) _⟩
end Go.Proofs.Ytmlccnpondemiaa
