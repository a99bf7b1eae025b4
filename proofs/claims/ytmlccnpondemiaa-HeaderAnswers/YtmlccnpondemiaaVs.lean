/- slices.EqualFunc over questions; header.Answers. -/
import Derived.Test.YtmlccnpondemiaaVr
namespace Go.Proofs.Ytmlccnpondemiaa
open Go.ChangeShapes Go.WideShapes Go.ChangeAt Go.RowKit
set_option linter.unusedVariables false
set_option linter.unusedSimpArgs false

/-- Questions that can be read. -/
structure QsRd (w : World) (s : Sl) (qs : List Qn) : Prop where
  rd : qs = [] ∨ ∃ b o, s.a = some ⟨b, o, none⟩ ∧ b < w.heap.size ∧ ∀ i (h : i < qs.length), ∃ x : QA, w.cell? ⟨b, o + i * 3, none⟩ = some (.slice x.s.a x.s.n x.s.c) ∧ w.cell? ⟨b, o + i * 3 + 1, none⟩ = some (.int .u16 (x.ty : Int)) ∧ w.cell? ⟨b, o + i * 3 + 2, none⟩ = some (.int .u16 (x.cl : Int)) ∧ QOk w x qs[i]
  len : qs.length = s.n
  cap : s.n ≤ s.c ∧ s.c ≤ 9223372036854775807
  nil : s.a = none → s.c = 0
theorem QsRd.below {w w' : World} {s : Sl} {qs : List Qn} (h : QsRd w s qs) (hb : Below w.heap.size w w') : QsRd w' s qs := by
  refine ⟨?_, h.len, h.cap, h.nil⟩
  rcases h.rd with h1 | ⟨b, o, h1, h2, h3⟩
  · exact .inl h1
  · refine .inr ⟨b, o, h1, Nat.lt_of_lt_of_le h2 hb.size, fun i hi => ?_⟩
    obtain ⟨x, e1, e2, e3, h5⟩ := h3 i hi
    exact ⟨x, (hb.cell (p := ⟨b, o + i * 3, none⟩) h2).trans e1, (hb.cell (p := ⟨b, o + i * 3 + 1, none⟩) h2).trans e2, (hb.cell (p := ⟨b, o + i * 3 + 2, none⟩) h2).trans e3, h5.below hb⟩
theorem QsRd.at {w : World} {s : Sl} {qs : List Qn} (h : QsRd w s qs) (i : Nat) (hi : i < qs.length) : ∃ b o, s.a = some ⟨b, o, none⟩ ∧ b < w.heap.size ∧ ∃ x : QA, w.cell? ⟨b, o + i * 3, none⟩ = some (.slice x.s.a x.s.n x.s.c) ∧ w.cell? ⟨b, o + i * 3 + 1, none⟩ = some (.int .u16 (x.ty : Int)) ∧ w.cell? ⟨b, o + i * 3 + 2, none⟩ = some (.int .u16 (x.cl : Int)) ∧ QOk w x qs[i] := by
  rcases h.rd with h1 | ⟨b, o, h1, h2, h3⟩
  · subst h1; simp at hi
  · exact ⟨b, o, h1, h2, h3 i hi⟩
theorem QsRd.none (w : World) : QsRd w ⟨none, 0, 0⟩ [] := ⟨.inl rfl, rfl, ⟨Nat.le_refl _, Nat.zero_le _⟩, fun _ => rfl⟩
/-- Two lists of questions are the same. -/
def sqs : List Qn → List Qn → Bool
  | [], [] => true
  | p :: ps, q :: qs => sqn p q && sqs ps qs
  | _, _ => false
theorem sqs_true : ∀ {ps qs : List Qn}, ps.length = qs.length → (∀ j (h1 : j < ps.length) (h2 : j < qs.length), sqn ps[j] qs[j] = true) → sqs ps qs = true
  | [], [], _, _ => rfl
  | p :: ps, q :: qs, hl, h => by
    have h0 : sqn p q = true := h 0 (by simp) (by simp)
    have hr : sqs ps qs = true := sqs_true (by simpa using hl) (fun j h1 h2 => by
      have := h (j + 1) (by simp; omega) (by simp; omega)
      simpa using this)
    simp [sqs, h0, hr]
  | [], q :: qs, hl, _ => by simp at hl
  | p :: ps, [], hl, _ => by simp at hl
theorem sqs_false : ∀ {ps qs : List Qn} (j : Nat) (h1 : j < ps.length) (h2 : j < qs.length), sqn ps[j] qs[j] = false → sqs ps qs = false
  | p :: ps, q :: qs, 0, _, _, h => by
    have h0 : sqn p q = false := h
    simp [sqs, h0]
  | p :: ps, q :: qs, j + 1, h1, h2, h => by
    have := sqs_false (ps := ps) (qs := qs) j (by simpa using h1) (by simpa using h2) (by simpa using h)
    simp [sqs, this]
  | [], _, j, h1, _, _ => by simp at h1
  | p :: ps, [], j, _, h2, _ => by simp at h2
theorem sqs_len : ∀ {ps qs : List Qn}, ps.length ≠ qs.length → sqs ps qs = false
  | [], [], h => absurd rfl h
  | p :: ps, q :: qs, h => by
    have := sqs_len (ps := ps) (qs := qs) (by simpa using h)
    simp [sqs, this]
  | [], q :: qs, _ => rfl
  | p :: ps, [], _ => rfl
theorem sqn_refl (q : Qn) : sqn q q = true := by simp [sqn, snm]
theorem sqs_refl (qs : List Qn) : sqs qs qs = true := sqs_true rfl fun j h1 h2 => sqn_refl _

set_option maxHeartbeats 2000000 in
theorem eqf30 (x y : Sl) (ps qs : List Qn) (w : World) (h1 : QsRd w x ps) (h2 : QsRd w y qs) :
    Calls Try.prog 30 #[.slice x.a x.n x.c, .slice y.a y.n y.c, .func (.func 31) #[] #[]] w fun e w' => e = .returned (.bool (sqs ps qs)) ∧ Below w.heap.size w w' := by
  obtain ⟨a, n, c⟩ := x
  obtain ⟨b, m, d⟩ := y
  have HX : Hid (QsRd w ⟨a, n, c⟩ ps) := h1
  have HY : Hid (QsRd w ⟨b, m, d⟩ qs) := h2
  have HLs : Hid (ps.length = n) := h1.len
  have HLt : Hid (qs.length = m) := h2.len
  have hn : n ≤ 9223372036854775807 := Nat.le_trans h1.cap.1 h1.cap.2
  clear h1 h2
  by_cases hl : n = m
  · subst hl
    go_enter Try.func30, Try.ntmps30
    go_wp2_with fail
    go_loopw [17] (fun y wr => ∃ k : Nat, k ≤ n ∧ y = .int .i64 (k : Int) ∧ Hid (∀ j (h1 : j < ps.length) (h2 : j < qs.length), j < k → sqn ps[j] qs[j] = true) ∧ Hid (Below w.heap.size w wr)) (fun y _ => n - (intOf y).toNat)
    case atStart => exact ⟨0, by omega, rfl, fun j _ _ hj => absurd hj (by omega), Below.refl _ _⟩
    case round =>
      obtain ⟨k, hk, rfl, HK, HB⟩ := hrel
      by_cases hlt : k < n
      · have hlt' : (k : Int) < (n : Int) := by omega
        have hks : k < ps.length := by rw [HLs.out]; exact hlt
        have hkt : k < qs.length := by rw [HLt.out]; exact hlt
        obtain ⟨b1, o1, e1, q1, x1, r1, r2, r3, ok1⟩ := (HX.out.below HB.out).at k hks
        obtain ⟨b2, o2, e2, q2, x2, r4, r5, r6, ok2⟩ := (HY.out.below HB.out).at k hkt
        simp only at e1 e2
        subst e1 e2
        have KL : ∀ W, Below wr.heap.size wr W → Hid (Calls Try.prog 31 #[.agg #[.slice x1.s.a x1.s.n x1.s.c, .int .u16 (x1.ty : Int), .int .u16 (x1.cl : Int)], .agg #[.slice x2.s.a x2.s.n x2.s.c, .int .u16 (x2.ty : Int), .int .u16 (x2.cl : Int)]] W fun e w' => e = .returned (.bool (sqn ps[k] qs[k])) ∧ Below W.heap.size W w') := fun W hb => squest31 x1 x2 _ _ W (ok1.below hb) (ok2.below hb)
        obtain ⟨⟨a1, n1, c1⟩, t1, l1⟩ := x1
        obtain ⟨⟨a2, n2, c2⟩, t2, l2⟩ := x2
        simp only at KL r1 r2 r3 r4 r5 r6
        clear ok1 ok2
        have HQ : ∀ q, q = sqn ps[k] qs[k] → Hid (q = sqn ps[k] qs[k]) := fun q h => h
        have KK : ∀ q, q = sqn ps[k] qs[k] → ∀ W, Below wr.heap.size wr W → Hid (Calls Try.prog 31 #[.agg #[.slice a1 n1 c1, .int .u16 (t1 : Int), .int .u16 (l1 : Int)], .agg #[.slice a2 n2 c2, .int .u16 (t2 : Int), .int .u16 (l2 : Int)]] W fun e w' => e = .returned (.bool q) ∧ Below W.heap.size W w') := fun q h => by rw [h]; exact KL
        obtain ⟨q, hq⟩ : ∃ q, q = sqn ps[k] qs[k] := ⟨_, rfl⟩
        have KL' := KK q hq
        have HQ' := HQ q hq
        clear HQ KK KL hq
        have HGs : Hid (k < ps.length) := hks
        have HGt : Hid (k < qs.length) := hkt
        have HNB : Hid (Below wr.heap.size wr ((wr.alloc (.cells #[.slice a1 n1 c1, .int .u16 (t1 : Int), .int .u16 (l1 : Int)] 50)).alloc (.cells #[.slice a2 n2 c2, .int .u16 (t2 : Int), .int .u16 (l2 : Int)] 50))) := ((Below.refl _ _).alloc (Nat.le_refl _) _).alloc (by simp) _
        cases q
        · go_wp2_with fail
          refine (KL' _ HNB.out).out.mono ?_
          rintro e w2 ⟨rfl, hb2⟩
          go_wp2
          go_ret
          refine ⟨?_, (HB.out.trans (HNB.out.mono HB.out.size)).trans (hb2.mono (Nat.le_trans HB.out.size HNB.out.size))⟩
          rw [sqs_false k HGs.out HGt.out HQ'.out.symm]
          rfl
        · go_wp2_with fail
          refine (KL' _ HNB.out).out.mono ?_
          rintro e w2 ⟨rfl, hb2⟩
          have HB2 : Hid (Below w.heap.size w w2) := (HB.out.trans (HNB.out.mono HB.out.size)).trans (hb2.mono (Nat.le_trans HB.out.size HNB.out.size))
          clear hb2
          go_wp2
          refine ⟨⟨k + 1, by omega, by go_num, ?_, HB2.out⟩, by simp [intOf]; omega⟩
          intro j h1 h2 hj
          rcases Nat.lt_or_ge j k with h | h
          · exact HK.out j h1 h2 h
          · obtain rfl : j = k := by omega
            exact HQ'.out.symm
      · obtain rfl : k = n := by omega
        go_wp2
        go_ret
        refine ⟨?_, HB.out⟩
        rw [sqs_true (by rw [HLs.out, HLt.out]) (fun j h1 h2 => HK.out j h1 h2 (by rw [HLs.out] at h1; exact h1))]
        rfl
  · have hne : ((n : Int) == (m : Int)) = false := by simp; omega
    have hf : sqs ps qs = false := sqs_len (by rw [HLs.out, HLt.out]; exact hl)
    rw [hf]
    go_enter Try.func30, Try.ntmps30
    go_wp2
    go_ret
    exact ⟨rfl, Below.refl _ _⟩

/-- Whether a message may be an answer. -/
def ansF (rs rs' : Bool) (id id' : Nat) (op op' : Int) (ps qs : List Qn) : Bool := rs && !rs' && id == id' && op == op' && sqs ps qs
set_option maxHeartbeats 4000000 in
theorem answers14 (id id' : Nat) (rs rs' : Bool) (op op' : Int) (aa tc rd ra ad cd aa' tc' rd' ra' ad' cd' : Bool) (rc rc' : Int) (s1 s1' : Sl) (a2 a3 a4 d2 d3 d4 : Option Addr) (n2 n3 n4 k2 k3 k4 m2 m3 m4 l2 l3 l4 : Nat) (ps qs : List Qn) (w : World) (h1 : QsRd w s1 ps) (h2 : QsRd w s1' qs) :
    Calls Try.prog 14 #[.agg #[.int .u16 (id : Int), .bool rs, .int .i64 op, .bool aa, .bool tc, .bool rd, .bool ra, .bool ad, .bool cd, .int .i64 rc, .slice s1.a s1.n s1.c, .slice a2 n2 k2, .slice a3 n3 k3, .slice a4 n4 k4], .agg #[.int .u16 (id' : Int), .bool rs', .int .i64 op', .bool aa', .bool tc', .bool rd', .bool ra', .bool ad', .bool cd', .int .i64 rc', .slice s1'.a s1'.n s1'.c, .slice d2 m2 l2, .slice d3 m3 l3, .slice d4 m4 l4]] w fun e w' => e = .returned (.bool (ansF rs rs' id id' op op' ps qs)) ∧ Below w.heap.size w w' := by
  have KN : ∀ W, Below w.heap.size w W → Hid (Calls Try.prog 30 #[.slice s1.a s1.n s1.c, .slice s1'.a s1'.n s1'.c, .func (.func 31) #[] #[]] W fun e w' => e = .returned (.bool (sqs ps qs)) ∧ Below W.heap.size W w') := fun W hb => eqf30 s1 s1' ps qs W (h1.below hb) (h2.below hb)
  clear h1 h2
  obtain ⟨a1, n1, c1⟩ := s1
  obtain ⟨b1, m1, d1⟩ := s1'
  simp only at KN ⊢
  unfold ansF
  generalize sqs ps qs = r at *
  cases rs
  · simp only [Bool.false_and]
    go_enter Try.func14, Try.ntmps14
    go_wp2
    go_ret
    exact ⟨rfl, ((Below.refl _ _).alloc (Nat.le_refl _) _).alloc (by simp) _⟩
  · cases rs'
    · by_cases hi : id = id'
      · subst hi
        by_cases ho : op = op'
        · subst ho
          simp only [BEq.rfl, Bool.not_false, Bool.and_true, Bool.true_and]
          go_enter Try.func14, Try.ntmps14
          go_wp2_with fail
          refine (KN _ (((Below.refl _ _).alloc (Nat.le_refl _) _).alloc (by simp) _)).out.mono ?_
          rintro e w2 ⟨rfl, hb2⟩
          go_wp2
          go_ret
          exact ⟨rfl, (((Below.refl _ _).alloc (Nat.le_refl _) _).alloc (by simp) _).trans (hb2.mono (by simp; omega))⟩
        · have hne : (op == op') = false := by simpa using ho
          rw [hne]
          simp only [Bool.and_false, Bool.false_and]
          go_enter Try.func14, Try.ntmps14
          go_wp2
          go_ret
          exact ⟨rfl, ((Below.refl _ _).alloc (Nat.le_refl _) _).alloc (by simp) _⟩
      · have hne : ((id : Int) == (id' : Int)) = false := by simp; omega
        have hf : (id == id') = false := by simpa using hi
        rw [hf]
        simp only [Bool.and_false, Bool.false_and]
        go_enter Try.func14, Try.ntmps14
        go_wp2
        go_ret
        exact ⟨rfl, ((Below.refl _ _).alloc (Nat.le_refl _) _).alloc (by simp) _⟩
    · simp only [Bool.not_true, Bool.and_false, Bool.false_and]
      go_enter Try.func14, Try.ntmps14
      go_wp2
      go_ret
      exact ⟨rfl, ((Below.refl _ _).alloc (Nat.le_refl _) _).alloc (by simp) _⟩
end Go.Proofs.Ytmlccnpondemiaa
