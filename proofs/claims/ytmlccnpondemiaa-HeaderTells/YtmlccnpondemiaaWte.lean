/- Texts laid together, in parts: Wa Vv Ye Yf. -/
import Derived.Test.YtmlccnpondemiaaWtd
import Derived.Deep.RegionHeld3
namespace Go.Proofs.Ytmlccnpondemiaa
open Go.ChangeShapes Go.WideShapes Go.ChangeAt Go.RowKit
set_option linter.unusedVariables false
set_option linter.unusedSimpArgs false
set_option maxHeartbeats 2000000 in
theorem ref11_no (id : Nat) (rs : Bool) (op : Nat) (aa tc rd ra ad cd : Bool) (rc : Nat) (a1 a2 a3 a4 : Option Addr) (n1 n2 n3 n4 k1 k2 k3 k4 : Nat) (c0 c1 c2 c3 : Int) (w : World)
    (ho : op < 16) (hr : rc < 16) (hkk : ¬ (okN c0 ∧ okN c1 ∧ okN c2 ∧ okN c3)) :
    Calls Try.prog 11 #[.agg #[.int .u16 (id : Int), .bool rs, .int .i64 (op : Int), .bool aa, .bool tc, .bool rd, .bool ra, .bool ad, .bool cd, .int .i64 (rc : Int), .slice a1 n1 k1, .slice a2 n2 k2, .slice a3 n3 k3, .slice a4 n4 k4], .agg #[.int .i64 c0, .int .i64 c1, .int .i64 c2, .int .i64 c3]] w fun e w' => e = .returned (.tuple #[.slice none 0 0, .int .i64 2]) ∧ Below w.heap.size w w' := by
  have HK : Hid (¬ (okN c0 ∧ okN c1 ∧ okN c2 ∧ okN c3)) := hkk
  have h1 : ¬ (op : Int) < 0 := by omega
  have h2 : (op : Int) ≤ 15 := by omega
  have h3 : ¬ (rc : Int) < 0 := by omega
  have h4 : (rc : Int) ≤ 15 := by omega
  clear hkk
  go_enter Try.func11, Try.ntmps11
  go_wp2_with fail
  obtain ⟨W0, hW0⟩ : ∃ W0, W0 = (w.alloc (.cells #[.int .u16 (id : Int), .bool rs, .int .i64 (op : Int), .bool aa, .bool tc, .bool rd, .bool ra, .bool ad, .bool cd, .int .i64 (rc : Int), .slice a1 n1 k1, .slice a2 n2 k2, .slice a3 n3 k3, .slice a4 n4 k4] 26)).alloc (.cells #[.int .i64 c0, .int .i64 c1, .int .i64 c2, .int .i64 c3] 27) := ⟨_, rfl⟩
  rw [← hW0]
  have HW0 : Hid (Below w.heap.size w W0 ∧ W0.heap[w.heap.size + 1]? = some (.cells #[.int .i64 c0, .int .i64 c1, .int .i64 c2, .int .i64 c3] 27)) := by
    rw [hW0]
    refine ⟨((Below.refl _ _).alloc (Nat.le_refl _) _).alloc (by simp) _, ?_⟩
    have := alloc_at (w.alloc (.cells #[.int .u16 (id : Int), .bool rs, .int .i64 (op : Int), .bool aa, .bool tc, .bool rd, .bool ra, .bool ad, .bool cd, .int .i64 (rc : Int), .slice a1 n1 k1, .slice a2 n2 k2, .slice a3 n3 k3, .slice a4 n4 k4] 26)) (.cells #[.int .i64 c0, .int .i64 c1, .int .i64 c2, .int .i64 c3] 27)
    simp only [World.size_alloc] at this
    exact this
  clear hW0
  have p1 := block_lt HW0.out.2
  have y0 : W0.cell? ⟨w.heap.size + 1, 0, none⟩ = some (.int .i64 c0) := cell_of_block HW0.out.2 rfl
  have y1 : W0.cell? ⟨w.heap.size + 1, 1, none⟩ = some (.int .i64 c1) := cell_of_block HW0.out.2 rfl
  have y2 : W0.cell? ⟨w.heap.size + 1, 2, none⟩ = some (.int .i64 c2) := cell_of_block HW0.out.2 rfl
  have y3 : W0.cell? ⟨w.heap.size + 1, 3, none⟩ = some (.int .i64 c3) := cell_of_block HW0.out.2 rfl
  go_loopw [6] (fun y wr => ∃ k : Nat, k ≤ 4 ∧ y = .int .i64 (k : Int) ∧ wr = W0 ∧ Hid ((0 < k → okN c0) ∧ (1 < k → okN c1) ∧ (2 < k → okN c2) ∧ (3 < k → okN c3))) (fun y _ => 4 - (intOf y).toNat)
  case atStart => exact ⟨0, by omega, rfl, rfl, by omega, by omega, by omega, by omega⟩
  case round =>
    obtain ⟨k, hk, rfl, rfl, HC⟩ := hrel
    rcases Nat.lt_or_ge k 1 with hk' | hk'
    · obtain rfl : k = 0 := by omega
      by_cases hok : okN c0
      · have u1 : ¬ c0 < 0 := by have := hok.1; omega
        have u2 : ¬ (65535 : Int) < c0 := by have := hok.2; omega
        go_wp2
        exact ⟨⟨0 + 1, by omega, rfl, trivial, fun _ => hok, fun h => absurd h (by omega), fun h => absurd h (by omega), fun h => absurd h (by omega)⟩, by simp [intOf]⟩
      · have hno : c0 < 0 ∨ (0 ≤ c0 ∧ 65535 < c0) := by unfold okN at hok; omega
        rcases hno with hn | ⟨hn0, hn⟩
        · go_wp2
          go_ret2
          exact ⟨rfl, HW0.out.1⟩
        · go_wp2
          go_ret2
          exact ⟨rfl, HW0.out.1⟩
    rcases Nat.lt_or_ge k 2 with hk' | hk'
    · obtain rfl : k = 1 := by omega
      by_cases hok : okN c1
      · have u1 : ¬ c1 < 0 := by have := hok.1; omega
        have u2 : ¬ (65535 : Int) < c1 := by have := hok.2; omega
        go_wp2
        exact ⟨⟨1 + 1, by omega, rfl, trivial, fun h => HC.out.1 (by omega), fun _ => hok, fun h => absurd h (by omega), fun h => absurd h (by omega)⟩, by simp [intOf]⟩
      · have hno : c1 < 0 ∨ (0 ≤ c1 ∧ 65535 < c1) := by unfold okN at hok; omega
        rcases hno with hn | ⟨hn0, hn⟩
        · go_wp2
          go_ret2
          exact ⟨rfl, HW0.out.1⟩
        · go_wp2
          go_ret2
          exact ⟨rfl, HW0.out.1⟩
    rcases Nat.lt_or_ge k 3 with hk' | hk'
    · obtain rfl : k = 2 := by omega
      by_cases hok : okN c2
      · have u1 : ¬ c2 < 0 := by have := hok.1; omega
        have u2 : ¬ (65535 : Int) < c2 := by have := hok.2; omega
        go_wp2
        exact ⟨⟨2 + 1, by omega, rfl, trivial, fun h => HC.out.1 (by omega), fun h => HC.out.2.1 (by omega), fun _ => hok, fun h => absurd h (by omega)⟩, by simp [intOf]⟩
      · have hno : c2 < 0 ∨ (0 ≤ c2 ∧ 65535 < c2) := by unfold okN at hok; omega
        rcases hno with hn | ⟨hn0, hn⟩
        · go_wp2
          go_ret2
          exact ⟨rfl, HW0.out.1⟩
        · go_wp2
          go_ret2
          exact ⟨rfl, HW0.out.1⟩
    rcases Nat.lt_or_ge k 4 with hk' | hk'
    · obtain rfl : k = 3 := by omega
      by_cases hok : okN c3
      · have u1 : ¬ c3 < 0 := by have := hok.1; omega
        have u2 : ¬ (65535 : Int) < c3 := by have := hok.2; omega
        go_wp2
        exact ⟨⟨3 + 1, by omega, rfl, trivial, fun h => HC.out.1 (by omega), fun h => HC.out.2.1 (by omega), fun h => HC.out.2.2.1 (by omega), fun _ => hok⟩, by simp [intOf]⟩
      · have hno : c3 < 0 ∨ (0 ≤ c3 ∧ 65535 < c3) := by unfold okN at hok; omega
        rcases hno with hn | ⟨hn0, hn⟩
        · go_wp2
          go_ret2
          exact ⟨rfl, HW0.out.1⟩
        · go_wp2
          go_ret2
          exact ⟨rfl, HW0.out.1⟩
    · obtain rfl : k = 4 := by omega
      exact absurd ⟨HC.out.1 (by omega), HC.out.2.1 (by omega), HC.out.2.2.1 (by omega), HC.out.2.2.2 (by omega)⟩ HK.out
/-- The document's Bytes. -/
theorem ref11 (id : Nat) (rs : Bool) (op : Nat) (aa tc rd ra ad cd : Bool) (rc : Nat) (a1 a2 a3 a4 : Option Addr) (n1 n2 n3 n4 k1 k2 k3 k4 : Nat) (c0 c1 c2 c3 : Int) (w : World)
    (hi : id < 65536) (ho : op < 16) (hr : rc < 16) :
    Calls Try.prog 11 #[.agg #[.int .u16 (id : Int), .bool rs, .int .i64 (op : Int), .bool aa, .bool tc, .bool rd, .bool ra, .bool ad, .bool cd, .int .i64 (rc : Int), .slice a1 n1 k1, .slice a2 n2 k2, .slice a3 n3 k3, .slice a4 n4 k4], .agg #[.int .i64 c0, .int .i64 c1, .int .i64 c2, .int .i64 c3]] w fun e w' => RbPost w (nsL id (packN op rc rs aa tc rd ra ad cd : Nat) c0 c1 c2 c3) e w' := by
  by_cases hk : okN c0 ∧ okN c1 ∧ okN c2 ∧ okN c3
  · exact ref11_ok id rs op aa tc rd ra ad cd rc a1 a2 a3 a4 n1 n2 n3 n4 k1 k2 k3 k4 c0 c1 c2 c3 w hi ho hr hk
  · refine (ref11_no id rs op aa tc rd ra ad cd rc a1 a2 a3 a4 n1 n2 n3 n4 k1 k2 k3 k4 c0 c1 c2 c3 w ho hr hk).mono ?_
    rintro e w' ⟨he, hb⟩
    exact ⟨fun h => absurd ⟨h _ (by simp [nsL]), h _ (by simp [nsL]), h _ (by simp [nsL]), h _ (by simp [nsL])⟩ hk, fun _ => he, hb⟩
end Go.Proofs.Ytmlccnpondemiaa
namespace Go.Proofs.Ytmlccnpondemiaa
open Go.ChangeShapes Go.WideShapes Go.ChangeAt Go.RowKit
set_option linter.unusedVariables false
set_option linter.unusedSimpArgs false
set_option maxHeartbeats 1000000 in
theorem sameq44 (x y : QA) (q : Qn) (w : World) (h1 : QOk w x q) (h2 : QOk w y q) :
    Calls Try.prog 44 #[.agg #[.slice x.s.a x.s.n x.s.c, .int .u16 (x.ty : Int), .int .u16 (x.cl : Int)], .agg #[.slice y.s.a y.s.n y.s.c, .int .u16 (y.ty : Int), .int .u16 (y.cl : Int)]] w fun e w' => e = .returned (.bool true) ∧ Below w.heap.size w w' := by
  obtain ⟨⟨a1, n1, c1⟩, t1, l1⟩ := x
  obtain ⟨⟨a2, n2, c2⟩, t2, l2⟩ := y
  obtain ⟨hr1, e1, e2, b1, b2⟩ := h1
  obtain ⟨hr2, e3, e4, b3, b4⟩ := h2
  simp only at *
  subst e1 e2
  rw [e3, e4]
  obtain rfl : n1 = n2 := hr1.len.symm.trans hr2.len
  have KN : ∀ W, Below w.heap.size w W → Hid (Calls Try.prog 52 #[.slice a1 n1 c1, .slice a2 n1 c2] W fun e w' => e = .returned (.bool true) ∧ Below W.heap.size W w') := fun W hb => Calls.mono (sameN_yes a1 a2 n1 c1 c2 q.nm W (hr1.rd.below hb) (hr2.rd.below hb) hr1.len (Nat.le_trans hr1.cap.1 hr1.cap.2)) (by
    rintro e w' h
    exact h)
  clear hr1 hr2 e3 e4
  go_enter Try.func44, Try.ntmps44
  go_wp2_with fail
  refine (KN _ (((Below.refl _ _).alloc (Nat.le_refl _) _).alloc (by simp) _)).out.mono ?_
  rintro e w2 ⟨rfl, hb2⟩
  have HB2 : Hid (Below w.heap.size w w2 ∧ w2.heap[w.heap.size]? = some (.cells #[.slice a1 n1 c1, .int .u16 (q.ty : Int), .int .u16 (q.cl : Int)] 50) ∧ w2.heap[w.heap.size + 1]? = some (.cells #[.slice a2 n1 c2, .int .u16 (q.ty : Int), .int .u16 (q.cl : Int)] 50)) := by
    refine ⟨(((Below.refl _ _).alloc (Nat.le_refl _) _).alloc (by simp) _).trans (hb2.mono (by simp; omega)), (hb2.block _ (by simp; omega)).trans (block_alloc (alloc_at _ _) _), (hb2.block _ (by simp)).trans ?_⟩
    have := alloc_at (w.alloc (.cells #[.slice a1 n1 c1, .int .u16 (q.ty : Int), .int .u16 (q.cl : Int)] 50)) (.cells #[.slice a2 n1 c2, .int .u16 (q.ty : Int), .int .u16 (q.cl : Int)] 50)
    simp only [World.size_alloc] at this
    exact this
  clear hb2 KN
  have p0 := block_lt HB2.out.2.1
  have p1 := block_lt HB2.out.2.2
  have x1 : w2.cell? ⟨w.heap.size, 1, none⟩ = some (.int .u16 (q.ty : Int)) := cell_of_block HB2.out.2.1 rfl
  have x2 : w2.cell? ⟨w.heap.size, 2, none⟩ = some (.int .u16 (q.cl : Int)) := cell_of_block HB2.out.2.1 rfl
  have y1 : w2.cell? ⟨w.heap.size + 1, 1, none⟩ = some (.int .u16 (q.ty : Int)) := cell_of_block HB2.out.2.2 rfl
  have y2 : w2.cell? ⟨w.heap.size + 1, 2, none⟩ = some (.int .u16 (q.cl : Int)) := cell_of_block HB2.out.2.2 rfl
  go_wp2
  go_ret
  exact ⟨rfl, HB2.out.1⟩
set_option maxHeartbeats 2000000 in
theorem sames33 (x y : Sl) (qs : List Qn) (w : World) (h1 : QsRd w x qs) (h2 : QsRd w y qs) : Sames 33 w (.slice x.a x.n x.c) (.slice y.a y.n y.c) := by
  intro W hW
  have HX : Hid (QsRd W x qs) := h1.below hW
  have HY : Hid (QsRd W y qs) := h2.below hW
  obtain ⟨a, n, c⟩ := x
  obtain ⟨b, m, d⟩ := y
  obtain rfl : n = m := h1.len.symm.trans h2.len
  have HLs : Hid (qs.length = n) := h1.len
  have hn : n ≤ 9223372036854775807 := Nat.le_trans h1.cap.1 h1.cap.2
  clear h1 h2 hW
  simp only
  go_enter Try.func33, Try.ntmps33
  go_wp2_with fail
  go_loopw [5] (fun y wr => ∃ k : Nat, k ≤ n ∧ y = .int .i64 (k : Int) ∧ Hid (Below W.heap.size W wr)) (fun y _ => n - (intOf y).toNat)
  case atStart => exact ⟨0, by omega, rfl, Below.refl _ _⟩
  case round =>
    obtain ⟨k, hk, rfl, HB⟩ := hrel
    by_cases hlt : k < n
    · have hlt' : (k : Int) < (n : Int) := by omega
      have hks : k < qs.length := by rw [HLs.out]; exact hlt
      obtain ⟨b1, o1, e1, q1, x1, r1, r2, r3, ok1⟩ := (HX.out.below HB.out).at k hks
      obtain ⟨b2, o2, e2, q2, x2, r4, r5, r6, ok2⟩ := (HY.out.below HB.out).at k hks
      simp only at e1 e2
      subst e1 e2
      have KL : ∀ V, Below wr.heap.size wr V → Hid (Calls Try.prog 44 #[.agg #[.slice x1.s.a x1.s.n x1.s.c, .int .u16 (x1.ty : Int), .int .u16 (x1.cl : Int)], .agg #[.slice x2.s.a x2.s.n x2.s.c, .int .u16 (x2.ty : Int), .int .u16 (x2.cl : Int)]] V fun e w' => e = .returned (.bool true) ∧ Below V.heap.size V w') := fun V hb => sameq44 x1 x2 _ V (ok1.below hb) (ok2.below hb)
      obtain ⟨⟨a1, n1, c1⟩, t1, l1⟩ := x1
      obtain ⟨⟨a2, n2, c2⟩, t2, l2⟩ := x2
      simp only at KL r1 r2 r3 r4 r5 r6
      clear ok1 ok2
      have KS : ∀ V, Below wr.heap.size wr V → V.cell? ⟨b1, o1 + k * 3, none⟩ = some (.slice a1 n1 c1) ∧ V.cell? ⟨b1, o1 + k * 3 + 1, none⟩ = some (.int .u16 (t1 : Int)) ∧ V.cell? ⟨b1, o1 + k * 3 + 2, none⟩ = some (.int .u16 (l1 : Int)) ∧ V.cell? ⟨b2, o2 + k * 3, none⟩ = some (.slice a2 n2 c2) ∧ V.cell? ⟨b2, o2 + k * 3 + 1, none⟩ = some (.int .u16 (t2 : Int)) ∧ V.cell? ⟨b2, o2 + k * 3 + 2, none⟩ = some (.int .u16 (l2 : Int)) := fun V hb => ⟨(hb.cell (p := ⟨_, _, none⟩) q1).trans r1, (hb.cell (p := ⟨_, _, none⟩) q1).trans r2, (hb.cell (p := ⟨_, _, none⟩) q1).trans r3, (hb.cell (p := ⟨_, _, none⟩) q2).trans r4, (hb.cell (p := ⟨_, _, none⟩) q2).trans r5, (hb.cell (p := ⟨_, _, none⟩) q2).trans r6⟩
      go_wp2_with fail
      go_region_held3 (fun V => V.cell? ⟨b1, o1 + k * 3, none⟩ = some (.slice a1 n1 c1) ∧ V.cell? ⟨b1, o1 + k * 3 + 1, none⟩ = some (.int .u16 (t1 : Int)) ∧ V.cell? ⟨b1, o1 + k * 3 + 2, none⟩ = some (.int .u16 (l1 : Int)) ∧ V.cell? ⟨b2, o2 + k * 3, none⟩ = some (.slice a2 n2 c2) ∧ V.cell? ⟨b2, o2 + k * 3 + 1, none⟩ = some (.int .u16 (t2 : Int)) ∧ V.cell? ⟨b2, o2 + k * 3 + 2, none⟩ = some (.int .u16 (l2 : Int))) (first | exact KS _ HBw8.out | exact KS _ (Below.refl wr.heap.size wr).drew | exact KS _ (Below.refl wr.heap.size wr) | exact KS _ HBw8.out.drew) (first
        | (go_at_call 44; refine Calls.mono (KL _ ?hb).out ?_; (case hb => first | exact (Below.refl wr.heap.size wr).drew | exact Below.refl wr.heap.size wr); rintro e w8 ⟨rfl, Hw8⟩; have HBw8 : Hid (Below wr.heap.size wr w8) := by first | exact (Below.refl wr.heap.size wr).drew.trans Hw8 | exact Hw8)
        | fail)
      all_goals go_wp2
      all_goals exact ⟨⟨k + 1, by omega, by go_num, HB.out.trans (HBw8.out.mono HB.out.size)⟩, by simp [intOf]; omega⟩
    · obtain rfl : k = n := by omega
      go_wp2
      go_ret
      exact ⟨rfl, HB.out⟩
end Go.Proofs.Ytmlccnpondemiaa
namespace Go.Proofs.Ytmlccnpondemiaa
open Go.ChangeShapes Go.WideShapes Go.ChangeAt Go.RowKit Go.Maps
set_option linter.unusedVariables false
set_option linter.unusedSimpArgs false
set_option maxRecDepth 100000
theorem qb_of {W : World} {s : Sl} {qs : List Qn} (h : QsRd W s qs) : ∀ q ∈ qs, q.ty < 65536 ∧ q.cl < 65536 := fun q hq => by
  obtain ⟨i, hi, rfl⟩ := List.getElem_of_mem hq
  obtain ⟨_, _, _, _, y, _, _, _, ok⟩ := h.at i hi
  exact ⟨ok.bt, ok.bc⟩
/-- A message is copied, whatever lies about it. -/
theorem copyS (id : Nat) (rs : Bool) (op : Int) (aa tc rd ra ad cd : Bool) (rc : Int) (u1 u2 u3 u4 : Sl) (qs : List Qn) (r2 r3 r4 : List Rec) (V : World) (hM : MF V u1 u2 u3 u4 qs r2 r3 r4) (hn : u1.n ≤ 20) (hq : ∀ q ∈ qs, q.nm.length ≤ 8796093022000) (h9 : u2.n ≤ 9 ∧ u3.n ≤ 9 ∧ u4.n ≤ 9) (hw : (∀ r ∈ r2, Rw r) ∧ (∀ r ∈ r3, Rw r) ∧ ∀ r ∈ r4, Rw r) :
    ∀ W, Below V.heap.size V W → Calls Try.prog 9 #[.agg #[.int .u16 (id : Int), .bool rs, .int .i64 op, .bool aa, .bool tc, .bool rd, .bool ra, .bool ad, .bool cd, .int .i64 rc, .slice u1.a u1.n u1.c, .slice u2.a u2.n u2.c, .slice u3.a u3.n u3.c, .slice u4.a u4.n u4.c]] W fun e w' => ∃ s1 s2 s3 s4 : Sl, e = .returned (.agg #[.int .u16 (id : Int), .bool rs, .int .i64 op, .bool aa, .bool tc, .bool rd, .bool ra, .bool ad, .bool cd, .int .i64 rc, .slice s1.a s1.n s1.c, .slice s2.a s2.n s2.c, .slice s3.a s3.n s3.c, .slice s4.a s4.n s4.c]) ∧ Hid (Below W.heap.size W w' ∧ Cpy W.heap.size w'.heap.size w' s1 s2 s3 s4 qs r2 r3 r4) := by
  intro W hb
  have hM' := hM.below hb
  refine (copym9 id rs op aa tc rd ra ad cd rc u1.a u2.a u3.a u4.a u1.n u2.n u3.n u4.n u1.c u2.c u3.c u4.c qs r2 r3 r4 W hM'.q (by omega) hq hM'.a2 hM'.l2 (by omega) hw.1 hM'.a3 hM'.l3 (by omega) hw.2.1 hM'.a4 hM'.l4 (by omega) hw.2.2).mono ?_
  rintro e w' ⟨v1, v2, v3, v4, rfl, H⟩
  obtain ⟨o1, o2, o3, o4, hb'⟩ := H.out
  obtain ⟨s1, s2, s3, s4, rfl, rfl, rfl, rfl, hc⟩ := cpy_of o1 o2 o3 o4 (qb_of hM.q)
  exact ⟨s1, s2, s3, s4, rfl, hb', hc⟩
/-- Whether a head is told, and as what: header's answer and the document's. -/
theorem bytesA (id : Nat) (hid : id < 65536) (rs : Bool) (op : Int) (aa tc rd ra ad cd : Bool) (rc : Int) (c0 c1 c2 c3 : Int) :
    ∃ (E : Int) (N : Nat) (ZS : List Int), ZS.length = N ∧ N ≤ 12 ∧
      (∀ (u1 u2 u3 u4 : Sl) (W : World), Calls Try.prog 10 #[.agg #[.int .u16 (id : Int), .bool rs, .int .i64 op, .bool aa, .bool tc, .bool rd, .bool ra, .bool ad, .bool cd, .int .i64 rc, .slice u1.a u1.n u1.c, .slice u2.a u2.n u2.c, .slice u3.a u3.n u3.c, .slice u4.a u4.n u4.c], .agg #[.int .i64 c0, .int .i64 c1, .int .i64 c2, .int .i64 c3]] W fun e w' => ∃ ao : Option Addr, e = .returned (.tuple #[.slice ao N N, .int .i64 E]) ∧ Hid (OwnA W.heap.size w' ao N ZS ∧ Below W.heap.size W w')) ∧
      (∀ (u1 u2 u3 u4 : Sl) (W : World), Calls Try.prog 11 #[.agg #[.int .u16 (id : Int), .bool rs, .int .i64 op, .bool aa, .bool tc, .bool rd, .bool ra, .bool ad, .bool cd, .int .i64 rc, .slice u1.a u1.n u1.c, .slice u2.a u2.n u2.c, .slice u3.a u3.n u3.c, .slice u4.a u4.n u4.c], .agg #[.int .i64 c0, .int .i64 c1, .int .i64 c2, .int .i64 c3]] W fun e w' => ∃ (ao : Option Addr) (zs : List Int), e = .returned (.tuple #[.slice ao N zs.length, .int .i64 E]) ∧ Hid (OwnA W.heap.size w' ao N zs ∧ zs.take N = ZS ∧ Below W.heap.size W w')) := by
  have nn0 : ∀ W W' : World, Below W.heap.size W W' → Hid (OwnA W.heap.size W' none 0 [] ∧ Below W.heap.size W W') := fun W W' h => ⟨.inl ⟨rfl, rfl, rfl⟩, h⟩
  have nn1 : ∀ W W' : World, Below W.heap.size W W' → Hid (OwnA W.heap.size W' none 0 [] ∧ ([] : List Int).take 0 = [] ∧ Below W.heap.size W W') := fun W W' h => ⟨.inl ⟨rfl, rfl, rfl⟩, rfl, h⟩
  by_cases ha : 0 ≤ op ∧ op ≤ 15 ∧ 0 ≤ rc ∧ rc ≤ 15
  · obtain ⟨o, rfl⟩ : ∃ n : Nat, op = (n : Int) := ⟨op.toNat, by omega⟩
    obtain ⟨r, rfl⟩ : ∃ n : Nat, rc = (n : Int) := ⟨rc.toNat, by omega⟩
    by_cases hk : ∀ m ∈ nsL id (packN o r rs aa tc rd ra ad cd : Nat) c0 c1 c2 c3, okN m
    · refine ⟨0, 12, b16s (nsL id (packN o r rs aa tc rd ra ad cd : Nat) c0 c1 c2 c3), by rw [b16s_len]; rfl, Nat.le_refl _, fun u1 u2 u3 u4 W => ?_, fun u1 u2 u3 u4 W => ?_⟩
      · refine (bytes10 id rs o aa tc rd ra ad cd r u1.a u2.a u3.a u4.a u1.n u2.n u3.n u4.n u1.c u2.c u3.c u4.c c0 c1 c2 c3 W hid (by omega) (by omega)).mono ?_
        rintro e w' ⟨H1, _, hb⟩
        obtain ⟨g, rfl, hg, hB⟩ := H1 hk
        exact ⟨_, rfl, .inr ⟨g, rfl, hg, hB, by rw [b16s_len]; exact Nat.le_refl _, by rw [b16s_len]; show 12 ≤ maxLen; decide⟩, hb⟩
      · refine (ref11 id rs o aa tc rd ra ad cd r u1.a u2.a u3.a u4.a u1.n u2.n u3.n u4.n u1.c u2.c u3.c u4.c c0 c1 c2 c3 W hid (by omega) (by omega)).mono ?_
        rintro e w' ⟨H1, _, hb⟩
        obtain ⟨v, zs, rfl, ho, hz⟩ := H1 hk
        obtain ⟨ao, rfl, hO⟩ := ho.addr
        exact ⟨ao, zs, rfl, hO, hz, hb⟩
    · refine ⟨2, 0, [], rfl, by omega, fun u1 u2 u3 u4 W => ?_, fun u1 u2 u3 u4 W => ?_⟩
      · refine (bytes10 id rs o aa tc rd ra ad cd r u1.a u2.a u3.a u4.a u1.n u2.n u3.n u4.n u1.c u2.c u3.c u4.c c0 c1 c2 c3 W hid (by omega) (by omega)).mono ?_
        rintro e w' ⟨_, H1, hb⟩
        exact ⟨_, H1 hk, nn0 _ _ hb⟩
      · refine (ref11 id rs o aa tc rd ra ad cd r u1.a u2.a u3.a u4.a u1.n u2.n u3.n u4.n u1.c u2.c u3.c u4.c c0 c1 c2 c3 W hid (by omega) (by omega)).mono ?_
        rintro e w' ⟨_, H1, hb⟩
        exact ⟨_, [], H1 hk, nn1 _ _ hb⟩
  · refine ⟨2, 0, [], rfl, by omega, fun u1 u2 u3 u4 W => ?_, fun u1 u2 u3 u4 W => ?_⟩
    · refine (bytes10_arg id rs op aa tc rd ra ad cd rc u1.a u2.a u3.a u4.a u1.n u2.n u3.n u4.n u1.c u2.c u3.c u4.c c0 c1 c2 c3 W ha).mono ?_
      rintro e w' ⟨H1, hb⟩
      exact ⟨_, H1, nn0 _ _ hb⟩
    · refine (ref11_arg id rs op aa tc rd ra ad cd rc u1.a u2.a u3.a u4.a u1.n u2.n u3.n u4.n u1.c u2.c u3.c u4.c c0 c1 c2 c3 W ha).mono ?_
      rintro e w' ⟨H1, hb⟩
      exact ⟨_, [], H1, nn1 _ _ hb⟩
/-- Two answers that lie apart. -/
theorem apart2 (B : Nat) (N : Nat) (ZS : List Int) (a b : Option Addr) (W : World) (hN : ZS.length = N) (h12 : N ≤ 12) (hB : B ≤ W.heap.size) (ha : OwnA B W a N ZS) (hb : OwnA B W b N ZS) (hab : ∀ g, blk a = some g → blk b ≠ some g) :
    Calls Try.prog 13 #[.slice (some ⟨W.heap.size, 0, none⟩) 2 2] (W.alloc (.cells #[.slice a N N, .slice b N N] 30)) fun e w' => e = .returned (.bool true) ∧ Below B (W.alloc (.cells #[.slice a N N, .slice b N N] 30)) w' := by
  have hal : Below W.heap.size W (W.alloc (.cells #[.slice a N N, .slice b N N] 30)) := (Below.refl _ W).alloc (Nat.le_refl _) _
  have hnew := heap_alloc_new W (.cells #[.slice a N N, .slice b N N] 30)
  refine apart_wide B W.heap.size 2 2 [(a, N, ZS), (b, N, ZS)] _ rfl (Nat.le_refl _) (by omega) (by simp; omega) hB ⟨by simp, fun k hk => ?_⟩ ⟨fun k hk => ?_, fun j k hj hk hjk g => ?_⟩ (fun k hk => ?_)
  · match k, hk with
    | 0, _ => exact ⟨by rw [cell_of_block hnew rfl]; simp [hN], ha.below hal⟩
    | 1, _ => exact ⟨by rw [cell_of_block hnew rfl]; simp [hN], hb.below hal⟩
  · match k, hk with
    | 0, _ => intro e; have := (ha.lt _ e).2; omega
    | 1, _ => intro e; have := (hb.lt _ e).2; omega
  · match j, k, hj, hk with
    | 0, 0, _, _ => exact absurd rfl hjk
    | 1, 1, _, _ => exact absurd rfl hjk
    | 0, 1, _, _ => exact hab g
    | 1, 0, _, _ => intro e1 e2; exact hab g e2 e1
  · match k, hk with
    | 0, _ => show ZS.length ≤ _; omega
    | 1, _ => show ZS.length ≤ _; omega
end Go.Proofs.Ytmlccnpondemiaa
namespace Go.Proofs.Ytmlccnpondemiaa
open Go.ChangeShapes Go.WideShapes Go.ChangeAt Go.RowKit Go.Maps
set_option linter.unusedVariables false
set_option linter.unusedSimpArgs false
set_option maxRecDepth 100000
theorem sum9 (a b c : Nat) (ha : a ≤ 1099511627744) (hb : b ≤ 1099511627744) (hc : c ≤ 1099511627744) (h : wrap64 (wrap64 ((a : Int) + (b : Int)) + (c : Int)) ≤ 9) : a ≤ 9 ∧ b ≤ 9 ∧ c ≤ 9 := by
  unfold wrap64 at h
  omega
set_option maxHeartbeats 8000000 in
theorem tellsL (id : Nat) (rs : Bool) (op : Int) (aa tc rd ra ad cd : Bool) (rc : Int) (a1 a2 a3 a4 : Option Addr) (n1 n2 n3 n4 k1 k2 k3 k4 : Nat) (id' : Nat) (rs' : Bool) (op' : Int) (aa' tc' rd' ra' ad' cd' : Bool) (rc' : Int) (b1 b2 b3 b4 : Option Addr) (m1 m2 m3 m4 l1 l2 l3 l4 : Nat) (c0 c1 c2 c3 : Int) (qs ps : List Qn) (r2 r3 r4 q2 q3 q4 : List Rec) (w : World)
    (hid : id < 65536) (hM : MF w ⟨a1, n1, k1⟩ ⟨a2, n2, k2⟩ ⟨a3, n3, k3⟩ ⟨a4, n4, k4⟩ qs r2 r3 r4) (hT : MF w ⟨b1, m1, l1⟩ ⟨b2, m2, l2⟩ ⟨b3, m3, l3⟩ ⟨b4, m4, l4⟩ ps q2 q3 q4)
    (hq : ∀ q ∈ qs, q.nm.length ≤ 8796093022000 ∧ ∀ s ∈ q.nm, s.size ≤ 140737488355328) (hp : ∀ q ∈ ps, q.nm.length ≤ 8796093022000 ∧ ∀ s ∈ q.nm, s.size ≤ 140737488355328)
    (hn : n2 ≤ 1099511627744 ∧ n3 ≤ 1099511627744 ∧ n4 ≤ 1099511627744) (hm : m2 ≤ 1099511627744 ∧ m3 ≤ 1099511627744 ∧ m4 ≤ 1099511627744)
    (hw2 : ∀ r ∈ r2, Rw r) (hw3 : ∀ r ∈ r3, Rw r) (hw4 : ∀ r ∈ r4, Rw r) (hv2 : ∀ r ∈ q2, Rw r) (hv3 : ∀ r ∈ q3, Rw r) (hv4 : ∀ r ∈ q4, Rw r) :
    Calls Try.prog 3 #[.agg #[.int .u16 (id : Int), .bool rs, .int .i64 op, .bool aa, .bool tc, .bool rd, .bool ra, .bool ad, .bool cd, .int .i64 rc, .slice a1 n1 k1, .slice a2 n2 k2, .slice a3 n3 k3, .slice a4 n4 k4], .agg #[.int .u16 (id' : Int), .bool rs', .int .i64 op', .bool aa', .bool tc', .bool rd', .bool ra', .bool ad', .bool cd', .int .i64 rc', .slice b1 m1 l1, .slice b2 m2 l2, .slice b3 m3 l3, .slice b4 m4 l4], .agg #[.int .i64 c0, .int .i64 c1, .int .i64 c2, .int .i64 c3]] w fun e w' => e = .returned (.bool true) ∧ Below w.heap.size w w' := by
  obtain ⟨V, hV⟩ : ∃ V, V = ((w.alloc (.cells #[.int .u16 (id : Int), .bool rs, .int .i64 op, .bool aa, .bool tc, .bool rd, .bool ra, .bool ad, .bool cd, .int .i64 rc, .slice a1 n1 k1, .slice a2 n2 k2, .slice a3 n3 k3, .slice a4 n4 k4] 26)).alloc (.cells #[.int .u16 (id' : Int), .bool rs', .int .i64 op', .bool aa', .bool tc', .bool rd', .bool ra', .bool ad', .bool cd', .int .i64 rc', .slice b1 m1 l1, .slice b2 m2 l2, .slice b3 m3 l3, .slice b4 m4 l4] 26)).alloc (.cells #[.int .i64 c0, .int .i64 c1, .int .i64 c2, .int .i64 c3] 27) := ⟨_, rfl⟩
  have HT := Lib.hid (three_below w (.cells #[.int .u16 (id : Int), .bool rs, .int .i64 op, .bool aa, .bool tc, .bool rd, .bool ra, .bool ad, .bool cd, .int .i64 rc, .slice a1 n1 k1, .slice a2 n2 k2, .slice a3 n3 k3, .slice a4 n4 k4] 26) (.cells #[.int .u16 (id' : Int), .bool rs', .int .i64 op', .bool aa', .bool tc', .bool rd', .bool ra', .bool ad', .bool cd', .int .i64 rc', .slice b1 m1 l1, .slice b2 m2 l2, .slice b3 m3 l3, .slice b4 m4 l4] 26) (.cells #[.int .i64 c0, .int .i64 c1, .int .i64 c2, .int .i64 c3] 27))
  rw [← hV] at HT
  have HMV : Hid (MF V ⟨a1, n1, k1⟩ ⟨a2, n2, k2⟩ ⟨a3, n3, k3⟩ ⟨a4, n4, k4⟩ qs r2 r3 r4) := hM.below HT.out.1
  have HTV : Hid (MF V ⟨b1, m1, l1⟩ ⟨b2, m2, l2⟩ ⟨b3, m3, l3⟩ ⟨b4, m4, l4⟩ ps q2 q3 q4) := hT.below HT.out.1
  have x0 := block_lt HT.out.2.1
  have x1 := block_lt HT.out.2.2.1
  have x2 := block_lt HT.out.2.2.2.1
  have HL := Lib.hid (fun W (hb : Below V.heap.size V W) => large8 id rs op aa tc rd ra ad cd rc ⟨a1, n1, k1⟩ a2 a3 a4 n2 n3 n4 k2 k3 k4 qs W (HMV.out.q.below hb))
  have HL' := Lib.hid (fun W (hb : Below V.heap.size V W) => large8 id' rs' op' aa' tc' rd' ra' ad' cd' rc' ⟨b1, m1, l1⟩ b2 b3 b4 m2 m3 m4 l2 l3 l4 ps W (HTV.out.q.below hb))
  have HN := Lib.hid hn
  have HM2 := Lib.hid hm
  have HQ := Lib.hid hq
  have HP := Lib.hid hp
  have HID := Lib.hid hid
  have HWS := Lib.hid (And.intro hw2 (And.intro hw3 hw4))
  have HVS := Lib.hid (And.intro hv2 (And.intro hv3 hv4))
  clear hM hT hn hm hq hp hid hw2 hw3 hw4 hv2 hv3 hv4
  have C0 := fun (W : World) (hb : Below V.heap.size V W) => (hb.block _ x0).trans HT.out.2.1
  have C1 := fun (W : World) (hb : Below V.heap.size V W) => (hb.block _ x1).trans HT.out.2.2.1
  have C2 := fun (W : World) (hb : Below V.heap.size V W) => (hb.block _ x2).trans HT.out.2.2.2.1
  have yvC0_0 := cell_of_block (i := 0) (C0 V (Below.refl _ _)) rfl
  have yvC0_1 := cell_of_block (i := 1) (C0 V (Below.refl _ _)) rfl
  have yvC0_2 := cell_of_block (i := 2) (C0 V (Below.refl _ _)) rfl
  have yvC0_3 := cell_of_block (i := 3) (C0 V (Below.refl _ _)) rfl
  have yvC0_4 := cell_of_block (i := 4) (C0 V (Below.refl _ _)) rfl
  have yvC0_5 := cell_of_block (i := 5) (C0 V (Below.refl _ _)) rfl
  have yvC0_6 := cell_of_block (i := 6) (C0 V (Below.refl _ _)) rfl
  have yvC0_7 := cell_of_block (i := 7) (C0 V (Below.refl _ _)) rfl
  have yvC0_8 := cell_of_block (i := 8) (C0 V (Below.refl _ _)) rfl
  have yvC0_9 := cell_of_block (i := 9) (C0 V (Below.refl _ _)) rfl
  have yvC0_10 := cell_of_block (i := 10) (C0 V (Below.refl _ _)) rfl
  have yvC0_11 := cell_of_block (i := 11) (C0 V (Below.refl _ _)) rfl
  have yvC0_12 := cell_of_block (i := 12) (C0 V (Below.refl _ _)) rfl
  have yvC0_13 := cell_of_block (i := 13) (C0 V (Below.refl _ _)) rfl
  have yvC1_0 := cell_of_block (i := 0) (C1 V (Below.refl _ _)) rfl
  have yvC1_1 := cell_of_block (i := 1) (C1 V (Below.refl _ _)) rfl
  have yvC1_2 := cell_of_block (i := 2) (C1 V (Below.refl _ _)) rfl
  have yvC1_3 := cell_of_block (i := 3) (C1 V (Below.refl _ _)) rfl
  have yvC1_4 := cell_of_block (i := 4) (C1 V (Below.refl _ _)) rfl
  have yvC1_5 := cell_of_block (i := 5) (C1 V (Below.refl _ _)) rfl
  have yvC1_6 := cell_of_block (i := 6) (C1 V (Below.refl _ _)) rfl
  have yvC1_7 := cell_of_block (i := 7) (C1 V (Below.refl _ _)) rfl
  have yvC1_8 := cell_of_block (i := 8) (C1 V (Below.refl _ _)) rfl
  have yvC1_9 := cell_of_block (i := 9) (C1 V (Below.refl _ _)) rfl
  have yvC1_10 := cell_of_block (i := 10) (C1 V (Below.refl _ _)) rfl
  have yvC1_11 := cell_of_block (i := 11) (C1 V (Below.refl _ _)) rfl
  have yvC1_12 := cell_of_block (i := 12) (C1 V (Below.refl _ _)) rfl
  have yvC1_13 := cell_of_block (i := 13) (C1 V (Below.refl _ _)) rfl
  have yvC2_0 := cell_of_block (i := 0) (C2 V (Below.refl _ _)) rfl
  have yvC2_1 := cell_of_block (i := 1) (C2 V (Below.refl _ _)) rfl
  have yvC2_2 := cell_of_block (i := 2) (C2 V (Below.refl _ _)) rfl
  have yvC2_3 := cell_of_block (i := 3) (C2 V (Below.refl _ _)) rfl
  go_enter Try.func3, Try.ntmps3
  go_wp2_with fail
  rw [← hV]
  clear hV
  refine (HL.out V (Below.refl _ _)).mono ?_
  rintro e w1 ⟨h1, hb1⟩
  rcases h1 with rfl | ⟨rfl, g1, g2, g3⟩
  · go_wp2_with fail
    go_ret
    exact ⟨rfl, HT.out.1.trans (hb1.mono HT.out.1.size)⟩
  have yaC0_0 := cell_of_block (i := 0) (C0 w1 hb1) rfl
  have yaC0_1 := cell_of_block (i := 1) (C0 w1 hb1) rfl
  have yaC0_2 := cell_of_block (i := 2) (C0 w1 hb1) rfl
  have yaC0_3 := cell_of_block (i := 3) (C0 w1 hb1) rfl
  have yaC0_4 := cell_of_block (i := 4) (C0 w1 hb1) rfl
  have yaC0_5 := cell_of_block (i := 5) (C0 w1 hb1) rfl
  have yaC0_6 := cell_of_block (i := 6) (C0 w1 hb1) rfl
  have yaC0_7 := cell_of_block (i := 7) (C0 w1 hb1) rfl
  have yaC0_8 := cell_of_block (i := 8) (C0 w1 hb1) rfl
  have yaC0_9 := cell_of_block (i := 9) (C0 w1 hb1) rfl
  have yaC0_10 := cell_of_block (i := 10) (C0 w1 hb1) rfl
  have yaC0_11 := cell_of_block (i := 11) (C0 w1 hb1) rfl
  have yaC0_12 := cell_of_block (i := 12) (C0 w1 hb1) rfl
  have yaC0_13 := cell_of_block (i := 13) (C0 w1 hb1) rfl
  have yaC1_0 := cell_of_block (i := 0) (C1 w1 hb1) rfl
  have yaC1_1 := cell_of_block (i := 1) (C1 w1 hb1) rfl
  have yaC1_2 := cell_of_block (i := 2) (C1 w1 hb1) rfl
  have yaC1_3 := cell_of_block (i := 3) (C1 w1 hb1) rfl
  have yaC1_4 := cell_of_block (i := 4) (C1 w1 hb1) rfl
  have yaC1_5 := cell_of_block (i := 5) (C1 w1 hb1) rfl
  have yaC1_6 := cell_of_block (i := 6) (C1 w1 hb1) rfl
  have yaC1_7 := cell_of_block (i := 7) (C1 w1 hb1) rfl
  have yaC1_8 := cell_of_block (i := 8) (C1 w1 hb1) rfl
  have yaC1_9 := cell_of_block (i := 9) (C1 w1 hb1) rfl
  have yaC1_10 := cell_of_block (i := 10) (C1 w1 hb1) rfl
  have yaC1_11 := cell_of_block (i := 11) (C1 w1 hb1) rfl
  have yaC1_12 := cell_of_block (i := 12) (C1 w1 hb1) rfl
  have yaC1_13 := cell_of_block (i := 13) (C1 w1 hb1) rfl
  have yaC2_0 := cell_of_block (i := 0) (C2 w1 hb1) rfl
  have yaC2_1 := cell_of_block (i := 1) (C2 w1 hb1) rfl
  have yaC2_2 := cell_of_block (i := 2) (C2 w1 hb1) rfl
  have yaC2_3 := cell_of_block (i := 3) (C2 w1 hb1) rfl
  go_wp2_with fail
  refine (HL'.out w1 hb1).mono ?_
  rintro e w2 ⟨h2, hb2⟩
  have hbV : Below V.heap.size V w2 := hb1.trans (hb2.mono hb1.size)
  rcases h2 with rfl | ⟨rfl, g4, g5, g6⟩
  · go_wp2_with fail
    go_ret
    exact ⟨rfl, HT.out.1.trans (hbV.mono HT.out.1.size)⟩
  clear HL HL'
  obtain ⟨E, N, ZS, hN, h12, KB, KR⟩ := bytesA id HID.out rs op aa tc rd ra ad cd rc c0 c1 c2 c3
  have hs9 := sum9 n2 n3 n4 HN.out.1 HN.out.2.1 HN.out.2.2 g2
  have hs9' := sum9 m2 m3 m4 HM2.out.1 HM2.out.2.1 HM2.out.2.2 g5
  have C1' := Lib.hid (copyS id rs op aa tc rd ra ad cd rc ⟨a1, n1, k1⟩ ⟨a2, n2, k2⟩ ⟨a3, n3, k3⟩ ⟨a4, n4, k4⟩ qs r2 r3 r4 w2 (HMV.out.below hbV) g1 (fun q hq => (HQ.out q hq).1) hs9 HWS.out)
  have C2' := Lib.hid (copyS id' rs' op' aa' tc' rd' ra' ad' cd' rc' ⟨b1, m1, l1⟩ ⟨b2, m2, l2⟩ ⟨b3, m3, l3⟩ ⟨b4, m4, l4⟩ ps q2 q3 q4 w2 (HTV.out.below hbV) g4 (fun q hq => (HP.out q hq).1) hs9' HVS.out)
  have KBh := Lib.hid KB
  have KRh := Lib.hid KR
  have HNh : Hid (ZS.length = N ∧ N ≤ 12) := ⟨hN, h12⟩
  have hc0 := C0 w2 hbV
  have hc1 := C1 w2 hbV
  have HG := Lib.hid (And.intro g3 g6)
  clear KB KR hN h12 g1 g2 g3 g4 g5 g6 hs9 hs9' HVS HWS yvC0_0 yvC0_1 yvC0_2 yvC0_3 yvC0_4 yvC0_5 yvC0_6 yvC0_7 yvC0_8 yvC0_9 yvC0_10 yvC0_11 yvC0_12 yvC0_13 yvC1_0 yvC1_1 yvC1_2 yvC1_3 yvC1_4 yvC1_5 yvC1_6 yvC1_7 yvC1_8 yvC1_9 yvC1_10 yvC1_11 yvC1_12 yvC1_13 yvC2_0 yvC2_1 yvC2_2 yvC2_3 yaC0_0 yaC0_1 yaC0_2 yaC0_3 yaC0_4 yaC0_5 yaC0_6 yaC0_7 yaC0_8 yaC0_9 yaC0_10 yaC0_11 yaC0_12 yaC0_13 yaC1_0 yaC1_1 yaC1_2 yaC1_3 yaC1_4 yaC1_5 yaC1_6 yaC1_7 yaC1_8 yaC1_9 yaC1_10 yaC1_11 yaC1_12 yaC1_13 yaC2_0 yaC2_1 yaC2_2 yaC2_3
  go_upto_region 3 with fail
  refine region3 (u1 := ⟨a1, n1, k1⟩) (u2 := ⟨a2, n2, k2⟩) (u3 := ⟨a3, n3, k3⟩) (u4 := ⟨a4, n4, k4⟩) (v1 := ⟨b1, m1, l1⟩) (v2 := ⟨b2, m2, l2⟩) (v3 := ⟨b3, m3, l3⟩) (v4 := ⟨b4, m4, l4⟩) (qs := qs) (ps := ps) (r2 := r2) (r3 := r3) (r4 := r4) (q2 := q2) (q3 := q3) (q4 := q4) w.heap.size (w.heap.size + 1) (fun _ _ _ _ _ h => h) hc0 hc1 C1' C2' ?_
  intro p q s1 s2 s3 s4 t1 t2 t3 t4 W lp lq hp hq fs ft hbW
  clear C1' C2' hc0 hc1
  have hVW : Below V.heap.size V W := hbV.trans (hbW.mono hbV.size)
  have HVW := Lib.hid hVW
  have D0 := fun (X : World) (hb : Below W.heap.size W X) => C0 X (hVW.trans (hb.mono hVW.size))
  have D1 := fun (X : World) (hb : Below W.heap.size W X) => C1 X (hVW.trans (hb.mono hVW.size))
  have D2 := fun (X : World) (hb : Below W.heap.size W X) => C2 X (hVW.trans (hb.mono hVW.size))
  have D3 := fun (X : World) (hb : Below W.heap.size W X) => (hb.block _ (block_lt hp)).trans hp
  have D4 := fun (X : World) (hb : Below W.heap.size W X) => (hb.block _ (block_lt hq)).trans hq
  have MM0 : Hid (MF W ⟨a1, n1, k1⟩ ⟨a2, n2, k2⟩ ⟨a3, n3, k3⟩ ⟨a4, n4, k4⟩ qs r2 r3 r4) := HMV.out.below hVW
  have MM1 : Hid (MF W ⟨b1, m1, l1⟩ ⟨b2, m2, l2⟩ ⟨b3, m3, l3⟩ ⟨b4, m4, l4⟩ ps q2 q3 q4) := HTV.out.below hVW
  have MM3 := Lib.hid fs
  have MM4 := Lib.hid ft
  have HFIN : Hid (∀ X, Below W.heap.size W X → Below w.heap.size w X) := fun X hb => (HT.out.1.trans (hVW.mono HT.out.1.size)).trans (hb.mono (HT.out.1.trans (hVW.mono HT.out.1.size)).size)
  have BX := block_lt hp
  have BY := block_lt hq
  have lw0 : w.heap.size < W.heap.size := block_lt (D0 W (Below.refl _ _))
  have lw1 : w.heap.size + 1 < W.heap.size := block_lt (D1 W (Below.refl _ _))
  have lw2 : w.heap.size + 1 + 1 < W.heap.size := block_lt (D2 W (Below.refl _ _))
  clear fs ft hp hq C0 C1 C2 hVW hbW lp lq HMV HTV
  have za_3_0 := cell_of_block (i := 0) (D3 W (Below.refl _ _)) rfl
  have za_3_1 := cell_of_block (i := 1) (D3 W (Below.refl _ _)) rfl
  have za_3_2 := cell_of_block (i := 2) (D3 W (Below.refl _ _)) rfl
  have za_3_3 := cell_of_block (i := 3) (D3 W (Below.refl _ _)) rfl
  have za_3_4 := cell_of_block (i := 4) (D3 W (Below.refl _ _)) rfl
  have za_3_5 := cell_of_block (i := 5) (D3 W (Below.refl _ _)) rfl
  have za_3_6 := cell_of_block (i := 6) (D3 W (Below.refl _ _)) rfl
  have za_3_7 := cell_of_block (i := 7) (D3 W (Below.refl _ _)) rfl
  have za_3_8 := cell_of_block (i := 8) (D3 W (Below.refl _ _)) rfl
  have za_3_9 := cell_of_block (i := 9) (D3 W (Below.refl _ _)) rfl
  have za_3_10 := cell_of_block (i := 10) (D3 W (Below.refl _ _)) rfl
  have za_3_11 := cell_of_block (i := 11) (D3 W (Below.refl _ _)) rfl
  have za_3_12 := cell_of_block (i := 12) (D3 W (Below.refl _ _)) rfl
  have za_3_13 := cell_of_block (i := 13) (D3 W (Below.refl _ _)) rfl
  have za_2_0 := cell_of_block (i := 0) (D2 W (Below.refl _ _)) rfl
  have za_2_1 := cell_of_block (i := 1) (D2 W (Below.refl _ _)) rfl
  have za_2_2 := cell_of_block (i := 2) (D2 W (Below.refl _ _)) rfl
  have za_2_3 := cell_of_block (i := 3) (D2 W (Below.refl _ _)) rfl
  dsimp only [ptr]
  go_wp2_with fail
  refine (KBh.out s1 s2 s3 s4 W).mono ?_
  rintro e w4 ⟨ao, rfl, H4⟩
  have hb4 : Below W.heap.size W w4 := H4.out.2
  have zb_3_0 := cell_of_block (i := 0) (D3 w4 hb4) rfl
  have zb_3_1 := cell_of_block (i := 1) (D3 w4 hb4) rfl
  have zb_3_2 := cell_of_block (i := 2) (D3 w4 hb4) rfl
  have zb_3_3 := cell_of_block (i := 3) (D3 w4 hb4) rfl
  have zb_3_4 := cell_of_block (i := 4) (D3 w4 hb4) rfl
  have zb_3_5 := cell_of_block (i := 5) (D3 w4 hb4) rfl
  have zb_3_6 := cell_of_block (i := 6) (D3 w4 hb4) rfl
  have zb_3_7 := cell_of_block (i := 7) (D3 w4 hb4) rfl
  have zb_3_8 := cell_of_block (i := 8) (D3 w4 hb4) rfl
  have zb_3_9 := cell_of_block (i := 9) (D3 w4 hb4) rfl
  have zb_3_10 := cell_of_block (i := 10) (D3 w4 hb4) rfl
  have zb_3_11 := cell_of_block (i := 11) (D3 w4 hb4) rfl
  have zb_3_12 := cell_of_block (i := 12) (D3 w4 hb4) rfl
  have zb_3_13 := cell_of_block (i := 13) (D3 w4 hb4) rfl
  have zb_2_0 := cell_of_block (i := 0) (D2 w4 hb4) rfl
  have zb_2_1 := cell_of_block (i := 1) (D2 w4 hb4) rfl
  have zb_2_2 := cell_of_block (i := 2) (D2 w4 hb4) rfl
  have zb_2_3 := cell_of_block (i := 3) (D2 w4 hb4) rfl
  go_wp2_with fail
  refine (KBh.out s1 s2 s3 s4 w4).mono ?_
  rintro e w5 ⟨bo, rfl, H5⟩
  have hb5 : Below W.heap.size W w5 := hb4.trans (H5.out.2.mono hb4.size)
  have zc_0_0 := cell_of_block (i := 0) (D0 w5 hb5) rfl
  have zc_0_1 := cell_of_block (i := 1) (D0 w5 hb5) rfl
  have zc_0_2 := cell_of_block (i := 2) (D0 w5 hb5) rfl
  have zc_0_3 := cell_of_block (i := 3) (D0 w5 hb5) rfl
  have zc_0_4 := cell_of_block (i := 4) (D0 w5 hb5) rfl
  have zc_0_5 := cell_of_block (i := 5) (D0 w5 hb5) rfl
  have zc_0_6 := cell_of_block (i := 6) (D0 w5 hb5) rfl
  have zc_0_7 := cell_of_block (i := 7) (D0 w5 hb5) rfl
  have zc_0_8 := cell_of_block (i := 8) (D0 w5 hb5) rfl
  have zc_0_9 := cell_of_block (i := 9) (D0 w5 hb5) rfl
  have zc_0_10 := cell_of_block (i := 10) (D0 w5 hb5) rfl
  have zc_0_11 := cell_of_block (i := 11) (D0 w5 hb5) rfl
  have zc_0_12 := cell_of_block (i := 12) (D0 w5 hb5) rfl
  have zc_0_13 := cell_of_block (i := 13) (D0 w5 hb5) rfl
  have zc_2_0 := cell_of_block (i := 0) (D2 w5 hb5) rfl
  have zc_2_1 := cell_of_block (i := 1) (D2 w5 hb5) rfl
  have zc_2_2 := cell_of_block (i := 2) (D2 w5 hb5) rfl
  have zc_2_3 := cell_of_block (i := 3) (D2 w5 hb5) rfl
  go_wp2_with fail
  refine (KRh.out ⟨a1, n1, k1⟩ ⟨a2, n2, k2⟩ ⟨a3, n3, k3⟩ ⟨a4, n4, k4⟩ w5).mono ?_
  rintro e w6 ⟨wo, zs, rfl, H6⟩
  have hb6 : Below W.heap.size W w6 := hb5.trans (H6.out.2.2.mono hb5.size)
  have oa : OwnA W.heap.size w6 ao N ZS := (H4.out.1.below H5.out.2).below H6.out.2.2
  have ob : OwnA W.heap.size w6 bo N ZS := (H5.out.1.below H6.out.2.2).mono hb4.size
  have ow := H6.out.1
  have hz := H6.out.2.1
  have hab : ∀ g, blk ao = some g → blk bo ≠ some g := OwnA.apart H4.out.1 H5.out.1 (Nat.le_refl _)
  have S1 := Lib.hid (same_yes ao wo N N zs.length ZS w6 oa.rd (by have := ow.rdTake N; rw [hz] at this; exact this) HNh.out.1)
  have S2 := Lib.hid (same_yes bo wo N N zs.length ZS w6 ob.rd (by have := ow.rdTake N; rw [hz] at this; exact this) HNh.out.1)
  have S3 := Lib.hid (apart2 W.heap.size N ZS ao bo w6 HNh.out.1 HNh.out.2 hb6.size oa ob hab)
  have hbA : Below W.heap.size W (w6.alloc (.cells #[.slice ao N N, .slice bo N N] 30)) := hb6.alloc hb6.size _
  clear KBh KRh H4 H5 H6 oa ob ow hz hab hb4 hb5
  go_wp2_with fail
  refine S1.out.mono ?_
  rintro e w7 ⟨rfl, rfl⟩
  go_wp2_with fail
  refine S2.out.mono ?_
  rintro e w7 ⟨rfl, rfl⟩
  go_wp2_with fail
  refine S3.out.mono ?_
  rintro e w9 ⟨rfl, hb9⟩
  have hbZ : Below W.heap.size W w9 := hbA.trans hb9
  have HBZ := Lib.hid hbZ
  have NQ : Hid ((∀ q ∈ qs, Nw1 q) ∧ ∀ q ∈ ps, Nw1 q) := ⟨fun q hq => ⟨by have := HG.out.1 q hq; omega, (HQ.out q hq).2⟩, fun q hq => ⟨by have := HG.out.2 q hq; omega, (HP.out q hq).2⟩⟩
  have KA : Hid (∀ X, Below W.heap.size W X → Calls Try.prog 14 #[.agg #[.int .u16 (id : Int), .bool rs, .int .i64 op, .bool aa, .bool tc, .bool rd, .bool ra, .bool ad, .bool cd, .int .i64 rc, .slice s1.a s1.n s1.c, .slice s2.a s2.n s2.c, .slice s3.a s3.n s3.c, .slice s4.a s4.n s4.c], .agg #[.int .u16 (id' : Int), .bool rs', .int .i64 op', .bool aa', .bool tc', .bool rd', .bool ra', .bool ad', .bool cd', .int .i64 rc', .slice t1.a t1.n t1.c, .slice t2.a t2.n t2.c, .slice t3.a t3.n t3.c, .slice t4.a t4.n t4.c]] X fun e w' => e = .returned (.bool (ansF rs rs' id id' op op' qs ps)) ∧ Below X.heap.size X w') := fun X hb => answers14 id id' rs rs' op op' aa tc rd ra ad cd aa' tc' rd' ra' ad' cd' rc rc' s1 t1 s2.a s3.a s4.a t2.a t3.a t4.a s2.n s3.n s4.n s2.c s3.c s4.c t2.n t3.n t4.n t2.c t3.c t4.c qs ps X (MM3.out.q.below hb) (MM4.out.q.below hb)
  have KR : Hid (∀ X, Below W.heap.size W X → Calls Try.prog 15 #[.agg #[.int .u16 (id : Int), .bool rs, .int .i64 op, .bool aa, .bool tc, .bool rd, .bool ra, .bool ad, .bool cd, .int .i64 rc, .slice a1 n1 k1, .slice a2 n2 k2, .slice a3 n3 k3, .slice a4 n4 k4], .agg #[.int .u16 (id' : Int), .bool rs', .int .i64 op', .bool aa', .bool tc', .bool rd', .bool ra', .bool ad', .bool cd', .int .i64 rc', .slice b1 m1 l1, .slice b2 m2 l2, .slice b3 m3 l3, .slice b4 m4 l4]] X fun e w' => e = .returned (.bool (ansF rs rs' id id' op op' qs ps)) ∧ Below X.heap.size X w') := fun X hb => refans15 id id' rs rs' op op' aa tc rd ra ad cd aa' tc' rd' ra' ad' cd' rc rc' ⟨a1, n1, k1⟩ ⟨b1, m1, l1⟩ a2 a3 a4 b2 b3 b4 n2 n3 n4 k2 k3 k4 m2 m3 m4 l2 l3 l4 qs ps X (MM0.out.q.below hb) (MM1.out.q.below hb) NQ.out.1 NQ.out.2
  have KS1 : Hid (∀ X, Below W.heap.size W X → Calls Try.prog 16 #[.agg #[.int .u16 (id : Int), .bool rs, .int .i64 op, .bool aa, .bool tc, .bool rd, .bool ra, .bool ad, .bool cd, .int .i64 rc, .slice s1.a s1.n s1.c, .slice s2.a s2.n s2.c, .slice s3.a s3.n s3.c, .slice s4.a s4.n s4.c], .agg #[.int .u16 (id : Int), .bool rs, .int .i64 op, .bool aa, .bool tc, .bool rd, .bool ra, .bool ad, .bool cd, .int .i64 rc, .slice a1 n1 k1, .slice a2 n2 k2, .slice a3 n3 k3, .slice a4 n4 k4]] X fun e w' => e = .returned (.bool true) ∧ Below X.heap.size X w') := fun X hb => by
    have f3 := MM3.out.below hb
    have f0 := MM0.out.below hb
    have e2 : s2.n = n2 := f3.l2.symm.trans f0.l2
    have e3 : s3.n = n3 := f3.l3.symm.trans f0.l3
    have e4 : s4.n = n4 := f3.l4.symm.trans f0.l4
    refine sameM id rs op aa tc rd ra ad cd rc s1.a s2.a s3.a s4.a a1 a2 a3 a4 s1.n s2.n s3.n s4.n s1.c s2.c s3.c s4.c n1 n2 n3 n4 k1 k2 k3 k4 X (sames33 s1 ⟨a1, n1, k1⟩ qs X f3.q f0.q) ?_ ?_ ?_
    · rw [← e2]; exact sames34 s2.a a2 s2.n s2.c k2 r2 X f3.a2 f0.a2 f3.l2 (by have := HN.out.1; omega)
    · rw [← e3]; exact sames34 s3.a a3 s3.n s3.c k3 r3 X f3.a3 f0.a3 f3.l3 (by have := HN.out.2.1; omega)
    · rw [← e4]; exact sames34 s4.a a4 s4.n s4.c k4 r4 X f3.a4 f0.a4 f3.l4 (by have := HN.out.2.2; omega)
  have KS2 : Hid (∀ X, Below W.heap.size W X → Calls Try.prog 16 #[.agg #[.int .u16 (id' : Int), .bool rs', .int .i64 op', .bool aa', .bool tc', .bool rd', .bool ra', .bool ad', .bool cd', .int .i64 rc', .slice t1.a t1.n t1.c, .slice t2.a t2.n t2.c, .slice t3.a t3.n t3.c, .slice t4.a t4.n t4.c], .agg #[.int .u16 (id' : Int), .bool rs', .int .i64 op', .bool aa', .bool tc', .bool rd', .bool ra', .bool ad', .bool cd', .int .i64 rc', .slice b1 m1 l1, .slice b2 m2 l2, .slice b3 m3 l3, .slice b4 m4 l4]] X fun e w' => e = .returned (.bool true) ∧ Below X.heap.size X w') := fun X hb => by
    have f3 := MM4.out.below hb
    have f0 := MM1.out.below hb
    have e2 : t2.n = m2 := f3.l2.symm.trans f0.l2
    have e3 : t3.n = m3 := f3.l3.symm.trans f0.l3
    have e4 : t4.n = m4 := f3.l4.symm.trans f0.l4
    refine sameM id' rs' op' aa' tc' rd' ra' ad' cd' rc' t1.a t2.a t3.a t4.a b1 b2 b3 b4 t1.n t2.n t3.n t4.n t1.c t2.c t3.c t4.c m1 m2 m3 m4 l1 l2 l3 l4 X (sames33 t1 ⟨b1, m1, l1⟩ ps X f3.q f0.q) ?_ ?_ ?_
    · rw [← e2]; exact sames34 t2.a b2 t2.n t2.c l2 q2 X f3.a2 f0.a2 f3.l2 (by have := HM2.out.1; omega)
    · rw [← e3]; exact sames34 t3.a b3 t3.n t3.c l3 q3 X f3.a3 f0.a3 f3.l3 (by have := HM2.out.2.1; omega)
    · rw [← e4]; exact sames34 t4.a b4 t4.n t4.c l4 q4 X f3.a4 f0.a4 f3.l4 (by have := HM2.out.2.2; omega)
  have KC : ∀ X, Below W.heap.size W X → (X.cell? ⟨w.heap.size, 0, none⟩ = some (.int .u16 (id : Int)) ∧ X.cell? ⟨w.heap.size, 1, none⟩ = some (.bool rs) ∧ X.cell? ⟨w.heap.size, 2, none⟩ = some (.int .i64 op) ∧ X.cell? ⟨w.heap.size, 3, none⟩ = some (.bool aa) ∧ X.cell? ⟨w.heap.size, 4, none⟩ = some (.bool tc) ∧ X.cell? ⟨w.heap.size, 5, none⟩ = some (.bool rd) ∧ X.cell? ⟨w.heap.size, 6, none⟩ = some (.bool ra) ∧ X.cell? ⟨w.heap.size, 7, none⟩ = some (.bool ad) ∧ X.cell? ⟨w.heap.size, 8, none⟩ = some (.bool cd) ∧ X.cell? ⟨w.heap.size, 9, none⟩ = some (.int .i64 rc) ∧ X.cell? ⟨w.heap.size, 10, none⟩ = some (.slice a1 n1 k1) ∧ X.cell? ⟨w.heap.size, 11, none⟩ = some (.slice a2 n2 k2) ∧ X.cell? ⟨w.heap.size, 12, none⟩ = some (.slice a3 n3 k3) ∧ X.cell? ⟨w.heap.size, 13, none⟩ = some (.slice a4 n4 k4) ∧ X.cell? ⟨w.heap.size + 1, 0, none⟩ = some (.int .u16 (id' : Int)) ∧ X.cell? ⟨w.heap.size + 1, 1, none⟩ = some (.bool rs') ∧ X.cell? ⟨w.heap.size + 1, 2, none⟩ = some (.int .i64 op') ∧ X.cell? ⟨w.heap.size + 1, 3, none⟩ = some (.bool aa') ∧ X.cell? ⟨w.heap.size + 1, 4, none⟩ = some (.bool tc') ∧ X.cell? ⟨w.heap.size + 1, 5, none⟩ = some (.bool rd') ∧ X.cell? ⟨w.heap.size + 1, 6, none⟩ = some (.bool ra') ∧ X.cell? ⟨w.heap.size + 1, 7, none⟩ = some (.bool ad') ∧ X.cell? ⟨w.heap.size + 1, 8, none⟩ = some (.bool cd') ∧ X.cell? ⟨w.heap.size + 1, 9, none⟩ = some (.int .i64 rc') ∧ X.cell? ⟨w.heap.size + 1, 10, none⟩ = some (.slice b1 m1 l1) ∧ X.cell? ⟨w.heap.size + 1, 11, none⟩ = some (.slice b2 m2 l2) ∧ X.cell? ⟨w.heap.size + 1, 12, none⟩ = some (.slice b3 m3 l3) ∧ X.cell? ⟨w.heap.size + 1, 13, none⟩ = some (.slice b4 m4 l4) ∧ X.cell? ⟨p, 0, none⟩ = some (.int .u16 (id : Int)) ∧ X.cell? ⟨p, 1, none⟩ = some (.bool rs) ∧ X.cell? ⟨p, 2, none⟩ = some (.int .i64 op) ∧ X.cell? ⟨p, 3, none⟩ = some (.bool aa) ∧ X.cell? ⟨p, 4, none⟩ = some (.bool tc) ∧ X.cell? ⟨p, 5, none⟩ = some (.bool rd) ∧ X.cell? ⟨p, 6, none⟩ = some (.bool ra) ∧ X.cell? ⟨p, 7, none⟩ = some (.bool ad) ∧ X.cell? ⟨p, 8, none⟩ = some (.bool cd) ∧ X.cell? ⟨p, 9, none⟩ = some (.int .i64 rc) ∧ X.cell? ⟨p, 10, none⟩ = some (.slice s1.a s1.n s1.c) ∧ X.cell? ⟨p, 11, none⟩ = some (.slice s2.a s2.n s2.c) ∧ X.cell? ⟨p, 12, none⟩ = some (.slice s3.a s3.n s3.c) ∧ X.cell? ⟨p, 13, none⟩ = some (.slice s4.a s4.n s4.c) ∧ X.cell? ⟨q, 0, none⟩ = some (.int .u16 (id' : Int)) ∧ X.cell? ⟨q, 1, none⟩ = some (.bool rs') ∧ X.cell? ⟨q, 2, none⟩ = some (.int .i64 op') ∧ X.cell? ⟨q, 3, none⟩ = some (.bool aa') ∧ X.cell? ⟨q, 4, none⟩ = some (.bool tc') ∧ X.cell? ⟨q, 5, none⟩ = some (.bool rd') ∧ X.cell? ⟨q, 6, none⟩ = some (.bool ra') ∧ X.cell? ⟨q, 7, none⟩ = some (.bool ad') ∧ X.cell? ⟨q, 8, none⟩ = some (.bool cd') ∧ X.cell? ⟨q, 9, none⟩ = some (.int .i64 rc') ∧ X.cell? ⟨q, 10, none⟩ = some (.slice t1.a t1.n t1.c) ∧ X.cell? ⟨q, 11, none⟩ = some (.slice t2.a t2.n t2.c) ∧ X.cell? ⟨q, 12, none⟩ = some (.slice t3.a t3.n t3.c) ∧ X.cell? ⟨q, 13, none⟩ = some (.slice t4.a t4.n t4.c)) := fun X hb => by
    have d0 := D0 X hb
    have d1 := D1 X hb
    have d3 := D3 X hb
    have d4 := D4 X hb
    exact ⟨cell_of_block d0 rfl, cell_of_block d0 rfl, cell_of_block d0 rfl, cell_of_block d0 rfl, cell_of_block d0 rfl, cell_of_block d0 rfl, cell_of_block d0 rfl, cell_of_block d0 rfl, cell_of_block d0 rfl, cell_of_block d0 rfl, cell_of_block d0 rfl, cell_of_block d0 rfl, cell_of_block d0 rfl, cell_of_block d0 rfl, cell_of_block d1 rfl, cell_of_block d1 rfl, cell_of_block d1 rfl, cell_of_block d1 rfl, cell_of_block d1 rfl, cell_of_block d1 rfl, cell_of_block d1 rfl, cell_of_block d1 rfl, cell_of_block d1 rfl, cell_of_block d1 rfl, cell_of_block d1 rfl, cell_of_block d1 rfl, cell_of_block d1 rfl, cell_of_block d1 rfl, cell_of_block d3 rfl, cell_of_block d3 rfl, cell_of_block d3 rfl, cell_of_block d3 rfl, cell_of_block d3 rfl, cell_of_block d3 rfl, cell_of_block d3 rfl, cell_of_block d3 rfl, cell_of_block d3 rfl, cell_of_block d3 rfl, cell_of_block d3 rfl, cell_of_block d3 rfl, cell_of_block d3 rfl, cell_of_block d3 rfl, cell_of_block d4 rfl, cell_of_block d4 rfl, cell_of_block d4 rfl, cell_of_block d4 rfl, cell_of_block d4 rfl, cell_of_block d4 rfl, cell_of_block d4 rfl, cell_of_block d4 rfl, cell_of_block d4 rfl, cell_of_block d4 rfl, cell_of_block d4 rfl, cell_of_block d4 rfl, cell_of_block d4 rfl, cell_of_block d4 rfl⟩
  clear za_3_0 za_3_1 za_3_2 za_3_3 za_3_4 za_3_5 za_3_6 za_3_7 za_3_8 za_3_9 za_3_10 za_3_11 za_3_12 za_3_13 za_2_0 za_2_1 za_2_2 za_2_3 zb_3_0 zb_3_1 zb_3_2 zb_3_3 zb_3_4 zb_3_5 zb_3_6 zb_3_7 zb_3_8 zb_3_9 zb_3_10 zb_3_11 zb_3_12 zb_3_13 zb_2_0 zb_2_1 zb_2_2 zb_2_3 zc_0_0 zc_0_1 zc_0_2 zc_0_3 zc_0_4 zc_0_5 zc_0_6 zc_0_7 zc_0_8 zc_0_9 zc_0_10 zc_0_11 zc_0_12 zc_0_13 zc_2_0 zc_2_1 zc_2_2 zc_2_3 S1 S2 S3 hbA hb6 hb9 MM0 MM1 MM3 MM4 NQ HQ HP HG HN HM2 D0 D1 D2 D3 D4 HNh HID HVW HT x0 x1 x2 hb1 hb2 hbV
  go_wp2_with fail
  go_region_held3 (fun X => (X.cell? ⟨w.heap.size, 0, none⟩ = some (.int .u16 (id : Int)) ∧ X.cell? ⟨w.heap.size, 1, none⟩ = some (.bool rs) ∧ X.cell? ⟨w.heap.size, 2, none⟩ = some (.int .i64 op) ∧ X.cell? ⟨w.heap.size, 3, none⟩ = some (.bool aa) ∧ X.cell? ⟨w.heap.size, 4, none⟩ = some (.bool tc) ∧ X.cell? ⟨w.heap.size, 5, none⟩ = some (.bool rd) ∧ X.cell? ⟨w.heap.size, 6, none⟩ = some (.bool ra) ∧ X.cell? ⟨w.heap.size, 7, none⟩ = some (.bool ad) ∧ X.cell? ⟨w.heap.size, 8, none⟩ = some (.bool cd) ∧ X.cell? ⟨w.heap.size, 9, none⟩ = some (.int .i64 rc) ∧ X.cell? ⟨w.heap.size, 10, none⟩ = some (.slice a1 n1 k1) ∧ X.cell? ⟨w.heap.size, 11, none⟩ = some (.slice a2 n2 k2) ∧ X.cell? ⟨w.heap.size, 12, none⟩ = some (.slice a3 n3 k3) ∧ X.cell? ⟨w.heap.size, 13, none⟩ = some (.slice a4 n4 k4) ∧ X.cell? ⟨w.heap.size + 1, 0, none⟩ = some (.int .u16 (id' : Int)) ∧ X.cell? ⟨w.heap.size + 1, 1, none⟩ = some (.bool rs') ∧ X.cell? ⟨w.heap.size + 1, 2, none⟩ = some (.int .i64 op') ∧ X.cell? ⟨w.heap.size + 1, 3, none⟩ = some (.bool aa') ∧ X.cell? ⟨w.heap.size + 1, 4, none⟩ = some (.bool tc') ∧ X.cell? ⟨w.heap.size + 1, 5, none⟩ = some (.bool rd') ∧ X.cell? ⟨w.heap.size + 1, 6, none⟩ = some (.bool ra') ∧ X.cell? ⟨w.heap.size + 1, 7, none⟩ = some (.bool ad') ∧ X.cell? ⟨w.heap.size + 1, 8, none⟩ = some (.bool cd') ∧ X.cell? ⟨w.heap.size + 1, 9, none⟩ = some (.int .i64 rc') ∧ X.cell? ⟨w.heap.size + 1, 10, none⟩ = some (.slice b1 m1 l1) ∧ X.cell? ⟨w.heap.size + 1, 11, none⟩ = some (.slice b2 m2 l2) ∧ X.cell? ⟨w.heap.size + 1, 12, none⟩ = some (.slice b3 m3 l3) ∧ X.cell? ⟨w.heap.size + 1, 13, none⟩ = some (.slice b4 m4 l4) ∧ X.cell? ⟨p, 0, none⟩ = some (.int .u16 (id : Int)) ∧ X.cell? ⟨p, 1, none⟩ = some (.bool rs) ∧ X.cell? ⟨p, 2, none⟩ = some (.int .i64 op) ∧ X.cell? ⟨p, 3, none⟩ = some (.bool aa) ∧ X.cell? ⟨p, 4, none⟩ = some (.bool tc) ∧ X.cell? ⟨p, 5, none⟩ = some (.bool rd) ∧ X.cell? ⟨p, 6, none⟩ = some (.bool ra) ∧ X.cell? ⟨p, 7, none⟩ = some (.bool ad) ∧ X.cell? ⟨p, 8, none⟩ = some (.bool cd) ∧ X.cell? ⟨p, 9, none⟩ = some (.int .i64 rc) ∧ X.cell? ⟨p, 10, none⟩ = some (.slice s1.a s1.n s1.c) ∧ X.cell? ⟨p, 11, none⟩ = some (.slice s2.a s2.n s2.c) ∧ X.cell? ⟨p, 12, none⟩ = some (.slice s3.a s3.n s3.c) ∧ X.cell? ⟨p, 13, none⟩ = some (.slice s4.a s4.n s4.c) ∧ X.cell? ⟨q, 0, none⟩ = some (.int .u16 (id' : Int)) ∧ X.cell? ⟨q, 1, none⟩ = some (.bool rs') ∧ X.cell? ⟨q, 2, none⟩ = some (.int .i64 op') ∧ X.cell? ⟨q, 3, none⟩ = some (.bool aa') ∧ X.cell? ⟨q, 4, none⟩ = some (.bool tc') ∧ X.cell? ⟨q, 5, none⟩ = some (.bool rd') ∧ X.cell? ⟨q, 6, none⟩ = some (.bool ra') ∧ X.cell? ⟨q, 7, none⟩ = some (.bool ad') ∧ X.cell? ⟨q, 8, none⟩ = some (.bool cd') ∧ X.cell? ⟨q, 9, none⟩ = some (.int .i64 rc') ∧ X.cell? ⟨q, 10, none⟩ = some (.slice t1.a t1.n t1.c) ∧ X.cell? ⟨q, 11, none⟩ = some (.slice t2.a t2.n t2.c) ∧ X.cell? ⟨q, 12, none⟩ = some (.slice t3.a t3.n t3.c) ∧ X.cell? ⟨q, 13, none⟩ = some (.slice t4.a t4.n t4.c))) (first | exact KC _ HB8.out | exact KC _ HB7.out | exact KC _ HB6.out | exact KC _ HB5.out | exact KC _ HBZ.out.drew | exact KC _ HBZ.out) (first
    | (have hb7 := HB7.out; go_at_call 16; refine Calls.mono (KS2.out _ hb7) ?_; rintro e w8 ⟨rfl, H8⟩; have HB8 : Hid (Below W.heap.size W w8) := HB7.out.trans (H8.mono HB7.out.size))
    | (have hb6 := HB6.out; go_at_call 16; refine Calls.mono (KS1.out _ hb6) ?_; rintro e w7 ⟨rfl, H7⟩; have HB7 : Hid (Below W.heap.size W w7) := HB6.out.trans (H7.mono HB6.out.size))
    | (have hb5 := HB5.out; go_at_call 15; refine Calls.mono (KR.out _ hb5) ?_; rintro e w6 ⟨rfl, H6⟩; have HB6 : Hid (Below W.heap.size W w6) := HB5.out.trans (H6.mono HB5.out.size))
    | (go_at_call 14; refine Calls.mono (KA.out _ HBZ.out.drew) ?_; rintro e w5 ⟨rfl, H5⟩; have HB5 : Hid (Below W.heap.size W w5) := HBZ.out.drew.trans (H5.mono HBZ.out.drew.size)))
  all_goals go_wp2_with fail
  all_goals (go_ret; exact ⟨rfl, HFIN.out _ HB8.out⟩)
end Go.Proofs.Ytmlccnpondemiaa
