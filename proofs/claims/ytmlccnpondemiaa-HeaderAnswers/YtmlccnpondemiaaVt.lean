/- HeaderAnswers' walk. -/
import Derived.Test.YtmlccnpondemiaaVn
import Derived.Deep.RegionHeld3
import Derived.Deep.CutBlock
import Derived.Deep.CutRange
namespace Go.Proofs.Ytmlccnpondemiaa
open Go.ChangeShapes Go.WideShapes Go.ChangeAt Go.RowKit
set_option linter.unusedVariables false
set_option linter.unusedSimpArgs false

theorem ownsRow_below {w w' : World} {B e size n : Nat} {v : Value} {xs : List Value} (h : w.ownsRow B e size v n xs) (hb : Below w.heap.size w w') : w'.ownsRow B e size v n xs := by
  refine ⟨h.1, ?_⟩
  rcases h.2 with h | ⟨g, cap, cur, e1, e2, e3, e4⟩
  · exact .inl h
  · exact .inr ⟨g, cap, cur, e1, e2, (hb.block g (block_lt e3)).trans e3, e4⟩
theorem ownsRow_block {w : World} {B e size n : Nat} {v : Value} {xs : List Value} (h : w.ownsRow B e size v n xs) : ∀ k, v.ownBlock = some k → B ≤ k := by
  intro k hk
  rcases h.2 with ⟨h, _⟩ | ⟨g, cap, cur, e1, e2, _⟩
  · subst h; cases hk
  · subst e1; injection hk with hk; subst hk; exact e2
theorem step_app1 {ops : Array Oper} {o : Oper} {a : Act} {w : World} {K : Act → World → Prop} {Q : Exit → Act → World → Prop} {E : Prop} (hgd : o.guard = none) (s x : Operand)
    (ho : o.op = .call { callee := .builtin .append, args := #[s, x], argTypes := #[23, 23] }) (V : World) (hb : Below V.heap.size V w) (X : Nat) (hs : a.eval s = .slice (some ⟨X, 0, none⟩) 0 0) (hX : w.heap[X]? = some (.cells #[] 50)) (hXV : V.heap.size ≤ X)
    (ao : Option Addr) (m c : Nat) (news : List Value) (hx : a.eval x = .slice ao m c) (hl : news.length = m * 3) (hsrc : ∀ W, Below V.heap.size V W → ∀ ad, ao = some ad → ∀ j u, news[j]? = some u → W.cell? (ad.add j) = some u) (hnil : ao = none → m = 0) (h1 : ∀ u ∈ news, u.oneCell' = true) (hm : m ≤ 20)
    (h : ∀ a' c' w', Hid (w'.ownsRow V.heap.size 50 3 (.slice a' m c') m news) → Hid (Below V.heap.size V w') → Hid (w.grownBy w' (some X)) → K (a.put o.dst (.slice a' m c')) w') :
    if Region.wanted o (yielded ops a.tmps) = true then Oper.wp Try.prog o a w K Q else E := by
  refine step_appQ hgd s x ho V.heap.size (some ⟨X, 0, none⟩) 0 0 [] hs (own_empty hX hXV) ao m c news hx hl (hsrc w hb) hnil h1 (by omega) hb.size m (by omega) ?_
  intro a' c' w' hO hG
  have hO' := hO.out
  rw [List.nil_append] at hO'
  exact h a' c' w' hO' (hb.grown hG.out hb.size (fun k hk => by injection hk with hk; subst hk; exact hXV)) hG.out
theorem step_app2 {ops : Array Oper} {o : Oper} {a : Act} {w : World} {K : Act → World → Prop} {Q : Exit → Act → World → Prop} {E : Prop} (hgd : o.guard = none) (s x : Operand)
    (ho : o.op = .call { callee := .builtin .append, args := #[s, x], argTypes := #[23, 23] }) (V : World) (hb : Below V.heap.size V w) (av : Option Addr) (m cv : Nat) (xs : List Value) (hs : a.eval s = .slice av m cv) (hown : w.ownsRow V.heap.size 50 3 (.slice av m cv) m xs) (hm : m ≤ 20)
    (Y : Nat) (u0 u1 u2 : Value) (hx : a.eval x = .slice (some ⟨Y, 0, none⟩) 1 1) (hY : w.heap[Y]? = some (.cells #[u0, u1, u2] 50)) (h1 : ∀ u ∈ [u0, u1, u2], u.oneCell' = true)
    (h : ∀ a' c' w', Hid (Below V.heap.size V w') → K (a.put o.dst (.slice a' (m + 1) c')) w') :
    if Region.wanted o (yielded ops a.tmps) = true then Oper.wp Try.prog o a w K Q else E := by
  refine step_appQ hgd s x ho V.heap.size av m cv xs hs hown (some ⟨Y, 0, none⟩) 1 1 [u0, u1, u2] hx rfl (fun ad had => by injection had with had; subst had; exact World.news_of_block hY) (by simp) h1 (by omega) hb.size (m + 1) rfl ?_
  intro a' c' w' hO hG
  exact h a' c' w' (hb.grown hG.out hb.size (fun k hk => ownsRow_block hown k hk))
theorem set_far (W : World) (a b : Addr) (u : Value) (h : ¬ b.block = a.block) : (W.setCell a u).cell? b = W.cell? b := World.cell?_of_block (w := W) (Below.heap_setCell W a u b.block h)
theorem alloc_at' (W : World) (o : Obj) (X : Nat) (h : X = W.heap.size) : (W.alloc o).heap[X]? = some o := by subst h; exact alloc_at _ _
set_option maxRecDepth 100000 in
set_option maxHeartbeats 8000000 in
theorem answersL (id : Nat) (rs : Bool) (op : Int) (aa tc rd ra ad cd : Bool) (rc : Int) (s1 : Sl) (a2 a3 a4 : Option Addr) (n2 n3 n4 k2 k3 k4 : Nat) (qs : List Qn) (id2 : Nat) (qa : Option Addr) (qn qk qt qc : Nat) (w : World) (h1 : QsRd w s1 qs) :
    Calls Try.prog 6 #[.agg #[.int .u16 (id : Int), .bool rs, .int .i64 op, .bool aa, .bool tc, .bool rd, .bool ra, .bool ad, .bool cd, .int .i64 rc, .slice s1.a s1.n s1.c, .slice a2 n2 k2, .slice a3 n3 k3, .slice a4 n4 k4], .int .u16 (id2 : Int), .agg #[.slice qa qn qk, .int .u16 (qt : Int), .int .u16 (qc : Int)]] w fun e w' => e = .returned (.bool true) ∧ Below w.heap.size w w' := by
  obtain ⟨a1, n1, k1⟩ := s1
  have HQ : Hid (QsRd w ⟨a1, n1, k1⟩ qs) := h1
  simp only
  clear h1
  go_enter Try.func6, Try.ntmps6
  go_wp2_with fail
  refine (awake21 _).mono ?_
  rintro e w1 ⟨rfl, hb1⟩
  have HM1 : Hid (Below w.heap.size w w1 ∧ w1.heap[w.heap.size]? = some (.cells #[.int .u16 (id : Int), .bool rs, .int .i64 op, .bool aa, .bool tc, .bool rd, .bool ra, .bool ad, .bool cd, .int .i64 rc, .slice a1 n1 k1, .slice a2 n2 k2, .slice a3 n3 k3, .slice a4 n4 k4] 26) ∧ w1.heap[w.heap.size + 1]? = some (.cells #[.slice qa qn qk, .int .u16 (qt : Int), .int .u16 (qc : Int)] 50)) := by
    refine ⟨(((Below.refl _ _).alloc (Nat.le_refl _) _).alloc (by simp) _).trans (hb1.mono (by simp; omega)), (hb1.block _ (by simp; omega)).trans (block_alloc (alloc_at _ _) _), (hb1.block _ (by simp)).trans ?_⟩
    have := alloc_at (w.alloc (.cells #[.int .u16 (id : Int), .bool rs, .int .i64 op, .bool aa, .bool tc, .bool rd, .bool ra, .bool ad, .bool cd, .int .i64 rc, .slice a1 n1 k1, .slice a2 n2 k2, .slice a3 n3 k3, .slice a4 n4 k4] 26)) (.cells #[.slice qa qn qk, .int .u16 (qt : Int), .int .u16 (qc : Int)] 50)
    simp only [World.size_alloc] at this
    exact this
  clear hb1
  have KL := Lib.hid (large8 (id : Int) rs op aa tc rd ra ad cd rc ⟨a1, n1, k1⟩ a2 a3 a4 n2 n3 n4 k2 k3 k4 qs w1 (HQ.out.below HM1.out.1))
  simp only at KL
  have p0 := block_lt HM1.out.2.1
  have p1 := block_lt HM1.out.2.2
  have x0 : w1.cell? ⟨w.heap.size, 0, none⟩ = some (.int .u16 (id : Int)) := cell_of_block HM1.out.2.1 rfl
  have x1 : w1.cell? ⟨w.heap.size, 1, none⟩ = some (.bool rs) := cell_of_block HM1.out.2.1 rfl
  have x2 : w1.cell? ⟨w.heap.size, 2, none⟩ = some (.int .i64 op) := cell_of_block HM1.out.2.1 rfl
  have x3 : w1.cell? ⟨w.heap.size, 3, none⟩ = some (.bool aa) := cell_of_block HM1.out.2.1 rfl
  have x4 : w1.cell? ⟨w.heap.size, 4, none⟩ = some (.bool tc) := cell_of_block HM1.out.2.1 rfl
  have x5 : w1.cell? ⟨w.heap.size, 5, none⟩ = some (.bool rd) := cell_of_block HM1.out.2.1 rfl
  have x6 : w1.cell? ⟨w.heap.size, 6, none⟩ = some (.bool ra) := cell_of_block HM1.out.2.1 rfl
  have x7 : w1.cell? ⟨w.heap.size, 7, none⟩ = some (.bool ad) := cell_of_block HM1.out.2.1 rfl
  have x8 : w1.cell? ⟨w.heap.size, 8, none⟩ = some (.bool cd) := cell_of_block HM1.out.2.1 rfl
  have x9 : w1.cell? ⟨w.heap.size, 9, none⟩ = some (.int .i64 rc) := cell_of_block HM1.out.2.1 rfl
  have x10 : w1.cell? ⟨w.heap.size, 10, none⟩ = some (.slice a1 n1 k1) := cell_of_block HM1.out.2.1 rfl
  have x11 : w1.cell? ⟨w.heap.size, 11, none⟩ = some (.slice a2 n2 k2) := cell_of_block HM1.out.2.1 rfl
  have x12 : w1.cell? ⟨w.heap.size, 12, none⟩ = some (.slice a3 n3 k3) := cell_of_block HM1.out.2.1 rfl
  have x13 : w1.cell? ⟨w.heap.size, 13, none⟩ = some (.slice a4 n4 k4) := cell_of_block HM1.out.2.1 rfl
  have q0 : w1.cell? ⟨w.heap.size + 1, 0, none⟩ = some (.slice qa qn qk) := cell_of_block HM1.out.2.2 rfl
  have q1 : w1.cell? ⟨w.heap.size + 1, 1, none⟩ = some (.int .u16 (qt : Int)) := cell_of_block HM1.out.2.2 rfl
  have q2 : w1.cell? ⟨w.heap.size + 1, 2, none⟩ = some (.int .u16 (qc : Int)) := cell_of_block HM1.out.2.2 rfl
  go_wp2_with fail
  refine KL.out.mono ?_
  rintro e w2 ⟨he, hb2⟩
  have HM2 : Hid (Below w.heap.size w w2 ∧ w2.heap[w.heap.size]? = some (.cells #[.int .u16 (id : Int), .bool rs, .int .i64 op, .bool aa, .bool tc, .bool rd, .bool ra, .bool ad, .bool cd, .int .i64 rc, .slice a1 n1 k1, .slice a2 n2 k2, .slice a3 n3 k3, .slice a4 n4 k4] 26) ∧ w2.heap[w.heap.size + 1]? = some (.cells #[.slice qa qn qk, .int .u16 (qt : Int), .int .u16 (qc : Int)] 50)) := ⟨HM1.out.1.trans (hb2.mono HM1.out.1.size), (hb2.block _ p0).trans HM1.out.2.1, (hb2.block _ p1).trans HM1.out.2.2⟩
  clear hb2 HM1 KL x0 x1 x2 x3 x4 x5 x6 x7 x8 x9 x10 x11 x12 x13 q0 q1 q2 p0 p1
  have p0 := block_lt HM2.out.2.1
  have p1 := block_lt HM2.out.2.2
  have x0 : w2.cell? ⟨w.heap.size, 0, none⟩ = some (.int .u16 (id : Int)) := cell_of_block HM2.out.2.1 rfl
  have x1 : w2.cell? ⟨w.heap.size, 1, none⟩ = some (.bool rs) := cell_of_block HM2.out.2.1 rfl
  have x2 : w2.cell? ⟨w.heap.size, 2, none⟩ = some (.int .i64 op) := cell_of_block HM2.out.2.1 rfl
  have x3 : w2.cell? ⟨w.heap.size, 3, none⟩ = some (.bool aa) := cell_of_block HM2.out.2.1 rfl
  have x4 : w2.cell? ⟨w.heap.size, 4, none⟩ = some (.bool tc) := cell_of_block HM2.out.2.1 rfl
  have x5 : w2.cell? ⟨w.heap.size, 5, none⟩ = some (.bool rd) := cell_of_block HM2.out.2.1 rfl
  have x6 : w2.cell? ⟨w.heap.size, 6, none⟩ = some (.bool ra) := cell_of_block HM2.out.2.1 rfl
  have x7 : w2.cell? ⟨w.heap.size, 7, none⟩ = some (.bool ad) := cell_of_block HM2.out.2.1 rfl
  have x8 : w2.cell? ⟨w.heap.size, 8, none⟩ = some (.bool cd) := cell_of_block HM2.out.2.1 rfl
  have x9 : w2.cell? ⟨w.heap.size, 9, none⟩ = some (.int .i64 rc) := cell_of_block HM2.out.2.1 rfl
  have x10 : w2.cell? ⟨w.heap.size, 10, none⟩ = some (.slice a1 n1 k1) := cell_of_block HM2.out.2.1 rfl
  have x11 : w2.cell? ⟨w.heap.size, 11, none⟩ = some (.slice a2 n2 k2) := cell_of_block HM2.out.2.1 rfl
  have x12 : w2.cell? ⟨w.heap.size, 12, none⟩ = some (.slice a3 n3 k3) := cell_of_block HM2.out.2.1 rfl
  have x13 : w2.cell? ⟨w.heap.size, 13, none⟩ = some (.slice a4 n4 k4) := cell_of_block HM2.out.2.1 rfl
  have q0 : w2.cell? ⟨w.heap.size + 1, 0, none⟩ = some (.slice qa qn qk) := cell_of_block HM2.out.2.2 rfl
  have q1 : w2.cell? ⟨w.heap.size + 1, 1, none⟩ = some (.int .u16 (qt : Int)) := cell_of_block HM2.out.2.2 rfl
  have q2 : w2.cell? ⟨w.heap.size + 1, 2, none⟩ = some (.int .u16 (qc : Int)) := cell_of_block HM2.out.2.2 rfl
  rcases he with rfl | ⟨rfl, h20, _, h130⟩
  · go_wp2
    go_ret
    exact ⟨rfl, HM2.out.1⟩
  · clear h130
    by_cases hq : qn ≤ 130
    · have hq' : ¬ (130 : Int) < (qn : Int) := by omega
      have f1 : w2.frozen? ⟨w.heap.size, 1, none⟩ = false := frozen_of_block HM2.out.2.1
      go_wp2_with fail
      obtain ⟨V, hV⟩ : ∃ V, V = ((w2.setCell ⟨w.heap.size, 1, none⟩ (.bool true)).alloc (.cells #[.int .u16 (id : Int), .bool false, .int .i64 op, .bool false, .bool false, .bool false, .bool false, .bool false, .bool false, .int .i64 0, .slice a1 n1 k1, .slice none 0 0, .slice none 0 0, .slice none 0 0] 26)).alloc (.cells #[.int .u16 (id : Int), .bool true, .int .i64 op, .bool aa, .bool tc, .bool rd, .bool ra, .bool ad, .bool cd, .int .i64 rc, .slice a1 n1 k1, .slice a2 n2 k2, .slice a3 n3 k3, .slice a4 n4 k4] 26) := ⟨_, rfl⟩
      rw [← hV]
      have HV : Hid (Below w.heap.size w V ∧ V.heap[w.heap.size]? = some (.cells #[.int .u16 (id : Int), .bool true, .int .i64 op, .bool aa, .bool tc, .bool rd, .bool ra, .bool ad, .bool cd, .int .i64 rc, .slice a1 n1 k1, .slice a2 n2 k2, .slice a3 n3 k3, .slice a4 n4 k4] 26) ∧ V.heap[w.heap.size + 1]? = some (.cells #[.slice qa qn qk, .int .u16 (qt : Int), .int .u16 (qc : Int)] 50) ∧ V.heap[w2.heap.size]? = some (.cells #[.int .u16 (id : Int), .bool false, .int .i64 op, .bool false, .bool false, .bool false, .bool false, .bool false, .bool false, .int .i64 0, .slice a1 n1 k1, .slice none 0 0, .slice none 0 0, .slice none 0 0] 26) ∧ V.heap[w2.heap.size + 1]? = some (.cells #[.int .u16 (id : Int), .bool true, .int .i64 op, .bool aa, .bool tc, .bool rd, .bool ra, .bool ad, .bool cd, .int .i64 rc, .slice a1 n1 k1, .slice a2 n2 k2, .slice a3 n3 k3, .slice a4 n4 k4] 26)) := by
        rw [hV]
        have hs := HM2.out.1.size
        refine ⟨((HM2.out.1.setCell (p := ⟨_, _, none⟩) (Nat.le_refl _) _).alloc (by simp; omega) _).alloc (by simp; omega) _, block_alloc (block_alloc (upd_block HM2.out.2.1 _) _) _, block_alloc (block_alloc ((Below.heap_setCell _ _ _ _ (by simp)).trans HM2.out.2.2) _) _, block_alloc (alloc_at' _ _ _ (by simp)) _, alloc_at' _ _ _ (by simp)⟩
      have g0 : ¬ w.heap.size = w2.heap.size + 1 := by have := block_lt HM2.out.2.1; omega
      have g1 : ¬ w.heap.size + 1 = w2.heap.size + 1 := by have := block_lt HM2.out.2.1; omega
      have g2 : ¬ w.heap.size = w2.heap.size := by have := block_lt HM2.out.2.1; omega
      have HG3 : Hid (w.heap.size + 1 < w2.heap.size) := block_lt HM2.out.2.2
      clear hV HM2 f1 x0 x1 x2 x3 x4 x5 x6 x7 x8 x9 x10 x11 x12 x13 q0 q1 q2 p0 p1
      obtain ⟨news, hl, h1, hnil, hsrc⟩ := qs_cells HQ.out
      have HNL : Hid (news.length = n1 * 3) := hl
      have HN1 : Hid (∀ u ∈ news, u.oneCell' = true) := h1
      have HNN : Hid (a1 = none → n1 = 0) := hnil
      have HNS : Hid (∀ W, Below w.heap.size w W → ∀ ad, a1 = some ad → ∀ j u, news[j]? = some u → W.cell? (ad.add j) = some u) := hsrc
      clear hl h1 hnil hsrc
      have HNS2 : Hid (∀ W, Below V.heap.size V W → ∀ ad, a1 = some ad → ∀ j u, news[j]? = some u → W.cell? (ad.add j) = some u) := fun W hb => HNS.out W (HV.out.1.trans (hb.mono HV.out.1.size))
      have HCL : ∀ W, Below V.heap.size V W → Hid (W.cell? ⟨w.heap.size, 10, none⟩ = some (.slice a1 n1 k1) ∧ W.cell? ⟨w.heap.size + 1, 0, none⟩ = some (.slice qa qn qk) ∧ W.cell? ⟨w.heap.size + 1, 1, none⟩ = some (.int .u16 (qt : Int)) ∧ W.cell? ⟨w.heap.size + 1, 2, none⟩ = some (.int .u16 (qc : Int))) := fun W hb => by
        have e1 := (hb.block _ (block_lt HV.out.2.1)).trans HV.out.2.1
        have e2 := (hb.block _ (block_lt HV.out.2.2.1)).trans HV.out.2.2.1
        exact ⟨cell_of_block e1 rfl, cell_of_block e2 rfl, cell_of_block e2 rfl, cell_of_block e2 rfl⟩
      have p0 := block_lt HV.out.2.1
      have p1 := block_lt HV.out.2.2.1
      have p2 := block_lt HV.out.2.2.2.1
      have p3 := block_lt HV.out.2.2.2.2
      obtain ⟨c0, c1, c2, c3⟩ := (HCL V (Below.refl _ _)).out
      go_cut [36] from 30 to 37 (fun s36 wx => ∃ a' c', s36 = .slice a' (n1 + 1) c' ∧ Hid (Below w.heap.size w wx ∧ wx.heap[w.heap.size]? = some (.cells #[.int .u16 (id : Int), .bool true, .int .i64 op, .bool aa, .bool tc, .bool rd, .bool ra, .bool ad, .bool cd, .int .i64 rc, .slice a1 n1 k1, .slice a2 n2 k2, .slice a3 n3 k3, .slice a4 n4 k4] 26) ∧ wx.heap[w2.heap.size]? = some (.cells #[.int .u16 (id : Int), .bool false, .int .i64 op, .bool false, .bool false, .bool false, .bool false, .bool false, .bool false, .int .i64 0, .slice a1 n1 k1, .slice none 0 0, .slice none 0 0, .slice none 0 0] 26) ∧ wx.heap[w2.heap.size + 1]? = some (.cells #[.int .u16 (id : Int), .bool true, .int .i64 op, .bool aa, .bool tc, .bool rd, .bool ra, .bool ad, .bool cd, .int .i64 rc, .slice a' (n1 + 1) c', .slice a2 n2 k2, .slice a3 n3 k3, .slice a4 n4 k4] 26)))
      case first =>
        go_region_held3 (fun W => W.cell? ⟨w.heap.size, 10, none⟩ = some (.slice a1 n1 k1) ∧ W.cell? ⟨w.heap.size + 1, 0, none⟩ = some (.slice qa qn qk) ∧ W.cell? ⟨w.heap.size + 1, 1, none⟩ = some (.int .u16 (qt : Int)) ∧ W.cell? ⟨w.heap.size + 1, 2, none⟩ = some (.int .u16 (qc : Int))) (exact ⟨by first | assumption | (rw [set_far _ _ _ _ (by first | exact g0 | exact g1)]; assumption) | go_keep, by first | assumption | (rw [set_far _ _ _ _ (by first | exact g0 | exact g1)]; assumption) | go_keep, by first | assumption | (rw [set_far _ _ _ _ (by first | exact g0 | exact g1)]; assumption) | go_keep, by first | assumption | (rw [set_far _ _ _ _ (by first | exact g0 | exact g1)]; assumption) | go_keep⟩) (first
          | (refine step_app1 rfl _ _ rfl V (by first | exact ((Below.refl _ _).alloc (Nat.le_refl _) _).drew | exact (((Below.refl _ _).alloc (Nat.le_refl _) _).alloc (by simp) _).drew | exact (Below.refl _ _).alloc (Nat.le_refl _) _ | exact ((Below.refl _ _).alloc (Nat.le_refl _) _).alloc (by simp) _) _ rfl (by first | exact alloc_at' _ _ _ (by simp) | exact block_alloc (alloc_at' _ _ _ (by simp)) _) (by simp) a1 n1 k1 news rfl HNL.out HNS2.out HNN.out HN1.out h20 ?_; intro a5 c5 w5 hO5 hV5 hG5; obtain ⟨z0, z1, z2, z3⟩ := (HCL w5 hV5.out).out; have hz5 : w.heap.size < w5.heap.size := Nat.lt_of_lt_of_le p0 hV5.out.size; have hz6 : w.heap.size + 1 < w5.heap.size := Nat.lt_of_lt_of_le p1 hV5.out.size)
          | (refine step_app2 rfl _ _ rfl V (by first | exact hV5.out | exact (hV5.out.alloc hV5.out.size _) | exact (hV5.out.alloc hV5.out.size _).drew | exact hV5.out.drew) _ n1 _ news rfl (by first | exact hO5.out | exact ownsRow_below hO5.out ((Below.refl _ _).alloc (Nat.le_refl _) _) | exact ownsRow_below hO5.out ((Below.refl _ _).alloc (Nat.le_refl _) _).drew) h20 _ (.slice qa qn qk) (.int .u16 (qt : Int)) (.int .u16 (qc : Int)) rfl (by first | exact alloc_at' _ _ _ (by simp) | exact (hG5.out.block _ (by simp <;> omega) (by simp <;> omega)).trans (alloc_at' _ _ _ (by simp)) | exact (hG5.out.block _ (by simp <;> omega) (by simp <;> omega)).trans (block_alloc (alloc_at' _ _ _ (by simp)) _)) (by intro u hu; simp at hu; rcases hu with rfl | rfl | rfl <;> rfl) ?_; intro a6 c6 w6 hV6; obtain ⟨y0, y1, y2, y3⟩ := (HCL w6 hV6.out).out; have s9 := (hV6.out.block _ p3).trans HV.out.2.2.2.2; have t9 : w6.cell? ⟨w2.heap.size + 1, 10, none⟩ = some (.slice a1 n1 k1) := cell_of_block s9 rfl; have r9 : w6.frozen? ⟨w2.heap.size + 1, 10, none⟩ = false := frozen_of_block s9; have hl9 := block_lt s9; clear s9))
        all_goals
          go_wp2_with fail
          go_meet
          case rel =>
            refine ⟨a6, c6, rfl, ?_, ?_, ?_, ?_⟩
            · exact ((HV.out.1.trans (hV6.out.mono HV.out.1.size)).setCell (p := ⟨w2.heap.size + 1, 10, none⟩) (by have := HG3.out; simp; omega) _)
            · exact (Below.heap_setCell w6 _ _ _ g0).trans ((hV6.out.block _ p0).trans HV.out.2.1)
            · exact (Below.heap_setCell w6 _ _ _ (by simp)).trans ((hV6.out.block _ p2).trans HV.out.2.2.2.1)
            · exact (upd_block ((hV6.out.block _ p3).trans HV.out.2.2.2.2) _).trans rfl
      case rest =>
        obtain ⟨a7, c7, rfl, HX⟩ := hcut
        clear HV HNL HN1 HNN HNS HNS2 HCL p0 p1 p2 p3 c0 c1 c2 c3
        have HZ : Hid (Below w.heap.size w (wc.alloc (.cells #[.int .u16 (id2 : Int), .bool true, .int .i64 op, .bool aa, .bool tc, .bool rd, .bool ra, .bool ad, .bool cd, .int .i64 rc, .slice a1 n1 k1, .slice a2 n2 k2, .slice a3 n3 k3, .slice a4 n4 k4] 26)) ∧ (wc.alloc (.cells #[.int .u16 (id2 : Int), .bool true, .int .i64 op, .bool aa, .bool tc, .bool rd, .bool ra, .bool ad, .bool cd, .int .i64 rc, .slice a1 n1 k1, .slice a2 n2 k2, .slice a3 n3 k3, .slice a4 n4 k4] 26)).heap[w.heap.size]? = some (.cells #[.int .u16 (id : Int), .bool true, .int .i64 op, .bool aa, .bool tc, .bool rd, .bool ra, .bool ad, .bool cd, .int .i64 rc, .slice a1 n1 k1, .slice a2 n2 k2, .slice a3 n3 k3, .slice a4 n4 k4] 26) ∧ (wc.alloc (.cells #[.int .u16 (id2 : Int), .bool true, .int .i64 op, .bool aa, .bool tc, .bool rd, .bool ra, .bool ad, .bool cd, .int .i64 rc, .slice a1 n1 k1, .slice a2 n2 k2, .slice a3 n3 k3, .slice a4 n4 k4] 26)).heap[w2.heap.size]? = some (.cells #[.int .u16 (id : Int), .bool false, .int .i64 op, .bool false, .bool false, .bool false, .bool false, .bool false, .bool false, .int .i64 0, .slice a1 n1 k1, .slice none 0 0, .slice none 0 0, .slice none 0 0] 26) ∧ (wc.alloc (.cells #[.int .u16 (id2 : Int), .bool true, .int .i64 op, .bool aa, .bool tc, .bool rd, .bool ra, .bool ad, .bool cd, .int .i64 rc, .slice a1 n1 k1, .slice a2 n2 k2, .slice a3 n3 k3, .slice a4 n4 k4] 26)).heap[w2.heap.size + 1]? = some (.cells #[.int .u16 (id : Int), .bool true, .int .i64 op, .bool aa, .bool tc, .bool rd, .bool ra, .bool ad, .bool cd, .int .i64 rc, .slice a7 (n1 + 1) c7, .slice a2 n2 k2, .slice a3 n3 k3, .slice a4 n4 k4] 26) ∧ (wc.alloc (.cells #[.int .u16 (id2 : Int), .bool true, .int .i64 op, .bool aa, .bool tc, .bool rd, .bool ra, .bool ad, .bool cd, .int .i64 rc, .slice a1 n1 k1, .slice a2 n2 k2, .slice a3 n3 k3, .slice a4 n4 k4] 26)).heap[wc.heap.size]? = some (.cells #[.int .u16 (id2 : Int), .bool true, .int .i64 op, .bool aa, .bool tc, .bool rd, .bool ra, .bool ad, .bool cd, .int .i64 rc, .slice a1 n1 k1, .slice a2 n2 k2, .slice a3 n3 k3, .slice a4 n4 k4] 26)) := ⟨HX.out.1.alloc HX.out.1.size _, block_alloc HX.out.2.1 _, block_alloc HX.out.2.2.1 _, block_alloc HX.out.2.2.2 _, alloc_at _ _⟩
        have p0 := block_lt HX.out.2.1
        have p1 := block_lt HX.out.2.2.1
        have p2 := block_lt HX.out.2.2.2
        have v0 : wc.cell? ⟨w.heap.size, 0, none⟩ = some (.int .u16 (id : Int)) := cell_of_block HX.out.2.1 rfl
        have v1 : wc.cell? ⟨w.heap.size, 1, none⟩ = some (.bool true) := cell_of_block HX.out.2.1 rfl
        have v2 : wc.cell? ⟨w.heap.size, 2, none⟩ = some (.int .i64 op) := cell_of_block HX.out.2.1 rfl
        have v3 : wc.cell? ⟨w.heap.size, 3, none⟩ = some (.bool aa) := cell_of_block HX.out.2.1 rfl
        have v4 : wc.cell? ⟨w.heap.size, 4, none⟩ = some (.bool tc) := cell_of_block HX.out.2.1 rfl
        have v5 : wc.cell? ⟨w.heap.size, 5, none⟩ = some (.bool rd) := cell_of_block HX.out.2.1 rfl
        have v6 : wc.cell? ⟨w.heap.size, 6, none⟩ = some (.bool ra) := cell_of_block HX.out.2.1 rfl
        have v7 : wc.cell? ⟨w.heap.size, 7, none⟩ = some (.bool ad) := cell_of_block HX.out.2.1 rfl
        have v8 : wc.cell? ⟨w.heap.size, 8, none⟩ = some (.bool cd) := cell_of_block HX.out.2.1 rfl
        have v9 : wc.cell? ⟨w.heap.size, 9, none⟩ = some (.int .i64 rc) := cell_of_block HX.out.2.1 rfl
        have v10 : wc.cell? ⟨w.heap.size, 10, none⟩ = some (.slice a1 n1 k1) := cell_of_block HX.out.2.1 rfl
        have v11 : wc.cell? ⟨w.heap.size, 11, none⟩ = some (.slice a2 n2 k2) := cell_of_block HX.out.2.1 rfl
        have v12 : wc.cell? ⟨w.heap.size, 12, none⟩ = some (.slice a3 n3 k3) := cell_of_block HX.out.2.1 rfl
        have v13 : wc.cell? ⟨w.heap.size, 13, none⟩ = some (.slice a4 n4 k4) := cell_of_block HX.out.2.1 rfl
        go_wp2_with fail
        obtain ⟨Z, hZ⟩ : ∃ Z, Z = wc.alloc (.cells #[.int .u16 (id2 : Int), .bool true, .int .i64 op, .bool aa, .bool tc, .bool rd, .bool ra, .bool ad, .bool cd, .int .i64 rc, .slice a1 n1 k1, .slice a2 n2 k2, .slice a3 n3 k3, .slice a4 n4 k4] 26) := ⟨_, rfl⟩
        rw [← hZ] at HZ ⊢
        clear hZ HX v0 v1 v2 v3 v4 v5 v6 v7 v8 v9 v10 v11 v12 v13
        have KA : ∀ x y r W, ((x = .agg #[.int .u16 (id : Int), .bool true, .int .i64 op, .bool aa, .bool tc, .bool rd, .bool ra, .bool ad, .bool cd, .int .i64 rc, .slice a1 n1 k1, .slice a2 n2 k2, .slice a3 n3 k3, .slice a4 n4 k4] ∧ y = .agg #[.int .u16 (id : Int), .bool false, .int .i64 op, .bool false, .bool false, .bool false, .bool false, .bool false, .bool false, .int .i64 0, .slice a1 n1 k1, .slice none 0 0, .slice none 0 0, .slice none 0 0] ∧ r = true) ∨ (x = .agg #[.int .u16 (id : Int), .bool true, .int .i64 op, .bool aa, .bool tc, .bool rd, .bool ra, .bool ad, .bool cd, .int .i64 rc, .slice a7 (n1 + 1) c7, .slice a2 n2 k2, .slice a3 n3 k3, .slice a4 n4 k4] ∧ y = .agg #[.int .u16 (id : Int), .bool false, .int .i64 op, .bool false, .bool false, .bool false, .bool false, .bool false, .bool false, .int .i64 0, .slice a1 n1 k1, .slice none 0 0, .slice none 0 0, .slice none 0 0] ∧ r = false) ∨ (x = .agg #[.int .u16 (id2 : Int), .bool true, .int .i64 op, .bool aa, .bool tc, .bool rd, .bool ra, .bool ad, .bool cd, .int .i64 rc, .slice a1 n1 k1, .slice a2 n2 k2, .slice a3 n3 k3, .slice a4 n4 k4] ∧ y = .agg #[.int .u16 (id : Int), .bool false, .int .i64 op, .bool false, .bool false, .bool false, .bool false, .bool false, .bool false, .int .i64 0, .slice a1 n1 k1, .slice none 0 0, .slice none 0 0, .slice none 0 0] ∧ r = (id2 == id)) ∨ (x = .agg #[.int .u16 (id : Int), .bool false, .int .i64 op, .bool false, .bool false, .bool false, .bool false, .bool false, .bool false, .int .i64 0, .slice a1 n1 k1, .slice none 0 0, .slice none 0 0, .slice none 0 0] ∧ y = .agg #[.int .u16 (id : Int), .bool true, .int .i64 op, .bool aa, .bool tc, .bool rd, .bool ra, .bool ad, .bool cd, .int .i64 rc, .slice a1 n1 k1, .slice a2 n2 k2, .slice a3 n3 k3, .slice a4 n4 k4] ∧ r = false)) → Below Z.heap.size Z W → Hid (Calls Try.prog 14 #[x, y] W fun e w' => e = .returned (.bool r) ∧ Hid (Below W.heap.size W w')) := by
          intro x y r W hx hb
          have hq := HQ.out.below (HZ.out.1.trans (hb.mono HZ.out.1.size))
          rcases hx with ⟨rfl, rfl, rfl⟩ | ⟨rfl, rfl, rfl⟩ | ⟨rfl, rfl, rfl⟩ | ⟨rfl, rfl, rfl⟩
          · refine Calls.mono (answers14 id id true false op op aa tc rd ra ad cd false false false false false false rc 0 ⟨a1, n1, k1⟩ ⟨a1, n1, k1⟩ a2 a3 a4 none none none n2 n3 n4 k2 k3 k4 0 0 0 0 0 0 qs qs W hq hq) ?_
            rintro e w' ⟨rfl, h⟩
            exact ⟨by simp [ansF, sqs_refl], h⟩
          · refine Calls.mono (answers_len (id : Int) op aa tc rd ra ad cd false false false false false false rc 0 a7 a2 a3 a4 a1 none none none (n1 + 1) n2 n3 n4 c7 k2 k3 k4 n1 0 0 0 k1 0 0 0 (by omega) W) ?_
            rintro e w' ⟨rfl, h⟩
            exact ⟨rfl, h⟩
          · refine Calls.mono (answers14 id2 id true false op op aa tc rd ra ad cd false false false false false false rc 0 ⟨a1, n1, k1⟩ ⟨a1, n1, k1⟩ a2 a3 a4 none none none n2 n3 n4 k2 k3 k4 0 0 0 0 0 0 qs qs W hq hq) ?_
            rintro e w' ⟨rfl, h⟩
            exact ⟨by simp [ansF, sqs_refl], h⟩
          · refine Calls.mono (answers_resp (id : Int) (id : Int) op op false false false false false false true aa tc rd ra ad cd 0 rc a1 none none none a1 a2 a3 a4 n1 0 0 0 k1 0 0 0 n1 n2 n3 n4 k1 k2 k3 k4 W) ?_
            rintro e w' ⟨rfl, h⟩
            exact ⟨rfl, h⟩
        have HALL : ∀ W, Below Z.heap.size Z W → Hid (W.heap[w.heap.size]? = some (.cells #[.int .u16 (id : Int), .bool true, .int .i64 op, .bool aa, .bool tc, .bool rd, .bool ra, .bool ad, .bool cd, .int .i64 rc, .slice a1 n1 k1, .slice a2 n2 k2, .slice a3 n3 k3, .slice a4 n4 k4] 26) ∧ W.heap[w2.heap.size]? = some (.cells #[.int .u16 (id : Int), .bool false, .int .i64 op, .bool false, .bool false, .bool false, .bool false, .bool false, .bool false, .int .i64 0, .slice a1 n1 k1, .slice none 0 0, .slice none 0 0, .slice none 0 0] 26) ∧ W.heap[w2.heap.size + 1]? = some (.cells #[.int .u16 (id : Int), .bool true, .int .i64 op, .bool aa, .bool tc, .bool rd, .bool ra, .bool ad, .bool cd, .int .i64 rc, .slice a7 (n1 + 1) c7, .slice a2 n2 k2, .slice a3 n3 k3, .slice a4 n4 k4] 26) ∧ W.heap[wc.heap.size]? = some (.cells #[.int .u16 (id2 : Int), .bool true, .int .i64 op, .bool aa, .bool tc, .bool rd, .bool ra, .bool ad, .bool cd, .int .i64 rc, .slice a1 n1 k1, .slice a2 n2 k2, .slice a3 n3 k3, .slice a4 n4 k4] 26)) := fun W hb => ⟨(hb.block _ (block_lt HZ.out.2.1)).trans HZ.out.2.1, (hb.block _ (block_lt HZ.out.2.2.1)).trans HZ.out.2.2.1, (hb.block _ (block_lt HZ.out.2.2.2.1)).trans HZ.out.2.2.2.1, (hb.block _ (block_lt HZ.out.2.2.2.2)).trans HZ.out.2.2.2.2⟩
        have KS : ∀ W, Below Z.heap.size Z W → (W.cell? ⟨w.heap.size, 0, none⟩ = some (.int .u16 (id : Int)) ∧ W.cell? ⟨w.heap.size, 1, none⟩ = some (.bool true) ∧ W.cell? ⟨w.heap.size, 2, none⟩ = some (.int .i64 op) ∧ W.cell? ⟨w.heap.size, 3, none⟩ = some (.bool aa) ∧ W.cell? ⟨w.heap.size, 4, none⟩ = some (.bool tc) ∧ W.cell? ⟨w.heap.size, 5, none⟩ = some (.bool rd) ∧ W.cell? ⟨w.heap.size, 6, none⟩ = some (.bool ra) ∧ W.cell? ⟨w.heap.size, 7, none⟩ = some (.bool ad) ∧ W.cell? ⟨w.heap.size, 8, none⟩ = some (.bool cd) ∧ W.cell? ⟨w.heap.size, 9, none⟩ = some (.int .i64 rc) ∧ W.cell? ⟨w.heap.size, 10, none⟩ = some (.slice a1 n1 k1) ∧ W.cell? ⟨w.heap.size, 11, none⟩ = some (.slice a2 n2 k2) ∧ W.cell? ⟨w.heap.size, 12, none⟩ = some (.slice a3 n3 k3) ∧ W.cell? ⟨w.heap.size, 13, none⟩ = some (.slice a4 n4 k4) ∧ W.cell? ⟨w2.heap.size, 0, none⟩ = some (.int .u16 (id : Int)) ∧ W.cell? ⟨w2.heap.size, 1, none⟩ = some (.bool false) ∧ W.cell? ⟨w2.heap.size, 2, none⟩ = some (.int .i64 op) ∧ W.cell? ⟨w2.heap.size, 3, none⟩ = some (.bool false) ∧ W.cell? ⟨w2.heap.size, 4, none⟩ = some (.bool false) ∧ W.cell? ⟨w2.heap.size, 5, none⟩ = some (.bool false) ∧ W.cell? ⟨w2.heap.size, 6, none⟩ = some (.bool false) ∧ W.cell? ⟨w2.heap.size, 7, none⟩ = some (.bool false) ∧ W.cell? ⟨w2.heap.size, 8, none⟩ = some (.bool false) ∧ W.cell? ⟨w2.heap.size, 9, none⟩ = some (.int .i64 0) ∧ W.cell? ⟨w2.heap.size, 10, none⟩ = some (.slice a1 n1 k1) ∧ W.cell? ⟨w2.heap.size, 11, none⟩ = some (.slice none 0 0) ∧ W.cell? ⟨w2.heap.size, 12, none⟩ = some (.slice none 0 0) ∧ W.cell? ⟨w2.heap.size, 13, none⟩ = some (.slice none 0 0) ∧ W.cell? ⟨w2.heap.size + 1, 0, none⟩ = some (.int .u16 (id : Int)) ∧ W.cell? ⟨w2.heap.size + 1, 1, none⟩ = some (.bool true) ∧ W.cell? ⟨w2.heap.size + 1, 2, none⟩ = some (.int .i64 op) ∧ W.cell? ⟨w2.heap.size + 1, 3, none⟩ = some (.bool aa) ∧ W.cell? ⟨w2.heap.size + 1, 4, none⟩ = some (.bool tc) ∧ W.cell? ⟨w2.heap.size + 1, 5, none⟩ = some (.bool rd) ∧ W.cell? ⟨w2.heap.size + 1, 6, none⟩ = some (.bool ra) ∧ W.cell? ⟨w2.heap.size + 1, 7, none⟩ = some (.bool ad) ∧ W.cell? ⟨w2.heap.size + 1, 8, none⟩ = some (.bool cd) ∧ W.cell? ⟨w2.heap.size + 1, 9, none⟩ = some (.int .i64 rc) ∧ W.cell? ⟨w2.heap.size + 1, 10, none⟩ = some (.slice a7 (n1 + 1) c7) ∧ W.cell? ⟨w2.heap.size + 1, 11, none⟩ = some (.slice a2 n2 k2) ∧ W.cell? ⟨w2.heap.size + 1, 12, none⟩ = some (.slice a3 n3 k3) ∧ W.cell? ⟨w2.heap.size + 1, 13, none⟩ = some (.slice a4 n4 k4) ∧ W.cell? ⟨wc.heap.size, 0, none⟩ = some (.int .u16 (id2 : Int)) ∧ W.cell? ⟨wc.heap.size, 1, none⟩ = some (.bool true) ∧ W.cell? ⟨wc.heap.size, 2, none⟩ = some (.int .i64 op) ∧ W.cell? ⟨wc.heap.size, 3, none⟩ = some (.bool aa) ∧ W.cell? ⟨wc.heap.size, 4, none⟩ = some (.bool tc) ∧ W.cell? ⟨wc.heap.size, 5, none⟩ = some (.bool rd) ∧ W.cell? ⟨wc.heap.size, 6, none⟩ = some (.bool ra) ∧ W.cell? ⟨wc.heap.size, 7, none⟩ = some (.bool ad) ∧ W.cell? ⟨wc.heap.size, 8, none⟩ = some (.bool cd) ∧ W.cell? ⟨wc.heap.size, 9, none⟩ = some (.int .i64 rc) ∧ W.cell? ⟨wc.heap.size, 10, none⟩ = some (.slice a1 n1 k1) ∧ W.cell? ⟨wc.heap.size, 11, none⟩ = some (.slice a2 n2 k2) ∧ W.cell? ⟨wc.heap.size, 12, none⟩ = some (.slice a3 n3 k3) ∧ W.cell? ⟨wc.heap.size, 13, none⟩ = some (.slice a4 n4 k4)) := fun W hb => by
          have m := (HALL W hb).out
          exact ⟨cell_of_block m.1 rfl, cell_of_block m.1 rfl, cell_of_block m.1 rfl, cell_of_block m.1 rfl, cell_of_block m.1 rfl, cell_of_block m.1 rfl, cell_of_block m.1 rfl, cell_of_block m.1 rfl, cell_of_block m.1 rfl, cell_of_block m.1 rfl, cell_of_block m.1 rfl, cell_of_block m.1 rfl, cell_of_block m.1 rfl, cell_of_block m.1 rfl, cell_of_block m.2.1 rfl, cell_of_block m.2.1 rfl, cell_of_block m.2.1 rfl, cell_of_block m.2.1 rfl, cell_of_block m.2.1 rfl, cell_of_block m.2.1 rfl, cell_of_block m.2.1 rfl, cell_of_block m.2.1 rfl, cell_of_block m.2.1 rfl, cell_of_block m.2.1 rfl, cell_of_block m.2.1 rfl, cell_of_block m.2.1 rfl, cell_of_block m.2.1 rfl, cell_of_block m.2.1 rfl, cell_of_block m.2.2.1 rfl, cell_of_block m.2.2.1 rfl, cell_of_block m.2.2.1 rfl, cell_of_block m.2.2.1 rfl, cell_of_block m.2.2.1 rfl, cell_of_block m.2.2.1 rfl, cell_of_block m.2.2.1 rfl, cell_of_block m.2.2.1 rfl, cell_of_block m.2.2.1 rfl, cell_of_block m.2.2.1 rfl, cell_of_block m.2.2.1 rfl, cell_of_block m.2.2.1 rfl, cell_of_block m.2.2.1 rfl, cell_of_block m.2.2.1 rfl, cell_of_block m.2.2.2 rfl, cell_of_block m.2.2.2 rfl, cell_of_block m.2.2.2 rfl, cell_of_block m.2.2.2 rfl, cell_of_block m.2.2.2 rfl, cell_of_block m.2.2.2 rfl, cell_of_block m.2.2.2 rfl, cell_of_block m.2.2.2 rfl, cell_of_block m.2.2.2 rfl, cell_of_block m.2.2.2 rfl, cell_of_block m.2.2.2 rfl, cell_of_block m.2.2.2 rfl, cell_of_block m.2.2.2 rfl, cell_of_block m.2.2.2 rfl⟩
        have l0 := block_lt HZ.out.2.1
        have l1 := block_lt HZ.out.2.2.1
        cases hid : (id2 == id)
        · have hid' : ((id2 : Int) == (id : Int)) = false := by simp at hid ⊢; omega
          have HRR : Hid (false = (id2 == id)) := hid.symm
          go_region_held3 (fun W => W.cell? ⟨w.heap.size, 0, none⟩ = some (.int .u16 (id : Int)) ∧ W.cell? ⟨w.heap.size, 1, none⟩ = some (.bool true) ∧ W.cell? ⟨w.heap.size, 2, none⟩ = some (.int .i64 op) ∧ W.cell? ⟨w.heap.size, 3, none⟩ = some (.bool aa) ∧ W.cell? ⟨w.heap.size, 4, none⟩ = some (.bool tc) ∧ W.cell? ⟨w.heap.size, 5, none⟩ = some (.bool rd) ∧ W.cell? ⟨w.heap.size, 6, none⟩ = some (.bool ra) ∧ W.cell? ⟨w.heap.size, 7, none⟩ = some (.bool ad) ∧ W.cell? ⟨w.heap.size, 8, none⟩ = some (.bool cd) ∧ W.cell? ⟨w.heap.size, 9, none⟩ = some (.int .i64 rc) ∧ W.cell? ⟨w.heap.size, 10, none⟩ = some (.slice a1 n1 k1) ∧ W.cell? ⟨w.heap.size, 11, none⟩ = some (.slice a2 n2 k2) ∧ W.cell? ⟨w.heap.size, 12, none⟩ = some (.slice a3 n3 k3) ∧ W.cell? ⟨w.heap.size, 13, none⟩ = some (.slice a4 n4 k4) ∧ W.cell? ⟨w2.heap.size, 0, none⟩ = some (.int .u16 (id : Int)) ∧ W.cell? ⟨w2.heap.size, 1, none⟩ = some (.bool false) ∧ W.cell? ⟨w2.heap.size, 2, none⟩ = some (.int .i64 op) ∧ W.cell? ⟨w2.heap.size, 3, none⟩ = some (.bool false) ∧ W.cell? ⟨w2.heap.size, 4, none⟩ = some (.bool false) ∧ W.cell? ⟨w2.heap.size, 5, none⟩ = some (.bool false) ∧ W.cell? ⟨w2.heap.size, 6, none⟩ = some (.bool false) ∧ W.cell? ⟨w2.heap.size, 7, none⟩ = some (.bool false) ∧ W.cell? ⟨w2.heap.size, 8, none⟩ = some (.bool false) ∧ W.cell? ⟨w2.heap.size, 9, none⟩ = some (.int .i64 0) ∧ W.cell? ⟨w2.heap.size, 10, none⟩ = some (.slice a1 n1 k1) ∧ W.cell? ⟨w2.heap.size, 11, none⟩ = some (.slice none 0 0) ∧ W.cell? ⟨w2.heap.size, 12, none⟩ = some (.slice none 0 0) ∧ W.cell? ⟨w2.heap.size, 13, none⟩ = some (.slice none 0 0) ∧ W.cell? ⟨w2.heap.size + 1, 0, none⟩ = some (.int .u16 (id : Int)) ∧ W.cell? ⟨w2.heap.size + 1, 1, none⟩ = some (.bool true) ∧ W.cell? ⟨w2.heap.size + 1, 2, none⟩ = some (.int .i64 op) ∧ W.cell? ⟨w2.heap.size + 1, 3, none⟩ = some (.bool aa) ∧ W.cell? ⟨w2.heap.size + 1, 4, none⟩ = some (.bool tc) ∧ W.cell? ⟨w2.heap.size + 1, 5, none⟩ = some (.bool rd) ∧ W.cell? ⟨w2.heap.size + 1, 6, none⟩ = some (.bool ra) ∧ W.cell? ⟨w2.heap.size + 1, 7, none⟩ = some (.bool ad) ∧ W.cell? ⟨w2.heap.size + 1, 8, none⟩ = some (.bool cd) ∧ W.cell? ⟨w2.heap.size + 1, 9, none⟩ = some (.int .i64 rc) ∧ W.cell? ⟨w2.heap.size + 1, 10, none⟩ = some (.slice a7 (n1 + 1) c7) ∧ W.cell? ⟨w2.heap.size + 1, 11, none⟩ = some (.slice a2 n2 k2) ∧ W.cell? ⟨w2.heap.size + 1, 12, none⟩ = some (.slice a3 n3 k3) ∧ W.cell? ⟨w2.heap.size + 1, 13, none⟩ = some (.slice a4 n4 k4) ∧ W.cell? ⟨wc.heap.size, 0, none⟩ = some (.int .u16 (id2 : Int)) ∧ W.cell? ⟨wc.heap.size, 1, none⟩ = some (.bool true) ∧ W.cell? ⟨wc.heap.size, 2, none⟩ = some (.int .i64 op) ∧ W.cell? ⟨wc.heap.size, 3, none⟩ = some (.bool aa) ∧ W.cell? ⟨wc.heap.size, 4, none⟩ = some (.bool tc) ∧ W.cell? ⟨wc.heap.size, 5, none⟩ = some (.bool rd) ∧ W.cell? ⟨wc.heap.size, 6, none⟩ = some (.bool ra) ∧ W.cell? ⟨wc.heap.size, 7, none⟩ = some (.bool ad) ∧ W.cell? ⟨wc.heap.size, 8, none⟩ = some (.bool cd) ∧ W.cell? ⟨wc.heap.size, 9, none⟩ = some (.int .i64 rc) ∧ W.cell? ⟨wc.heap.size, 10, none⟩ = some (.slice a1 n1 k1) ∧ W.cell? ⟨wc.heap.size, 11, none⟩ = some (.slice a2 n2 k2) ∧ W.cell? ⟨wc.heap.size, 12, none⟩ = some (.slice a3 n3 k3) ∧ W.cell? ⟨wc.heap.size, 13, none⟩ = some (.slice a4 n4 k4)) (first | exact KS _ HBw11.out | exact KS _ HBw10.out | exact KS _ HBw9.out | exact KS _ HBw8.out | exact KS _ (Below.refl Z.heap.size Z).drew | exact KS _ (Below.refl Z.heap.size Z) | exact KS _ HBw11.out.drew | exact KS _ HBw10.out.drew | exact KS _ HBw9.out.drew | exact KS _ HBw8.out.drew) (first
            | (go_at_call 14; refine Calls.mono (KA _ _ true _ ?hx ?hb).out ?_; (case hx => exact .inl ⟨rfl, rfl, rfl⟩); (case hb => first | exact (Below.refl Z.heap.size Z).drew | exact Below.refl Z.heap.size Z); rintro e w8 ⟨rfl, Hw8⟩; have HBw8 : Hid (Below Z.heap.size Z w8) := by first | exact Below.trans ((Below.refl Z.heap.size Z).drew) (Below.mono Hw8.out (Below.size ((Below.refl Z.heap.size Z).drew))) | exact Below.trans (Below.refl Z.heap.size Z) (Below.mono Hw8.out (Below.size (Below.refl Z.heap.size Z))))
            | (go_at_call 14; refine Calls.mono (KA _ _ false _ ?hx ?hb).out ?_; (case hx => exact .inr (.inl ⟨rfl, rfl, rfl⟩)); (case hb => first | exact HBw8.out | exact HBw8.out.drew); rintro e w9 ⟨rfl, Hw9⟩; have HBw9 : Hid (Below Z.heap.size Z w9) := by first | exact Below.trans (HBw8.out) (Below.mono Hw9.out (Below.size (HBw8.out))) | exact Below.trans (HBw8.out.drew) (Below.mono Hw9.out (Below.size (HBw8.out.drew))))
            | (go_at_call 14; refine Calls.mono (KA _ _ false _ ?hx ?hb).out ?_; (case hx => exact .inr (.inr (.inl ⟨rfl, rfl, HRR.out⟩))); (case hb => first | exact HBw9.out | exact HBw9.out.drew); rintro e w10 ⟨rfl, Hw10⟩; have HBw10 : Hid (Below Z.heap.size Z w10) := by first | exact Below.trans (HBw9.out) (Below.mono Hw10.out (Below.size (HBw9.out))) | exact Below.trans (HBw9.out.drew) (Below.mono Hw10.out (Below.size (HBw9.out.drew))))
            | (go_at_call 14; refine Calls.mono (KA _ _ false _ ?hx ?hb).out ?_; (case hx => exact .inr (.inr (.inr ⟨rfl, rfl, rfl⟩))); (case hb => first | exact HBw10.out | exact HBw10.out.drew); rintro e w11 ⟨rfl, Hw11⟩; have HBw11 : Hid (Below Z.heap.size Z w11) := by first | exact Below.trans (HBw10.out) (Below.mono Hw11.out (Below.size (HBw10.out))) | exact Below.trans (HBw10.out.drew) (Below.mono Hw11.out (Below.size (HBw10.out.drew)))))
          all_goals go_wp2
          all_goals go_ret
          all_goals exact ⟨rfl, HZ.out.1.trans (HBw11.out.mono HZ.out.1.size)⟩
        · have hid' : ((id2 : Int) == (id : Int)) = true := by simp at hid ⊢; omega
          have HRR : Hid (true = (id2 == id)) := hid.symm
          go_region_held3 (fun W => W.cell? ⟨w.heap.size, 0, none⟩ = some (.int .u16 (id : Int)) ∧ W.cell? ⟨w.heap.size, 1, none⟩ = some (.bool true) ∧ W.cell? ⟨w.heap.size, 2, none⟩ = some (.int .i64 op) ∧ W.cell? ⟨w.heap.size, 3, none⟩ = some (.bool aa) ∧ W.cell? ⟨w.heap.size, 4, none⟩ = some (.bool tc) ∧ W.cell? ⟨w.heap.size, 5, none⟩ = some (.bool rd) ∧ W.cell? ⟨w.heap.size, 6, none⟩ = some (.bool ra) ∧ W.cell? ⟨w.heap.size, 7, none⟩ = some (.bool ad) ∧ W.cell? ⟨w.heap.size, 8, none⟩ = some (.bool cd) ∧ W.cell? ⟨w.heap.size, 9, none⟩ = some (.int .i64 rc) ∧ W.cell? ⟨w.heap.size, 10, none⟩ = some (.slice a1 n1 k1) ∧ W.cell? ⟨w.heap.size, 11, none⟩ = some (.slice a2 n2 k2) ∧ W.cell? ⟨w.heap.size, 12, none⟩ = some (.slice a3 n3 k3) ∧ W.cell? ⟨w.heap.size, 13, none⟩ = some (.slice a4 n4 k4) ∧ W.cell? ⟨w2.heap.size, 0, none⟩ = some (.int .u16 (id : Int)) ∧ W.cell? ⟨w2.heap.size, 1, none⟩ = some (.bool false) ∧ W.cell? ⟨w2.heap.size, 2, none⟩ = some (.int .i64 op) ∧ W.cell? ⟨w2.heap.size, 3, none⟩ = some (.bool false) ∧ W.cell? ⟨w2.heap.size, 4, none⟩ = some (.bool false) ∧ W.cell? ⟨w2.heap.size, 5, none⟩ = some (.bool false) ∧ W.cell? ⟨w2.heap.size, 6, none⟩ = some (.bool false) ∧ W.cell? ⟨w2.heap.size, 7, none⟩ = some (.bool false) ∧ W.cell? ⟨w2.heap.size, 8, none⟩ = some (.bool false) ∧ W.cell? ⟨w2.heap.size, 9, none⟩ = some (.int .i64 0) ∧ W.cell? ⟨w2.heap.size, 10, none⟩ = some (.slice a1 n1 k1) ∧ W.cell? ⟨w2.heap.size, 11, none⟩ = some (.slice none 0 0) ∧ W.cell? ⟨w2.heap.size, 12, none⟩ = some (.slice none 0 0) ∧ W.cell? ⟨w2.heap.size, 13, none⟩ = some (.slice none 0 0) ∧ W.cell? ⟨w2.heap.size + 1, 0, none⟩ = some (.int .u16 (id : Int)) ∧ W.cell? ⟨w2.heap.size + 1, 1, none⟩ = some (.bool true) ∧ W.cell? ⟨w2.heap.size + 1, 2, none⟩ = some (.int .i64 op) ∧ W.cell? ⟨w2.heap.size + 1, 3, none⟩ = some (.bool aa) ∧ W.cell? ⟨w2.heap.size + 1, 4, none⟩ = some (.bool tc) ∧ W.cell? ⟨w2.heap.size + 1, 5, none⟩ = some (.bool rd) ∧ W.cell? ⟨w2.heap.size + 1, 6, none⟩ = some (.bool ra) ∧ W.cell? ⟨w2.heap.size + 1, 7, none⟩ = some (.bool ad) ∧ W.cell? ⟨w2.heap.size + 1, 8, none⟩ = some (.bool cd) ∧ W.cell? ⟨w2.heap.size + 1, 9, none⟩ = some (.int .i64 rc) ∧ W.cell? ⟨w2.heap.size + 1, 10, none⟩ = some (.slice a7 (n1 + 1) c7) ∧ W.cell? ⟨w2.heap.size + 1, 11, none⟩ = some (.slice a2 n2 k2) ∧ W.cell? ⟨w2.heap.size + 1, 12, none⟩ = some (.slice a3 n3 k3) ∧ W.cell? ⟨w2.heap.size + 1, 13, none⟩ = some (.slice a4 n4 k4) ∧ W.cell? ⟨wc.heap.size, 0, none⟩ = some (.int .u16 (id2 : Int)) ∧ W.cell? ⟨wc.heap.size, 1, none⟩ = some (.bool true) ∧ W.cell? ⟨wc.heap.size, 2, none⟩ = some (.int .i64 op) ∧ W.cell? ⟨wc.heap.size, 3, none⟩ = some (.bool aa) ∧ W.cell? ⟨wc.heap.size, 4, none⟩ = some (.bool tc) ∧ W.cell? ⟨wc.heap.size, 5, none⟩ = some (.bool rd) ∧ W.cell? ⟨wc.heap.size, 6, none⟩ = some (.bool ra) ∧ W.cell? ⟨wc.heap.size, 7, none⟩ = some (.bool ad) ∧ W.cell? ⟨wc.heap.size, 8, none⟩ = some (.bool cd) ∧ W.cell? ⟨wc.heap.size, 9, none⟩ = some (.int .i64 rc) ∧ W.cell? ⟨wc.heap.size, 10, none⟩ = some (.slice a1 n1 k1) ∧ W.cell? ⟨wc.heap.size, 11, none⟩ = some (.slice a2 n2 k2) ∧ W.cell? ⟨wc.heap.size, 12, none⟩ = some (.slice a3 n3 k3) ∧ W.cell? ⟨wc.heap.size, 13, none⟩ = some (.slice a4 n4 k4)) (first | exact KS _ HBw11.out | exact KS _ HBw10.out | exact KS _ HBw9.out | exact KS _ HBw8.out | exact KS _ (Below.refl Z.heap.size Z).drew | exact KS _ (Below.refl Z.heap.size Z) | exact KS _ HBw11.out.drew | exact KS _ HBw10.out.drew | exact KS _ HBw9.out.drew | exact KS _ HBw8.out.drew) (first
            | (go_at_call 14; refine Calls.mono (KA _ _ true _ ?hx ?hb).out ?_; (case hx => exact .inl ⟨rfl, rfl, rfl⟩); (case hb => first | exact (Below.refl Z.heap.size Z).drew | exact Below.refl Z.heap.size Z); rintro e w8 ⟨rfl, Hw8⟩; have HBw8 : Hid (Below Z.heap.size Z w8) := by first | exact Below.trans ((Below.refl Z.heap.size Z).drew) (Below.mono Hw8.out (Below.size ((Below.refl Z.heap.size Z).drew))) | exact Below.trans (Below.refl Z.heap.size Z) (Below.mono Hw8.out (Below.size (Below.refl Z.heap.size Z))))
            | (go_at_call 14; refine Calls.mono (KA _ _ false _ ?hx ?hb).out ?_; (case hx => exact .inr (.inl ⟨rfl, rfl, rfl⟩)); (case hb => first | exact HBw8.out | exact HBw8.out.drew); rintro e w9 ⟨rfl, Hw9⟩; have HBw9 : Hid (Below Z.heap.size Z w9) := by first | exact Below.trans (HBw8.out) (Below.mono Hw9.out (Below.size (HBw8.out))) | exact Below.trans (HBw8.out.drew) (Below.mono Hw9.out (Below.size (HBw8.out.drew))))
            | (go_at_call 14; refine Calls.mono (KA _ _ true _ ?hx ?hb).out ?_; (case hx => exact .inr (.inr (.inl ⟨rfl, rfl, HRR.out⟩))); (case hb => first | exact HBw9.out | exact HBw9.out.drew); rintro e w10 ⟨rfl, Hw10⟩; have HBw10 : Hid (Below Z.heap.size Z w10) := by first | exact Below.trans (HBw9.out) (Below.mono Hw10.out (Below.size (HBw9.out))) | exact Below.trans (HBw9.out.drew) (Below.mono Hw10.out (Below.size (HBw9.out.drew))))
            | (go_at_call 14; refine Calls.mono (KA _ _ false _ ?hx ?hb).out ?_; (case hx => exact .inr (.inr (.inr ⟨rfl, rfl, rfl⟩))); (case hb => first | exact HBw10.out | exact HBw10.out.drew); rintro e w11 ⟨rfl, Hw11⟩; have HBw11 : Hid (Below Z.heap.size Z w11) := by first | exact Below.trans (HBw10.out) (Below.mono Hw11.out (Below.size (HBw10.out))) | exact Below.trans (HBw10.out.drew) (Below.mono Hw11.out (Below.size (HBw10.out.drew)))))
          all_goals go_wp2
          all_goals go_ret
          all_goals exact ⟨rfl, HZ.out.1.trans (HBw11.out.mono HZ.out.1.size)⟩
    · have hq' : (130 : Int) < (qn : Int) := by omega
      go_wp2
      go_ret
      exact ⟨rfl, HM2.out.1⟩
end Go.Proofs.Ytmlccnpondemiaa
