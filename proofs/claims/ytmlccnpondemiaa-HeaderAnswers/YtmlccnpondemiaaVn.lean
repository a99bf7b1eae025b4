/- Questions appended; header.Answers where it needs no look into the questions. -/
import Derived.Test.YtmlccnpondemiaaVk
import Derived.Test.YtmlccnpondemiaaVm
import Derived.Deep.AppendLies
import Derived.Deep.Upon
namespace Go.Proofs.Ytmlccnpondemiaa
open Go.ChangeShapes Go.WideShapes Go.ChangeAt Go.RowKit
set_option linter.unusedVariables false
set_option linter.unusedSimpArgs false

theorem Try.info50 : (Try.prog.info? 50).map (fun i => (i.zero, i.size, i.bytes)) = some (some (.agg #[.slice none 0 0, .int .u16 0, .int .u16 0]), 3, 32) := by kernel_rfl
theorem step_appQ {ops : Array Oper} {o : Oper} {a : Act} {w : World} {K : Act → World → Prop} {Q : Exit → Act → World → Prop} {E : Prop} (hgd : o.guard = none) (s x : Operand)
    (ho : o.op = .call { callee := .builtin .append, args := #[s, x], argTypes := #[23, 23] }) (B : Nat) (av : Option Addr) (n cv : Nat) (xs : List Value) (hs : a.eval s = .slice av n cv) (hown : w.ownsRow B 50 3 (.slice av n cv) n xs)
    (ao : Option Addr) (m c : Nat) (news : List Value) (hx : a.eval x = .slice ao m c) (hl : news.length = m * 3) (hsrc : ∀ ad, ao = some ad → ∀ j u, news[j]? = some u → w.cell? (ad.add j) = some u) (hnil : ao = none → m = 0) (h1 : ∀ u ∈ news, u.oneCell' = true) (hb : n + m ≤ 1000) (hB : B ≤ w.heap.size) (N : Nat) (hN : n + m = N)
    (h : ∀ a' c' w', Hid (w'.ownsRow B 50 3 (.slice a' N c') N (xs ++ news)) → Hid (w.grownBy w' (Value.slice av n cv).ownBlock) → K (a.put o.dst (.slice a' N c')) w') :
    if Region.wanted o (yielded ops a.tmps) = true then Oper.wp Try.prog o a w K Q else E := by
  obtain ⟨i, hi, hz0, hz1, hz2⟩ := info_parts Try.info50
  subst hN
  by_cases hm : m = 0
  · subst hm
    have hn0 : news = [] := List.eq_nil_of_length_eq_zero (by omega)
    subst hn0
    have hw : Region.wanted o (yielded ops a.tmps) = true := by simp [Region.wanted, hgd]
    rw [if_pos hw]
    have hle : n ≤ cv := by
      rcases hown.2 with ⟨e, h0⟩ | ⟨g, cap, cur, e, _, _, h3, _⟩
      · injection e; omega
      · injection e; omega
    have hS : Src Try.prog i.size 23 (.slice ao 0 c) 0 [] w := by
      cases ao with
      | none => exact Src.ofNil w Try.underlying23 c
      | some ad => exact Src.ofSlice w Try.underlying23 ad 0 c [] (by simp) (by simp) (by simp)
    have hrun := run_append_nothing (P := Try.prog) w 23 23 o.type 50 i Try.underlying23 hi av n cv hle (.slice ao 0 c) hS
    unfold Oper.wp execOp
    simp only [ho, resolve, invoke, builtin, Sem.run_bind, Sem.run_pure, Result.andThen_ok, List.map_toArray, List.map_cons, List.map_nil, hs, hx, hrun]
    have hown' : w.ownsRow B 50 3 (.slice av (n + 0) cv) (n + 0) (xs ++ []) := by simpa using hown
    have := h av cv w hown' (World.grownBy.refl _ _)
    rw [Nat.add_zero] at this
    exact this
  · cases ao with
    | none => exact absurd (hnil rfl) hm
    | some ad =>
      refine step_append_lies w hgd s x 23 ho B 50 i _ 3 32 Try.underlying23 hi hz0 hz1 hz2 (by simp [Value.cells]) (by omega) _ n xs hs hown ad m c news hx hl (hsrc ad rfl) h1 (by omega) (by simp only [maxLen]; omega) (by omega) hB _ rfl ?_
      intro g cap w' h2 h3 h4 h5
      exact h _ _ _ h2 h3
/-- The cells of questions in a row. -/
theorem qs_cells {w : World} {s : Sl} {qs : List Qn} (h : QsRd w s qs) : ∃ news : List Value, news.length = s.n * 3 ∧ (∀ u ∈ news, u.oneCell' = true) ∧ (s.a = none → s.n = 0) ∧ ∀ W, Below w.heap.size w W → ∀ ad, s.a = some ad → ∀ j u, news[j]? = some u → W.cell? (ad.add j) = some u := by
  have hnil : s.a = none → s.n = 0 := fun e => by have := h.nil e; have := h.cap.1; omega
  rcases h.rd with h1 | ⟨b, o, h1, h2, h3⟩
  · refine ⟨[], ?_, by simp, hnil, by simp⟩
    have := h.len; rw [h1] at this; simp at this; rw [← this]; rfl
  · have hex : ∀ i, ∃ x : QA, i < qs.length → w.cell? ⟨b, o + i * 3, none⟩ = some (.slice x.s.a x.s.n x.s.c) ∧ w.cell? ⟨b, o + i * 3 + 1, none⟩ = some (.int .u16 (x.ty : Int)) ∧ w.cell? ⟨b, o + i * 3 + 2, none⟩ = some (.int .u16 (x.cl : Int)) := by
      intro i
      by_cases hi : i < qs.length
      · obtain ⟨x, e1, e2, e3, _⟩ := h3 i hi
        exact ⟨x, fun _ => ⟨e1, e2, e3⟩⟩
      · exact ⟨⟨⟨none, 0, 0⟩, 0, 0⟩, fun h => absurd h hi⟩
    obtain ⟨f, hf⟩ := Classical.axiomOfChoice hex
    refine ⟨(List.range (s.n * 3)).map fun j => if j % 3 = 0 then .slice (f (j / 3)).s.a (f (j / 3)).s.n (f (j / 3)).s.c else if j % 3 = 1 then .int .u16 ((f (j / 3)).ty : Int) else .int .u16 ((f (j / 3)).cl : Int), by simp, ?_, hnil, ?_⟩
    · intro u hu
      simp only [List.mem_map, List.mem_range] at hu
      obtain ⟨j, _, rfl⟩ := hu
      split
      · rfl
      · split <;> rfl
    · intro W hb ad had j u hu
      rw [h1] at had
      injection had with had
      subst had
      rw [List.getElem?_map] at hu
      by_cases hj : j < s.n * 3
      · rw [List.getElem?_range hj] at hu
        simp only [Option.map_some, Option.some.injEq] at hu
        obtain ⟨e1, e2, e3⟩ := hf (j / 3) (by rw [h.len]; omega)
        have hcell : W.cell? ((⟨b, o, none⟩ : Addr).add j) = w.cell? ⟨b, o + j, none⟩ := by
          have : (⟨b, o, none⟩ : Addr).add j = ⟨b, o + j, none⟩ := by simp [Addr.add]
          rw [this]
          exact hb.cell (p := ⟨b, o + j, none⟩) h2
        rw [hcell, ← hu]
        split
        · rename_i h0
          rw [← e1]; congr 2; omega
        · split
          · rename_i h0 h1
            rw [← e2]; congr 2; omega
          · rename_i h0 h1
            rw [← e3]; congr 2; omega
      · rw [List.getElem?_eq_none (by simp; omega)] at hu
        simp at hu
theorem own_empty {w : World} {B X : Nat} (hX : w.heap[X]? = some (.cells #[] 50)) (hB : B ≤ X) : w.ownsRow B 50 3 (.slice (some ⟨X, 0, none⟩) 0 0) 0 [] :=
  ⟨rfl, .inr ⟨X, 0, #[], rfl, hB, hX, Nat.le_refl _, by simp, rfl, rfl⟩⟩

theorem eqf30_len (a b : Option Addr) (n m c d : Nat) (h : n ≠ m) (w : World) : Calls Try.prog 30 #[.slice a n c, .slice b m d, .func (.func 31) #[] #[]] w fun e w' => e = .returned (.bool false) ∧ w' = w := by
  have hne : ((n : Int) == (m : Int)) = false := by simp; omega
  go_enter Try.func30, Try.ntmps30
  go_wp2
  go_ret
  exact ⟨rfl, rfl⟩
theorem answers_len (id : Int) (op : Int) (aa tc rd ra ad cd aa' tc' rd' ra' ad' cd' : Bool) (rc rc' : Int) (a1 a2 a3 a4 d1 d2 d3 d4 : Option Addr) (n1 n2 n3 n4 k1 k2 k3 k4 m1 m2 m3 m4 l1 l2 l3 l4 : Nat) (h : n1 ≠ m1) (w : World) :
    Calls Try.prog 14 #[.agg #[.int .u16 id, .bool true, .int .i64 op, .bool aa, .bool tc, .bool rd, .bool ra, .bool ad, .bool cd, .int .i64 rc, .slice a1 n1 k1, .slice a2 n2 k2, .slice a3 n3 k3, .slice a4 n4 k4], .agg #[.int .u16 id, .bool false, .int .i64 op, .bool aa', .bool tc', .bool rd', .bool ra', .bool ad', .bool cd', .int .i64 rc', .slice d1 m1 l1, .slice d2 m2 l2, .slice d3 m3 l3, .slice d4 m4 l4]] w fun e w' => e = .returned (.bool false) ∧ Below w.heap.size w w' := by
  have KN := fun W => Lib.hid (eqf30_len a1 d1 n1 m1 k1 l1 h W)
  clear h
  go_enter Try.func14, Try.ntmps14
  go_wp2_with fail
  refine (KN _).out.mono ?_
  rintro e w2 ⟨rfl, rfl⟩
  go_wp2
  go_ret
  exact ⟨rfl, ((Below.refl _ _).alloc (Nat.le_refl _) _).alloc (by simp) _⟩
theorem answers_resp (id id' : Int) (op op' : Int) (aa tc rd ra ad cd rs' aa' tc' rd' ra' ad' cd' : Bool) (rc rc' : Int) (a1 a2 a3 a4 d1 d2 d3 d4 : Option Addr) (n1 n2 n3 n4 k1 k2 k3 k4 m1 m2 m3 m4 l1 l2 l3 l4 : Nat) (w : World) :
    Calls Try.prog 14 #[.agg #[.int .u16 id, .bool false, .int .i64 op, .bool aa, .bool tc, .bool rd, .bool ra, .bool ad, .bool cd, .int .i64 rc, .slice a1 n1 k1, .slice a2 n2 k2, .slice a3 n3 k3, .slice a4 n4 k4], .agg #[.int .u16 id', .bool rs', .int .i64 op', .bool aa', .bool tc', .bool rd', .bool ra', .bool ad', .bool cd', .int .i64 rc', .slice d1 m1 l1, .slice d2 m2 l2, .slice d3 m3 l3, .slice d4 m4 l4]] w fun e w' => e = .returned (.bool false) ∧ Below w.heap.size w w' := by
  go_enter Try.func14, Try.ntmps14
  go_wp2
  go_ret
  exact ⟨rfl, ((Below.refl _ _).alloc (Nat.le_refl _) _).alloc (by simp) _⟩
end Go.Proofs.Ytmlccnpondemiaa
