/- nomenclatorlaw08.large. -/
import Derived.Test.YtmlccnpondemiaaVs
import Derived.Test.YtmlccnpondemiaaVi
namespace Go.Proofs.Ytmlccnpondemiaa
open Go.ChangeShapes Go.WideShapes Go.ChangeAt Go.RowKit
set_option linter.unusedVariables false
set_option linter.unusedSimpArgs false

def LgP (w : World) (n1 n2 n3 n4 : Nat) (qs : List Qn) (e : Ending) (w' : World) : Prop :=
  (e = .returned (.bool true) ∨ (e = .returned (.bool false) ∧ n1 ≤ 20 ∧ wrap64 (wrap64 ((n2 : Int) + (n3 : Int)) + (n4 : Int)) ≤ 9 ∧ ∀ q ∈ qs, q.nm.length ≤ 130)) ∧ Below w.heap.size w w'
set_option maxHeartbeats 4000000 in
theorem large8 (id : Int) (rs : Bool) (op : Int) (aa tc rd ra ad cd : Bool) (rc : Int) (s1 : Sl) (a2 a3 a4 : Option Addr) (n2 n3 n4 k2 k3 k4 : Nat) (qs : List Qn) (w : World) (h1 : QsRd w s1 qs) :
    Calls Try.prog 8 #[.agg #[.int .u16 id, .bool rs, .int .i64 op, .bool aa, .bool tc, .bool rd, .bool ra, .bool ad, .bool cd, .int .i64 rc, .slice s1.a s1.n s1.c, .slice a2 n2 k2, .slice a3 n3 k3, .slice a4 n4 k4]] w fun e w' => LgP w s1.n n2 n3 n4 qs e w' := by
  obtain ⟨a1, n1, k1⟩ := s1
  have HQ : Hid (QsRd w ⟨a1, n1, k1⟩ qs) := h1
  have HLn : Hid (qs.length = n1) := h1.len
  clear h1
  show Calls Try.prog 8 _ w fun e w' => LgP w n1 n2 n3 n4 qs e w'
  by_cases hn : n1 ≤ 20
  · have hn' : (n1 : Int) ≤ 20 := by omega
    by_cases hs : wrap64 (wrap64 ((n2 : Int) + (n3 : Int)) + (n4 : Int)) ≤ 9
    · have HNN : Hid (wrap64 (wrap64 ((n2 : Int) + (n3 : Int)) + (n4 : Int)) ≤ 9) := hs
      go_enter Try.func8, Try.ntmps8
      go_wp2_with fail
      obtain ⟨W0, hW0⟩ : ∃ W0, W0 = w.alloc (.cells #[.int .u16 id, .bool rs, .int .i64 op, .bool aa, .bool tc, .bool rd, .bool ra, .bool ad, .bool cd, .int .i64 rc, .slice a1 n1 k1, .slice a2 n2 k2, .slice a3 n3 k3, .slice a4 n4 k4] 26) := ⟨_, rfl⟩
      rw [← hW0]
      have HB0 : Hid (W0.heap[w.heap.size]? = some (.cells #[.int .u16 id, .bool rs, .int .i64 op, .bool aa, .bool tc, .bool rd, .bool ra, .bool ad, .bool cd, .int .i64 rc, .slice a1 n1 k1, .slice a2 n2 k2, .slice a3 n3 k3, .slice a4 n4 k4] 26) ∧ Below w.heap.size w W0) := by rw [hW0]; exact ⟨alloc_at _ _, (Below.refl _ _).alloc (Nat.le_refl _) _⟩
      have q0 : W0.cell? ⟨w.heap.size, 10, none⟩ = some (.slice a1 n1 k1) := cell_of_block HB0.out.1 rfl
      have q1 := block_lt HB0.out.1
      clear hW0
      go_loopw [3] (fun y wr => ∃ k : Nat, k ≤ n1 ∧ y = .int .i64 (k : Int) ∧ wr = W0 ∧ Hid (∀ j (h : j < qs.length), j < k → (qs[j]).nm.length ≤ 130)) (fun y _ => n1 - (intOf y).toNat)
      case atStart => exact ⟨0, by omega, rfl, rfl, fun j _ h => absurd h (by omega)⟩
      case round =>
        obtain ⟨k, hk, rfl, rfl, HK⟩ := hrel
        by_cases hlt : k < n1
        · have hlt' : (k : Int) < (n1 : Int) := by omega
          have hkq : k < qs.length := by rw [HLn.out]; exact hlt
          obtain ⟨b, o, e1, q2, x, r1, _, _, ok⟩ := (HQ.out.below HB0.out.2).at k hkq
          simp only at e1
          subst e1
          obtain ⟨⟨a, n, c⟩, t, l⟩ := x
          simp only at r1
          have HX : Hid ((qs[k]).nm.length = n) := ok.rd.len
          clear ok
          by_cases h130 : n ≤ 130
          · have h130' : ¬ (130 : Int) < (n : Int) := by omega
            go_wp2
            refine ⟨⟨k + 1, by omega, by go_num, trivial, ?_⟩, by simp [intOf]; omega⟩
            intro j h hj
            rcases Nat.lt_or_ge j k with h' | h'
            · exact HK.out j h h'
            · obtain rfl : j = k := by omega
              rw [HX.out]; exact h130
          · have h130' : (130 : Int) < (n : Int) := by omega
            go_wp2
            go_ret
            exact ⟨.inl rfl, HB0.out.2⟩
        · obtain rfl : k = n1 := by omega
          go_wp2
          go_ret
          refine ⟨.inr ⟨rfl, hn, HNN.out, ?_⟩, HB0.out.2⟩
          intro q hq
          obtain ⟨j, hj, rfl⟩ := List.getElem_of_mem hq
          exact HK.out j hj (by rw [HLn.out] at hj; exact hj)
    · have hs' : (9 : Int) < wrap64 (wrap64 ((n2 : Int) + (n3 : Int)) + (n4 : Int)) := by omega
      go_enter Try.func8, Try.ntmps8
      go_wp2
      go_ret
      exact ⟨.inl rfl, (Below.refl _ _).alloc (Nat.le_refl _) _⟩
  · have hn' : (20 : Int) < (n1 : Int) := by omega
    go_enter Try.func8, Try.ntmps8
    go_wp2
    go_ret
    exact ⟨.inl rfl, (Below.refl _ _).alloc (Nat.le_refl _) _⟩
end Go.Proofs.Ytmlccnpondemiaa
