/- The program's names: fold. -/
import Derived.Test.YtkbpjaojgkpffaaNxa
namespace Go.Proofs.Ytkbpjaojgkpffaa
open Go.ChangeShapes Go.WideShapes Go.ChangeAt Go.RowKit
set_option linter.unusedVariables false
set_option linter.unusedSimpArgs false

/-- The first k of the first n labels are folded. -/
def FoldSt (B : Nat) (w : World) (ao : Option Addr) (n c k : Nat) (ss : List ByteArray) : Prop :=
  ∃ zs, OwnT B w (.slice ao n c) n zs 1000000000000 ∧ zs.take n = (ss.take k).map fb ++ ss.drop k
theorem FoldSt.at {B : Nat} {w : World} {ao : Option Addr} {n c k : Nat} {ss : List ByteArray} (h : FoldSt B w ao n c k ss) (hl : ss.length = n) (hk : k < ss.length) : ∃ g, ao = some ⟨g, 0, none⟩ ∧ B ≤ g ∧ g < w.heap.size ∧ w.cell? ⟨g, k, none⟩ = some (.string ss[k]) ∧ w.frozen? ⟨g, k, none⟩ = false := by
  obtain ⟨zs, ⟨ho, hM⟩, ht⟩ := h
  rcases ho with ⟨h1, h2, h3⟩ | ⟨g, h1, h2, h3, h4, h5⟩
  · omega
  · have e : ao = some ⟨g, 0, none⟩ := by injection h1
    rw [tv_len] at h4
    have hz : k < zs.length := by omega
    refine ⟨g, e, h2, h3.lt, ?_, h3.frozen k⟩
    rw [h3.cell k (by rw [tv_len]; exact hz), tv_at]
    have : zs[k] = ss[k] := by
      have := congrArg (fun l => l[k]?) ht
      rw [List.getElem?_take, if_pos (by omega), List.getElem?_append_right (by simp; omega), List.getElem?_drop] at this
      simp only [List.length_map, List.length_take, show min k ss.length = k by omega, Nat.sub_self, Nat.add_zero] at this
      rw [List.getElem?_eq_getElem hz, List.getElem?_eq_getElem hk] at this
      exact Option.some.inj this
    rw [this]
theorem FoldSt.below {B : Nat} {w w' : World} {ao : Option Addr} {n c k : Nat} {ss : List ByteArray} (h : FoldSt B w ao n c k ss) (hb : Below w.heap.size w w') : FoldSt B w' ao n c k ss := by
  obtain ⟨zs, h1, h2⟩ := h
  exact ⟨zs, h1.below hb, h2⟩
theorem FoldSt.set {B : Nat} {w : World} {g n c k : Nat} {ss : List ByteArray} (h : FoldSt B w (some ⟨g, 0, none⟩) n c k ss) (hl : ss.length = n) (hk : k < ss.length) (hs : (fb ss[k]).size ≤ 1000000000000) : FoldSt B (w.setCell ⟨g, k, none⟩ (.string (fb ss[k]))) (some ⟨g, 0, none⟩) n c (k + 1) ss := by
  obtain ⟨zs, ⟨ho, hM⟩, ht⟩ := h
  rcases ho with ⟨h1, h2, h3⟩ | ⟨g', h1, h2, h3, h4, h5⟩
  · omega
  · have e : g = g' ∧ c = (tv zs).length := by
      injection h1 with h1 _ hcc
      injection h1 with h1
      injection h1 with h1
      exact ⟨h1, hcc⟩
    obtain ⟨rfl, hc⟩ := e
    rw [tv_len] at h4 hc
    have hz : k < zs.length := by omega
    refine ⟨zs.set k (fb ss[k]), ⟨.inr ⟨g, ?_, h2, ?_, ?_, ?_⟩, ?_⟩, ?_⟩
    · rw [tv_len, List.length_set, hc]
    · have := h3.stored k (.string (fb ss[k]))
      have e : (tv zs).set k (.string (fb ss[k])) = tv (zs.set k (fb ss[k])) := by simp [tv, List.map_set]
      rw [e] at this
      exact this
    · rw [tv_len, List.length_set]; exact h4
    · rw [tv_len, List.length_set]; rw [tv_len] at h5; exact h5
    · intro s hs'
      rcases List.mem_or_eq_of_mem_set hs' with h | h
      · exact hM s h
      · rw [h]; exact hs
    · rw [List.take_set, ht, take_snocT ss k hk, List.map_append, List.map_singleton, List.drop_eq_getElem_cons hk, List.set_append_right _ _ (by simp; omega)]
      simp only [List.length_map, List.length_take, show min k ss.length = k by omega, Nat.sub_self, List.set_cons_zero, List.append_assoc, List.singleton_append]

set_option maxRecDepth 100000 in
set_option maxHeartbeats 1000000 in
theorem pfold_any (a : Option Addr) (n c : Nat) (ss : List ByteArray) (w : World) (h : Nm w a n ss) : Calls Try.prog 31 #[.slice a n c] w (CopyPost (ss.map fb) 1000000000000 w) := by
  have HN : Hid (Nm w a n ss) := h
  have hn := h.n63
  have HL : Hid (ss.length = n) := h.len
  clear h
  go_enter Try.func31, Try.ntmps31
  go_wp2_with fail
  refine (pm_copy _ HN.out).mono ?_
  rintro e w1 ⟨v, ys, rfl, H1⟩
  obtain ⟨ao, hv, hao⟩ := H1.out.1.shape
  rw [HL.out] at hv
  generalize hC : ys.length = C at *
  have HS : Hid (FoldSt w.heap.size w1 ao n C 0 ss ∧ Below w.heap.size w w1) := by
    have := H1.out
    rw [HL.out, hv] at this
    exact ⟨⟨ys, this.1, by simpa using this.2.1⟩, this.2.2⟩
  subst hv
  clear H1 hao hC
  go_wp2_with fail
  go_loopw [10] (fun x wr => ∃ k : Nat, k ≤ n ∧ x = .int .i64 k ∧ Hid (FoldSt w.heap.size wr ao n C k ss ∧ Below w.heap.size w wr)) (fun x _ => n - (intOf x).toNat)
  case atStart => exact ⟨0, Nat.zero_le _, rfl, HS⟩
  case round =>
    obtain ⟨k, hk, rfl, HW⟩ := hrel
    clear HS
    by_cases hlt : k < n
    · have hlt' : (k : Int) < (n : Int) := by omega
      have hks : k < ss.length := by rw [HL.out]; exact hlt
      obtain ⟨g, rfl, hg0, hg1, hcell, hfr⟩ := HW.out.1.at HL.out hks
      have hsz := HN.out.mem _ (List.getElem_mem hks)
      have KF : Hid (∀ W, Calls Try.prog 64 #[.string ss[k]] W fun e w' => e = .returned (.string (fb ss[k])) ∧ Hid (Below W.heap.size W w')) := fun W => fold_any ss[k] W (by omega)
      have HT : Hid (∀ W, FoldSt w.heap.size W (some ⟨g, 0, none⟩) n C k ss → FoldSt w.heap.size (W.setCell ⟨g, k, none⟩ (.string (fb ss[k]))) (some ⟨g, 0, none⟩) n C (k + 1) ss) := fun W hW => hW.set HL.out hks (by rw [fb_size]; exact hsz)
      generalize fb ss[k] = f at *
      generalize ss[k] = s at *
      go_wp2_with fail
      refine (KF.out _).mono ?_
      rintro e w2 ⟨rfl, H2⟩
      have hcell2 := (H2.out.cell (p := ⟨g, k, none⟩) hg1).trans hcell
      have HW2 : Hid (FoldSt w.heap.size w2 (some ⟨g, 0, none⟩) n C k ss ∧ Below w.heap.size w w2) := ⟨HW.out.1.below H2.out, HW.out.2.trans (H2.out.mono HW.out.2.size)⟩
      have hfr2 : w2.frozen? ⟨g, k, none⟩ = false := by
        obtain ⟨zs, ⟨ho, _⟩, _⟩ := HW2.out.1
        rcases ho with ⟨h1, _, _⟩ | ⟨g', h1, _, h3, _⟩
        · cases h1
        · have e : g = g' := by injection h1 with h1 h1'; injection h1 with h1; injection h1
          subst e
          exact h3.frozen k
      clear hcell hfr H2 KF HW
      go_wp2
      exact ⟨⟨k + 1, by omega, by go_num, HT.out _ HW2.out.1, HW2.out.2.setCell (p := ⟨g, k, none⟩) hg0 _⟩, by simp [intOf]; omega⟩
    · have hge : (n : Int) ≤ (k : Int) := by omega
      obtain ⟨zs, hO, hT⟩ := HW.out.1
      have ek : (ss.take k).map fb ++ ss.drop k = ss.map fb := by
        rw [List.take_of_length_le (by rw [HL.out]; omega), List.drop_eq_nil_of_le (by rw [HL.out]; omega), List.append_nil]
      rw [ek] at hT
      have hkn : n = (ss.map fb).length := by rw [List.length_map, HL.out]
      have HF : Hid (OwnT w.heap.size wr (.slice ao n C) (ss.map fb).length zs 1000000000000 ∧ zs.take (ss.map fb).length = ss.map fb ∧ Below w.heap.size w wr) := by
        rw [← hkn]; exact ⟨hO, hT, HW.out.2⟩
      clear hO hT ek hkn HW
      go_wp2
      go_ret
      exact ⟨_, zs, rfl, HF⟩
end Go.Proofs.Ytkbpjaojgkpffaa
