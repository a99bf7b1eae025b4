/- The program's names: joined. -/
import Derived.Test.YtkbpjaojgkpffaaNxa
import Derived.Lib.AppendZerosOnto
namespace Go.Proofs.Ytkbpjaojgkpffaa
open Go.ChangeShapes Go.WideShapes Go.ChangeAt Go.RowKit
set_option linter.unusedVariables false
set_option linter.unusedSimpArgs false

def GrowPost (w : World) (e : Ending) (w' : World) : Prop := ∃ v ys, e = .returned v ∧ Hid (OwnT w.heap.size w' v 0 ys 1000000000000 ∧ Below w.heap.size w w')
set_option maxRecDepth 100000 in
set_option maxHeartbeats 1000000 in
theorem grow_any (N : Nat) (w : World) (hN : N ≤ 8796093022000) : Calls Try.prog 84 #[.slice none 0 0, .int .i64 N] w (GrowPost w) := by
  by_cases h0 : N = 0
  · subst h0
    go_enter Try.func84, Try.ntmps84
    go_wp2
    go_ret
    exact ⟨_, [], rfl, OwnT.nil _ _ _, Below.refl _ _⟩
  · obtain ⟨i, hi, hz0, hz1, hz2⟩ := info_parts tyN.hi
    have hr : ∀ ty, (Builtin.append_ #[23, 3] ty #[.slice none 0 0, .int .i64 N]).run Try.prog w = .ok (.slice (some ⟨w.heap.size, 0, none⟩) N (grownCap w N 0 9)) (w.drew.alloc (.cells (tv (List.replicate (grownCap w N 0 9) ⟨#[]⟩)).toArray 9)) := by
      intro ty
      have hge := grownCap_ge w N 0 9
      have h := Lib.run_append_grow_zeros w 23 3 ty 9 i (.string ⟨#[]⟩) .i64 .i64 Try.underlying23 (by kernel_rfl) hi hz0 none 0 0 [] (run_firstCells_none w.drew i.size 0 0 0) N (by omega) (by omega) (by omega) (by omega) (by rw [hz2]; omega) (growslice_fits (by omega) (by rw [hz2]; omega))
      simp only [Nat.zero_add] at h
      rw [h, zeros_eq1 _ tyN.hz, zeros_eq1 _ tyN.hz]
      have e : (([] : List Value).toArray ++ (List.replicate N (Value.string ⟨#[]⟩)).toArray ++ (List.replicate (grownCap w N 0 9 - N) (Value.string ⟨#[]⟩)).toArray) = (tv (List.replicate (grownCap w N 0 9) ⟨#[]⟩)).toArray := by
        simp only [tv, List.map_replicate, List.append_toArray, List.nil_append, List.replicate_append_replicate]
        congr 2
        omega
      rw [e]
    have hG1 := grownCap_ge w N 0 9
    have hG2 := grownCap_le_maxLen w N 0 9 (by unfold maxLen; omega)
    generalize grownCap w N 0 9 = G at *
    have HP : Hid (OwnT w.heap.size (w.drew.alloc (.cells (tv (List.replicate G ⟨#[]⟩)).toArray 9)) (.slice (some ⟨w.heap.size, 0, none⟩) 0 G) 0 (List.replicate G ⟨#[]⟩) 1000000000000 ∧ Below w.heap.size w (w.drew.alloc (.cells (tv (List.replicate G ⟨#[]⟩)).toArray 9))) := by
      refine ⟨⟨.inr ⟨w.heap.size, by simp [tv], Nat.le_refl _, heap_alloc_new w.drew _, Nat.zero_le _, by simpa [tv] using hG2⟩, ?_⟩, (Below.refl _ _).drew.alloc (Nat.le_refl _) _⟩
      intro s hs
      rw [List.eq_of_mem_replicate hs]
      exact Nat.zero_le _
    unfold maxLen at hG2
    have hn : ¬ (N : Int) < 0 := by omega
    have hp : (0 : Int) < (N : Int) := by omega
    generalize w.drew.alloc (.cells (tv (List.replicate G ⟨#[]⟩)).toArray 9) = W2 at *
    clear hi hz0 hz1 hz2
    have HR : Hid (∀ ty, (Builtin.append_ #[23, 3] ty #[.slice none 0 0, .int .i64 N]).run Try.prog w = .ok (.slice (some ⟨w.heap.size, 0, none⟩) N G) W2) := hr
    clear hr
    go_enter Try.func84, Try.ntmps84
    go_wp2_with (at_builtin; refine Lib.wpList_append_run _ rfl _ _ _ _ rfl _ _ rfl rfl _ _ (HR.out _) ?_)
    go_ret
    exact ⟨_, _, rfl, HP⟩

set_option maxRecDepth 100000 in
set_option maxHeartbeats 2000000 in
theorem concat_any (g : Nat) (a b : Option Addr) (n m c d : Nat) (ss ts : List ByteArray) (w : World) (hg : g < w.heap.size) (c0 : w.cell? ⟨g, 0, none⟩ = some (.slice a n c)) (c1 : w.cell? ⟨g, 1, none⟩ = some (.slice b m d)) (h : Nm w a n ss) (h' : Nm w b m ts) :
    Calls Try.prog 63 #[.slice (some ⟨g, 0, none⟩) 2 2] w (CopyPost (ss ++ ts) 1000000000000 w) := by
  have HN : Hid (Nm w a n ss ∧ Nm w b m ts) := ⟨h, h'⟩
  have HL : Hid (ss.length = n ∧ ts.length = m) := ⟨h.len, h'.len⟩
  have hn := h.n63
  have hm := h'.n63
  clear h h'
  go_enter Try.func63, Try.ntmps63
  go_wp2_with fail
  go_loopw [3, 11] (fun z x wr => ∃ k q : Nat, z = .int .i64 q ∧ x = .int .i64 k ∧ wr = w ∧ Hid ((k = 0 ∧ q = 0) ∨ (k = 1 ∧ q = n) ∨ (k = 2 ∧ q = n + m))) (fun _ x _ => 2 - (intOf x).toNat)
  case atStart => exact ⟨0, 0, rfl, rfl, rfl, .inl ⟨rfl, rfl⟩⟩
  case round =>
    obtain ⟨k, q, rfl, rfl, rfl, HK⟩ := hrel
    rcases HK.out with ⟨rfl, rfl⟩ | ⟨rfl, rfl⟩ | ⟨rfl, rfl⟩
    · clear HK
      have hq : ¬ (n : Int) < 0 := by omega
      go_wp2
      exact ⟨⟨1, n, by go_num, rfl, trivial, .inr (.inl ⟨rfl, rfl⟩)⟩, by simp [intOf]⟩
    · clear HK
      have hq : ¬ ((q : Int) + (m : Int)) < 0 := by omega
      go_wp2
      exact ⟨⟨2, q + m, by go_num, rfl, trivial, .inr (.inr ⟨rfl, rfl⟩)⟩, by simp [intOf]⟩
    · clear HK
      go_wp2_with fail
      refine (grow_any (n + m) wr (by omega)).mono ?_
      rintro e w1 ⟨v, ys, rfl, H1⟩
      have c0' := (H1.out.2.cell (p := ⟨g, 0, none⟩) hg).trans c0
      have c1' := (H1.out.2.cell (p := ⟨g, 1, none⟩) hg).trans c1
      obtain ⟨wz, hwz⟩ : ∃ x, x = wr := ⟨_, rfl⟩
      subst hwz
      have HC : Hid (w1.cell? ⟨g, 0, none⟩ = some (.slice a n c) ∧ w1.cell? ⟨g, 1, none⟩ = some (.slice b m d) ∧ g < w1.heap.size) := ⟨c0', c1', Nat.lt_of_lt_of_le hg H1.out.2.size⟩
      clear c0 c1 c0' c1'
      go_wp2_with fail
      go_loopw [6, 27] (fun v x wr => ∃ (k : Nat), x = .int .i64 k ∧ Hid ((k = 0 ∧ ∃ ys, OwnT wz.heap.size wr v 0 ys 1000000000000 ∧ ys.take 0 = []) ∨ (k = 1 ∧ ∃ ys, OwnT wz.heap.size wr v n ys 1000000000000 ∧ ys.take n = ss) ∨ (k = 2 ∧ ∃ ys, OwnT wz.heap.size wr v (n + m) ys 1000000000000 ∧ ys.take (n + m) = ss ++ ts)) ∧ Hid (Below wz.heap.size wz wr ∧ wr.cell? ⟨g, 0, none⟩ = some (.slice a n c) ∧ wr.cell? ⟨g, 1, none⟩ = some (.slice b m d))) (fun _ x _ => 2 - (intOf x).toNat)
      case atStart => exact ⟨0, rfl, .inl ⟨rfl, ys, H1.out.1, rfl⟩, H1.out.2, HC.out.1, HC.out.2.1⟩
      case round =>
        clear H1 HC
        obtain ⟨k, rfl, HK, HB⟩ := hrel
        have c0 := HB.out.2.1
        have c1 := HB.out.2.2
        rcases HK.out with ⟨rfl, zs, h1, h2⟩ | ⟨rfl, zs, h1, h2⟩ | ⟨rfl, zs, h1, h2⟩
        · have HO : Hid (OwnT wz.heap.size wr u6 0 zs 1000000000000 ∧ zs.take 0 = [] ∧ RdT wr a ss ∧ ∀ s ∈ ss, s.size ≤ 1000000000000) := ⟨h1, h2, HN.out.1.rd.below HB.out.1, HN.out.1.mem⟩
          have HC : Hid (wr.cell? ⟨g, 0, none⟩ = some (.slice a n c) ∧ wr.cell? ⟨g, 1, none⟩ = some (.slice b m d)) := ⟨c0, c1⟩
          clear HK h1 h2 c1
          go_wp2_with (at_builtin; refine wpList_append_T tyN _ rfl _ _ 23 9 Try.underlying23 rfl wz.heap.size _ 0 zs 1000000000000 rfl HO.out.1 a n c ss rfl HO.out.2.2.1 HL.out.1 HO.out.2.2.2 (by omega) HB.out.1.size ?_; intro v' w' ys' hO' hT' hG')
          have hne : ∀ j, u6.ownBlock = some j → wz.heap.size ≤ j := HO.out.1.1.lt
          refine ⟨⟨1, by go_num, .inr (.inl ⟨rfl, ys', by simpa using hO'.out, by simpa using hT'.out⟩), HB.out.1.grown hG' HB.out.1.size hne, ?_, ?_⟩, by simp [intOf]⟩
          · exact (World.cell?_of_block (hG'.block g (Nat.lt_of_lt_of_le hg HB.out.1.size) (fun e => by have := hne g e.symm; omega))).trans HC.out.1
          · exact (World.cell?_of_block (hG'.block g (Nat.lt_of_lt_of_le hg HB.out.1.size) (fun e => by have := hne g e.symm; omega))).trans HC.out.2
        · have HO : Hid (OwnT wz.heap.size wr u6 n zs 1000000000000 ∧ zs.take n = ss ∧ RdT wr b ts ∧ ∀ s ∈ ts, s.size ≤ 1000000000000) := ⟨h1, h2, HN.out.2.rd.below HB.out.1, HN.out.2.mem⟩
          have HC : Hid (wr.cell? ⟨g, 0, none⟩ = some (.slice a n c) ∧ wr.cell? ⟨g, 1, none⟩ = some (.slice b m d)) := ⟨c0, c1⟩
          clear HK h1 h2 c0
          go_wp2_with (at_builtin; refine wpList_append_T tyN _ rfl _ _ 23 9 Try.underlying23 rfl wz.heap.size _ n zs 1000000000000 rfl HO.out.1 b m d ts rfl HO.out.2.2.1 HL.out.2 HO.out.2.2.2 (by omega) HB.out.1.size ?_; intro v' w' ys' hO' hT' hG')
          have hne : ∀ j, u6.ownBlock = some j → wz.heap.size ≤ j := HO.out.1.1.lt
          refine ⟨⟨2, by go_num, .inr (.inr ⟨rfl, ys', hO'.out, by rw [hT'.out, HO.out.2.1]⟩), HB.out.1.grown hG' HB.out.1.size hne, ?_, ?_⟩, by simp [intOf]⟩
          · exact (World.cell?_of_block (hG'.block g (Nat.lt_of_lt_of_le hg HB.out.1.size) (fun e => by have := hne g e.symm; omega))).trans HC.out.1
          · exact (World.cell?_of_block (hG'.block g (Nat.lt_of_lt_of_le hg HB.out.1.size) (fun e => by have := hne g e.symm; omega))).trans HC.out.2
        · have HF : Hid (OwnT wz.heap.size wr u6 (ss ++ ts).length zs 1000000000000 ∧ zs.take (ss ++ ts).length = ss ++ ts ∧ Below wz.heap.size wz wr) := by
            rw [List.length_append, HL.out.1, HL.out.2]
            exact ⟨h1, h2, HB.out.1⟩
          clear HK h1 h2 c0 c1
          go_wp2
          go_ret
          exact ⟨_, zs, rfl, HF⟩
end Go.Proofs.Ytkbpjaojgkpffaa
