/- Pieces laid one behind the other by the program; a number that any number picks. -/
import Derived.Test.YtglkjiebcmmglaaHex
namespace Go.Proofs.Ytglkjiebcmmglaa
open Go.ChangeShapes Go.WideShapes Go.ChangeAt Go.RowKit
set_option linter.unusedVariables false
set_option linter.unusedSimpArgs false

theorem ret_int {k : IntKind} {a b : Int} (h : a = b) : Ending.returned (.int k a) = .returned (.int k b) := by rw [h]
/-- Pieces that can be read: each an address, a capacity, its bytes; one behind the other in the block L. -/
abbrev Piece := Option Addr × Nat × List Int
def Pcs (w : World) (L : Nat) (ps : List Piece) : Prop :=
  L < w.heap.size ∧ ∀ k (h : k < ps.length), w.cell? ⟨L, k, none⟩ = some (.slice ps[k].1 ps[k].2.2.length ps[k].2.1) ∧ Rd w ps[k].1 ps[k].2.2 ∧ (ps[k].1 = none → ps[k].2.1 = 0)
theorem Pcs.below {w w' : World} {L : Nat} {ps : List Piece} (h : Pcs w L ps) (hb : Below w.heap.size w w') : Pcs w' L ps :=
  ⟨Nat.lt_of_lt_of_le h.1 hb.size, fun k hk => ⟨(hb.cell (p := ⟨L, k, none⟩) h.1).trans (h.2 k hk).1, (h.2 k hk).2.1.below hb, (h.2 k hk).2.2⟩⟩
/-- All the bytes of the first k pieces. -/
def jn (ps : List Piece) (k : Nat) : List Int := (ps.take k).flatMap (·.2.2)
theorem jn_succ (ps : List Piece) (k : Nat) (h : k < ps.length) : jn ps (k + 1) = jn ps k ++ ps[k].2.2 := by
  unfold jn; rw [List.take_succ_eq_append_getElem h, List.flatMap_append]; simp
theorem jn_le (ps : List Piece) (k : Nat) (h : k ≤ ps.length) : (jn ps k).length ≤ (jn ps ps.length).length := by
  unfold jn
  conv => rhs; rw [List.take_length, ← List.take_append_drop k ps, List.flatMap_append, List.length_append]
  omega

set_option maxHeartbeats 1000000 in
theorem join_any (L N C : Nat) (ps : List Piece) (w : World) (hN : ps.length = N) (hp : Pcs w L ps) (hNC : N ≤ C) (hNb : N ≤ 1000) (hs : (jn ps ps.length).length ≤ 140737488355328) :
    Calls Try.prog 20 #[.slice (some ⟨L, 0, none⟩) N C] w fun e w' => ∃ ao ys, e = .returned (.slice ao (jn ps ps.length).length ys.length) ∧ Hid (OwnA w.heap.size w' ao (jn ps ps.length).length ys ∧ ys.take (jn ps ps.length).length = jn ps ps.length ∧ Below w.heap.size w w') := by
  have HN : Hid (ps.length = N) := hN
  have HP : Hid (Pcs w L ps) := hp
  clear hN hp
  obtain ⟨T, hT⟩ : ∃ T, (jn ps ps.length).length = T := ⟨_, rfl⟩
  have HT : Hid ((jn ps ps.length).length = T) := hT
  have HLE : Hid (∀ k, k ≤ N → (jn ps k).length ≤ T) := fun k hk => by rw [← hT]; exact jn_le ps k (by rw [HN.out]; exact hk)
  rw [hT] at hs ⊢
  clear hT
  go_enter Try.func20, Try.ntmps20
  go_wp2_with fail
  go_loop [3, 11] (fun s x => ∃ k : Nat, k ≤ N ∧ x = .int .i64 k ∧ s = .int .i64 ((jn ps k).length : Nat)) (fun _ x => N - (intOf x).toNat)
  case atStart => exact ⟨0, Nat.zero_le _, rfl, rfl⟩
  case round =>
    obtain ⟨k, hk, rfl, rfl⟩ := hrel
    by_cases hlt : k < N
    · have hlt' : (k : Int) < (N : Int) := by omega
      have hke : k < ps.length := by rw [HN.out]; exact hlt
      have hcl := (HP.out.2 k hke).1
      have hj := jn_succ ps k hke
      have hl1 : (jn ps (k + 1)).length = (jn ps k).length + ps[k].2.2.length := by rw [hj, List.length_append]
      have hle := HLE.out (k + 1) (by omega)
      have HJ : Hid ((jn ps (k + 1)).length = (jn ps k).length + ps[k].2.2.length) := hl1
      have hsum : (jn ps k).length + ps[k].2.2.length ≤ T := by omega
      clear hj hl1 hle
      generalize ps[k].2.2.length = pl at *
      generalize (jn ps k).length = jl at *
      go_wp2
      go_round
      case rel => exact ⟨k + 1, by omega, by go_num, by rw [HJ.out]; go_num⟩
      case measure => simp [intOf]; omega
    · have ek : (jn ps k).length = T := by rw [← HT.out, HN.out, show k = N by omega]
      have hge : (N : Int) ≤ (k : Int) := by omega
      rw [ek]
      clear ek
      go_wp2_with (at_make; refine wpList_make_blk _ rfl _ _ rfl 0 T _ _ rfl rfl (by rfl) (by rfl) (by omega) (by omega) ?_)
      have HO : Hid (Own w.heap.size (w.alloc (.cells (Array.replicate T (Value.int .u8 0)) 5)) (.slice (some ⟨w.heap.size, 0, none⟩) 0 T) 0 (List.replicate T 0) ∧ Below w.heap.size w (w.alloc (.cells (Array.replicate T (Value.int .u8 0)) 5))) := by
        refine ⟨.inr ⟨w.heap.size, by simp, Nat.le_refl _, ⟨by rw [heap_alloc_new]; simp, fun z hz => ?_⟩, Nat.zero_le _, by simp only [List.length_replicate, maxLen]; omega⟩, (Below.refl _ _).alloc (Nat.le_refl _) _⟩
        rw [(List.mem_replicate.1 hz).2]; omega
      go_loopw [6, 24] (fun v x wr => ∃ m : Nat, m ≤ N ∧ x = .int .i64 m ∧ Hid (∃ ys, Own w.heap.size wr v (jn ps m).length ys ∧ ys.take (jn ps m).length = jn ps m) ∧ Hid (Below w.heap.size w wr)) (fun _ x _ => N - (intOf x).toNat)
      case atStart => exact ⟨0, Nat.zero_le _, rfl, ⟨_, HO.out.1, rfl⟩, HO.out.2⟩
      case round =>
        obtain ⟨m, hm, rfl, HW, HB⟩ := hrel
        clear HO
        by_cases hml : m < N
        · have hml' : (m : Int) < (N : Int) := by omega
          have hme : m < ps.length := by rw [HN.out]; exact hml
          have HPw : Hid (Pcs wr L ps) := HP.out.below HB.out
          have hcl := (HPw.out.2 m hme).1
          obtain ⟨ys, hO, hT⟩ := HW.out
          have HQ : Hid (Own w.heap.size wr u6 (jn ps m).length ys ∧ ys.take (jn ps m).length = jn ps m ∧ jn ps (m + 1) = jn ps m ++ ps[m].2.2 ∧ (jn ps (m + 1)).length ≤ T) := ⟨hO, hT, jn_succ ps m hme, HLE.out (m + 1) (by omega)⟩
          have HR : Hid (Rd wr ps[m].1 ps[m].2.2 ∧ (ps[m].1 = none → ps[m].2.1 = 0)) := (HPw.out.2 m hme).2
          clear hO hT
          have hsum : (jn ps m).length + ps[m].2.2.length ≤ T := by have h1 := HQ.out.2.2.1; have h2 := HQ.out.2.2.2; rw [h1, List.length_append] at h2; exact h2
          go_wp2_with (at_builtin; refine wpList_append_blk _ rfl _ _ rfl w.heap.size _ (jn ps m).length ys rfl HQ.out.1 ps[m].1 ps[m].2.2.length ps[m].2.1 ps[m].2.2 rfl HR.out.1 rfl HR.out.2 (by omega) HB.out.size ?_; intro v' w' ys' hO' hT' hG')
          have hrow := HQ.out.1.lt
          refine ⟨⟨m + 1, by omega, by go_num, ⟨ys', ?_, ?_⟩, ?_⟩, by simp [intOf]; omega⟩
          · rw [HQ.out.2.2.1, List.length_append]; exact hO'.out
          · rw [HQ.out.2.2.1, List.length_append, hT'.out, HQ.out.2.1]
          · exact HB.out.grown hG' HB.out.size hrow
        · obtain ⟨ys, hO, hT⟩ := HW.out
          have em : jn ps m = jn ps ps.length := by rw [HN.out, show m = N by omega]
          rw [em, HT.out] at hO hT
          obtain ⟨ao, rfl, hoa⟩ := hO.addr
          have hge2 : (N : Int) ≤ (m : Int) := by omega
          have HF : Hid (OwnA w.heap.size wr ao T ys ∧ ys.take T = jn ps ps.length) := ⟨hoa, hT⟩
          clear hO hT hoa em
          generalize hy : ys.length = yl
          have HY : Hid (ys.length = yl) := hy
          clear hy
          go_wp2
          go_ret
          exact ⟨ao, ys, by rw [HY.out]; rfl, HF.out.1, HF.out.2, HB.out⟩

set_option maxHeartbeats 400000 in
theorem pick_any (x n : Int) (w : World) (hn : 1 ≤ n ∧ n ≤ 4611686018427387904) :
    Calls Try.prog 38 #[.int .i64 x, .int .i64 n] w fun e w' => (∃ r : Nat, (r : Int) < n ∧ e = .returned (.int .i64 r)) ∧ w' = w := by
  have h1 : ¬ n < 1 := by omega
  have hn0 : ¬ n = 0 := by omega
  have l1 : x.tmod n < n := Int.tmod_lt_of_pos x (by omega)
  have l2 : -n < x.tmod n := by
    have := Int.tmod_lt_of_pos (-x) (show 0 < n by omega)
    rw [Int.neg_tmod] at this
    omega
  by_cases h0 : x.tmod n < 0
  · go_enter Try.func38, Try.ntmps38
    go_wp2
    go_ret
    exact ⟨⟨(x.tmod n + n).toNat, by omega, ret_int (by omega)⟩, rfl⟩
  · go_enter Try.func38, Try.ntmps38
    go_wp2
    go_ret
    exact ⟨⟨(x.tmod n).toNat, by omega, ret_int (by omega)⟩, rfl⟩
end Go.Proofs.Ytglkjiebcmmglaa
