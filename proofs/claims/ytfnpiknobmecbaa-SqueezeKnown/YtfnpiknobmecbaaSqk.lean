/- A writer's New and Bytes. -/
import Derived.Test.YtfnpiknobmecbaaSqj
import Derived.RangeFuncNested
import Derived.RangeFuncBox
namespace Go.Proofs.Ytfnpiknobmecbaa
open Go.ChangeShapes Go.WideShapes Go.ChangeAt Go.RowKit Go.Maps
set_option linter.unusedVariables false
set_option linter.unusedSimpArgs false

theorem grown_set (W : World) (b k : Nat) (v : Value) : W.grownBy (W.setCell ⟨b, k, none⟩ v) (some b) :=
  ⟨rfl, rfl, rfl, by simp, fun j hj hne => Below.heap_setCell _ _ _ j (fun e => hne (by rw [e]))⟩
theorem Own.blk5 {B : Nat} {w : World} {v : Value} {n : Nat} {zs : List Int} (h : Own B w v n zs) : ∀ g, v.ownBlock = some g → B ≤ g ∧ ∃ cs, w.heap[g]? = some (.cells cs 5 (0, 0)) := by
  intro g hg
  rcases h with ⟨rfl, _⟩ | ⟨g', rfl, h2, h3, _⟩
  · cases hg
  · obtain rfl : g' = g := Option.some.inj hg
    exact ⟨h2, h3.type⟩
theorem Wr1.old {B : Nat} {w w1 : World} {g : Nat} {tx : List Int} {pl : List (ByteArray × Nat)} {v : Value} {ys : List Int} {mb : Nat} (h : Wr1 B w g tx pl v ys mb) (hG : w.grownBy w1 v.ownBlock) :
    w1.heap[g]? = some (.cells #[.pointer (some ⟨g, 0, none⟩), v, .map (some mb)] 50) ∧ PlM w1 mb pl := by
  constructor
  · refine (hG.block g (box_lt h.box) (fun e => ?_)).trans h.box
    obtain ⟨_, cs, e1⟩ := h.own.blk5 g e.symm
    rw [h.box] at e1; cases e1
  · obtain ⟨es, c, e4⟩ := h.map.isMap
    refine h.map.same (hG.block mb (box_lt e4) (fun e => ?_))
    obtain ⟨_, cs, e1⟩ := h.own.blk5 mb e.symm
    rw [e4] at e1; cases e1
theorem Wr1.stored {B : Nat} {w w1 : World} {g : Nat} {tx tx' : List Int} {pl : List (ByteArray × Nat)} {v v' : Value} {ys ys' : List Int} {mb : Nat} (h : Wr1 B w g tx pl v ys mb) (hG : w.grownBy w1 v.ownBlock) (hO : Own B w1 v' tx'.length ys') (ht : ys'.take tx'.length = tx') (hB : B ≤ w.heap.size) :
    Wr1 B (w1.setCell ⟨g, 1, none⟩ v') g tx' pl v' ys' mb ∧ Fr B w (w1.setCell ⟨g, 1, none⟩ v') := by
  obtain ⟨hb, hm⟩ := h.old hG
  have hg : w1.grownBy (w1.setCell ⟨g, 1, none⟩ v') (some g) := grown_set w1 g 1 v'
  have hne : ∀ k, v'.ownBlock = some k → k ≠ g := by
    rintro k hk rfl
    obtain ⟨_, cs, e1⟩ := hO.blk5 k hk
    rw [hb] at e1; cases e1
  obtain ⟨es, c, e4⟩ := hm.isMap
  have hmg : mb ≠ g := by rintro rfl; rw [hb] at e4; cases e4
  refine ⟨⟨?_, h.gB, h.mB, ?_, ht, ?_⟩, ?_, ?_⟩
  · have := box_set hb 1 v'
    rw [this]; rfl
  · refine hO.keepAt (fun k hk hl => hg.block k hl (fun e => ?_))
    simp only [Option.some.injEq] at e
    exact hne k hk e
  · refine hm.same (hg.block mb (box_lt e4) (fun e => ?_))
    simp only [Option.some.injEq] at e
    exact hmg e
  · have b1 : Below B w w1 := (Below.refl B w).grown hG hB (fun k e => (h.own.blk5 k e).1)
    exact b1.setCell h.gB _
  · intro j cs t fr hj h5 h50
    have hj1 : w1.heap[j]? = w.heap[j]? := hG.block j (box_lt hj) (fun e => by
      obtain ⟨_, cs', e1⟩ := h.own.blk5 j e.symm
      rw [hj] at e1; cases e1; exact h5 rfl)
    have hj2 : (w1.setCell ⟨g, 1, none⟩ v').heap[j]? = w1.heap[j]? := hg.block j (box_lt (hj1.trans hj)) (fun e => by
      simp only [Option.some.injEq] at e
      subst e
      rw [h.box] at hj; cases hj; exact h50 rfl)
    exact hj2.trans hj1
set_option maxRecDepth 100000 in
set_option maxHeartbeats 1000000 in
theorem new_any (w : World) : Calls Try.prog 10 #[] w fun e w' => e = .returned (.pointer (some ⟨w.heap.size + 1, 0, none⟩)) ∧ Hid (Wr w.heap.size w' (w.heap.size + 1) [] [] ∧ Below w.heap.size w w') := by
  have hmm := @run_makeMap Try.prog
  go_enter Try.func10, Try.ntmps10
  go_wp2
  go_ret
  refine ⟨rfl, ?_⟩
  have hb0 : ((w.alloc (.map #[] 0)).alloc (.cells #[.pointer (some ⟨w.heap.size + 1, 0, none⟩), .slice none 0 0, .map (some w.heap.size)] 50)).heap[w.heap.size + 1]? = some (.cells #[.pointer (some ⟨w.heap.size + 1, 0, none⟩), .slice none 0 0, .map (some w.heap.size)] 50) := by
    have := World.alloc_heap_new (w.alloc (.map #[] 0)) (.cells #[.pointer (some ⟨w.heap.size + 1, 0, none⟩), .slice none 0 0, .map (some w.heap.size)] 50)
    simpa using this
  have hm0 : PlM ((w.alloc (.map #[] 0)).alloc (.cells #[.pointer (some ⟨w.heap.size + 1, 0, none⟩), .slice none 0 0, .map (some w.heap.size)] 50)) w.heap.size [] := (PlM.made w).same (Below.heap_alloc _ _ _ (by simp))
  exact ⟨⟨.slice none 0 0, [], w.heap.size, hb0, by omega, Nat.le_refl _, .inl ⟨rfl, rfl, rfl⟩, rfl, hm0⟩, ((Below.refl _ w).alloc (Nat.le_refl _) _).alloc (by simp) _⟩
set_option maxRecDepth 100000 in
set_option maxHeartbeats 1000000 in
theorem wbytes_any (B g : Nat) (tx : List Int) (pl : List (ByteArray × Nat)) (a : Option Addr) (m c : Nat) (zs : List Int) (w : World) (h : Wr B w g tx pl) (hB : B ≤ w.heap.size) (ht : tx.length ≤ 65535) (hr : Rd w a zs) (hl : zs.length = m) (hc : a = none → c = 0) (hm : m ≤ 140737488355328) :
    Calls Try.prog 23 #[.pointer (some ⟨g, 0, none⟩), .slice a m c] w fun e w' => e = .returned (.int .i64 (if 65535 < tx.length + m then 3 else 0)) ∧ Hid (Wr B w' g (if 65535 < tx.length + m then tx else tx ++ zs) pl ∧ Fr B w w') := by
  obtain ⟨v, ys, mb, h⟩ := h
  have hg := box_lt h.box
  have c0 : w.cell? ⟨g, 0, none⟩ = some (.pointer (some ⟨g, 0, none⟩)) := box_cell h.box 0 _ rfl
  have c1 : w.cell? ⟨g, 1, none⟩ = some v := box_cell h.box 1 _ rfl
  have f1 := box_frozen h.box 1
  have H : Hid (Wr1 B w g tx pl v ys mb) := h
  have HR : Hid (Rd w a zs) := hr
  have HL : Hid (zs.length = m) := hl
  obtain ⟨ao, hv, _⟩ := h.own.addr
  obtain ⟨n, hn⟩ : ∃ n, tx.length = n := ⟨_, rfl⟩
  have HN : Hid (tx.length = n) := hn
  rw [hn] at hv ht ⊢
  have KM := Lib.hid (made_yes g w c0 hg)
  have HO : Hid (Own B w v n ys) := by have := h.own; rw [hn] at this; exact this
  subst hv
  clear h hr hl hn
  by_cases hbig : 65535 < n + m
  · rw [if_pos hbig, if_pos hbig]
    have hbig' : 65535 - (n : Int) < (m : Int) := by omega
    go_enter Try.func23, Try.ntmps23
    go_wp2_with fail
    refine KM.out.mono ?_
    rintro e w1 ⟨rfl, rfl⟩
    go_wp2_with fail
    go_ret
    exact ⟨rfl, ⟨_, _, _, H.out⟩, Fr.refl _ _⟩
  · rw [if_neg hbig, if_neg hbig]
    have hbig' : (m : Int) ≤ 65535 - (n : Int) := by omega
    go_enter Try.func23, Try.ntmps23
    go_wp2_with fail
    refine KM.out.mono ?_
    rintro e w1 ⟨rfl, rfl⟩
    go_wp2_with (at_builtin; refine wpList_append_blk _ rfl _ _ rfl B _ n ys rfl HO.out a m c zs rfl HR.out HL.out hc (by omega) hB ?_; intro v' w2 ys' hO' hT' hG'; have HST := Lib.hid (H.out.stored hG' (tx' := tx ++ zs) (v' := v') (ys' := ys') (by rw [List.length_append, HN.out, HL.out]; exact hO'.out) (by rw [List.length_append, HN.out, HL.out, hT'.out]; have := H.out.txt; rw [HN.out] at this; rw [this]) hB); have hob := H.out.old hG'; have hg2 := box_lt hob.1; have d1 : w2.cell? ⟨g, 1, none⟩ = some (.slice ao n ys.length) := box_cell hob.1 1 _ rfl; have e1 := box_frozen hob.1 1; obtain ⟨ao', rfl, _⟩ := hO'.out.addr; clear hG' hob)
    go_ret
    exact ⟨rfl, ⟨_, _, _, HST.out.1⟩, HST.out.2⟩
end Go.Proofs.Ytfnpiknobmecbaa
