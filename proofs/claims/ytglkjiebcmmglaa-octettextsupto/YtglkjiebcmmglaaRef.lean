/- What the document's reader does. -/
import Derived.Test.YtglkjiebcmmglaaRead3
import Derived.Test.YtglkjiebcmmglaaNumWalk
import Derived.Deep.QuietTactic
import Derived.BigQuiet
namespace Go.Proofs.Ytglkjiebcmmglaa
open Go.ChangeShapes Go.WideShapes Go.ChangeAt Go.RowKit
set_option linter.unusedVariables false
set_option linter.unusedSimpArgs false

/-- The document's reader's block: its bytes, its place, whether it is bad. -/
def MBlk (w : World) (g : Nat) (t : Value) (k : Int) (bad : Bool) : Prop :=
  w.heap[g]? = some (.cells #[t, .int .i64 k, .bool bad] 49 (0, 0))
theorem MBlk.lt {w : World} {g : Nat} {t : Value} {k : Int} {bad : Bool} (h : MBlk w g t k bad) : g < w.heap.size := (Array.getElem?_eq_some_iff.1 h).1
theorem MBlk.c0 {w : World} {g : Nat} {t : Value} {k : Int} {bad : Bool} (h : MBlk w g t k bad) : w.cell? ⟨g, 0, none⟩ = some t := by
  have h' : w.heap[g]? = _ := h
  simp [World.cell?, h']
theorem MBlk.c1 {w : World} {g : Nat} {t : Value} {k : Int} {bad : Bool} (h : MBlk w g t k bad) : w.cell? ⟨g, 1, none⟩ = some (.int .i64 k) := by
  have h' : w.heap[g]? = _ := h
  simp [World.cell?, h']
theorem MBlk.c2 {w : World} {g : Nat} {t : Value} {k : Int} {bad : Bool} (h : MBlk w g t k bad) : w.cell? ⟨g, 2, none⟩ = some (.bool bad) := by
  have h' : w.heap[g]? = _ := h
  simp [World.cell?, h']
theorem MBlk.fz {w : World} {g : Nat} {t : Value} {k : Int} {bad : Bool} (h : MBlk w g t k bad) (i : Nat) : w.frozen? ⟨g, i, none⟩ = false := by
  have h' : w.heap[g]? = _ := h
  simp [World.frozen?, h']
theorem MBlk.same {w w' : World} {g : Nat} {t : Value} {k : Int} {bad : Bool} (h : MBlk w g t k bad) (hb : w'.heap[g]? = w.heap[g]?) : MBlk w' g t k bad := hb.trans h

theorem step_append_blk {ops : Array Oper} {o : Oper} {a : Act} {w : World} {K : Act → World → Prop} {Q : Exit → Act → World → Prop} {E : Prop} (hgd : o.guard = none) (s x : Operand)
    (ho : o.op = .call { callee := .builtin .append, args := #[s, x], argTypes := #[23, 23] }) (B : Nat) (v : Value) (n : Nat) (zs : List Int) (hs : a.eval s = v) (hown : Own B w v n zs)
    (ao : Option Addr) (m c : Nat) (news : List Int) (hx : a.eval x = .slice ao m c) (hr : Rd w ao news) (N : Nat) (hl : news.length = m) (hN : n + m = N) (hc : ao = none → c = 0) (hb : N ≤ 140737488355328) (hB : B ≤ w.heap.size)
    (h : ∀ v' w' zs', Hid (Own B w' v' N zs') → Hid (zs'.take N = zs.take n ++ news) → Hid (w.grownBy w' v.ownBlock) → K (a.put o.dst v') w') :
    if Region.wanted o (yielded ops a.tmps) = true then Oper.wp Try.prog o a w K Q else E := by
  have hw : Region.wanted o (yielded ops a.tmps) = true := by simp [Region.wanted, hgd]
  rw [if_pos hw]
  subst hN
  obtain ⟨v', w', zs', hrun, h2, h3, h4⟩ := run_append_blk w B o.type v n zs hown ao m c news hr hl hc hb hB
  unfold Oper.wp execOp
  simp only [ho, resolve, invoke, builtin, Sem.run_bind, Sem.run_pure, Result.andThen_ok, List.map_toArray, List.map_cons, List.map_nil, hs, hx, hrun]
  exact h v' w' zs' h2 h3 h4

theorem Own.keep {B : Nat} {w w' : World} {v : Value} {n : Nat} {zs : List Int} (h : Own B w v n zs) (hb : ∀ g, B ≤ g → w'.heap[g]? = w.heap[g]?) : Own B w' v n zs := by
  rcases h with h | ⟨g, h1, h2, h3, h4⟩
  · exact .inl h
  · exact .inr ⟨g, h1, h2, h3.same (hb g h2), h4⟩
theorem Own.mono {B B' : Nat} {w : World} {v : Value} {n : Nat} {zs : List Int} (h : Own B w v n zs) (hb : B' ≤ B) : Own B' w v n zs := by
  rcases h with h | ⟨g, h1, h2, h3⟩
  · exact .inl h
  · exact .inr ⟨g, h1, by omega, h3⟩

theorem reftake_end {w W2 w' : World} {g : Nat} {t v' : Value} {k k' : Int} {n : Nat} {ys qs : List Int} {o : Obj} (hg : g < w.heap.size) (hW : Below w.heap.size w W2 ∧ W2.heap.size = w.heap.size)
    (hO : Own W2.heap.size w' v' n ys) (hT : ys.take n = ([] : List Int).take 0 ++ qs) (hG : (W2.drew.alloc o).grownBy w' (some W2.heap.size)) (hM : MBlk w' g t k false) :
    Own w.heap.size (w'.setCell ⟨g, 1, none⟩ (.int .i64 k')) v' n ys ∧ ys.take n = qs ∧ MBlk (w'.setCell ⟨g, 1, none⟩ (.int .i64 k')) g t k' false ∧ w.grownBy (w'.setCell ⟨g, 1, none⟩ (.int .i64 k')) (some g) := by
  have hsz : (w'.setCell ⟨g, 1, none⟩ (.int .i64 k')).heap.size = w'.heap.size := by simp [World.setCell]
  have hal : (W2.drew.alloc o).heap.size = W2.heap.size + 1 := by simp
  refine ⟨(hO.mono (by omega)).keep fun j hj => Below.heap_setCell _ _ _ j (by show j ≠ g; omega), by simpa using hT, heap_set hM 1 _, ?_⟩
  refine ⟨hG.os.trans hW.1.os, hG.tape.trans hW.1.tape, hG.output.trans hW.1.output, by rw [hsz]; have := hG.size; omega, fun j hj hne => ?_⟩
  rw [Below.heap_setCell _ _ _ j (fun e => hne (by rw [e]))]
  rw [hG.block j (by omega) (fun e => by have := Option.some.inj e; omega)]
  rw [Below.heap_alloc W2.drew o j (by show j < W2.heap.size; omega)]
  exact hW.1.block j hj

set_option maxHeartbeats 1000000 in
theorem reftake_ok (g : Nat) (b : Option Addr) (len cap k n : Nat) (zs : List Int) (w : World) (hb : MBlk w g (.slice b len cap) k false) (hr : Rd w b zs) (hl : zs.length = len) (hc : len ≤ cap) (hm : len ≤ 140737488355328) (hd : b = none → cap = 0) (ho : Off b g) (hn : k + n ≤ len) :
    Calls Try.prog 50 #[.pointer (some ⟨g, 0, none⟩), .int .i64 n] w fun e w' => ∃ v ys, e = .returned v ∧ Hid (Own w.heap.size w' v n ys ∧ ys.take n = (zs.drop k).take n ∧ MBlk w' g (.slice b len cap) ((k : Int) + (n : Int)) false ∧ w.grownBy w' (some g)) := by
  have H0 : Hid (MBlk w g (.slice b len cap) k false ∧ Rd w b zs ∧ zs.length = len ∧ (b = none → cap = 0) ∧ Off b g) := ⟨hb, hr, hl, hd, ho⟩
  have hg := hb.lt
  have c0 := hb.c0
  have c1 := hb.c1
  have c2 := hb.c2
  have f1 := hb.fz 1
  have d1 : decide ((n : Int) < 0) = false := by simp
  have d2 : decide ((len : Int) - (k : Int) < (n : Int)) = false := by simp; omega
  have hw1 : IntKind.i64.wrap ((len : Int) - (k : Int)) = (len : Int) - (k : Int) := by rw [IntKind.wrap_i64]; omega
  clear hb hr hl hd ho
  go_enter Try.func50, Try.ntmps50
  go_wp2_with fail
  go_quiet (fail)
  go_wp2_with fail
  have HW : Hid (MBlk (w.drewN nq) g (.slice b len cap) k false ∧ Rd (w.drewN nq) b zs ∧ Below w.heap.size w (w.drewN nq) ∧ (w.drewN nq).heap.size = w.heap.size) := by
    have hb : Below w.heap.size w (w.drewN nq) := ⟨rfl, rfl, rfl, Nat.le_refl _, fun _ _ => rfl⟩
    exact ⟨H0.out.1.same (hb.block g hg), H0.out.2.1.below hb, hb, rfl⟩
  clear c0 c1 c2 f1 d1 d2 hw1
  generalize w.drewN nq = W2 at *
  have c0 := HW.out.1.c0
  have c1 := HW.out.1.c1
  have hg2 := HW.out.1.lt
  have hgn : ¬ W2.heap.size = g := by omega
  have hw2 : IntKind.i64.wrap ((k : Int) + (n : Int)) = (k : Int) + (n : Int) := by rw [IntKind.wrap_i64]; omega
  have hb1 : (k : Int) + (n : Int) ≤ (cap : Int) := by omega
  have hb2 : (k : Int) ≤ (k : Int) + (n : Int) := by omega
  by_cases hck : cap = k
  · have hn0 : n ≤ 0 := by omega
    obtain rfl : cap = k := hck
    have HC : Hid (∀ W, Rd W b zs → Rd W b ((zs.drop cap).take n)) := fun W hW => hW.cut cap n (by rw [H0.out.2.2.1]; exact hn) (fun h b' o e => absurd h (by omega))
    have HLn : Hid (((zs.drop cap).take n).length = n) := (show _ = _ by simp; have := H0.out.2.2.1; omega)
    go_region_held3 (fun W => W.cell? ⟨g, 0, none⟩ = some (.slice b len cap) ∧ W.cell? ⟨g, 1, none⟩ = some (.int .i64 cap)) (go_keep) (first
      | (refine step_append_blk rfl _ _ rfl W2.heap.size _ 0 [] rfl ?_ _ _ _ ((zs.drop cap).take n) rfl ?_ n ?_ ?_ ?_ ?_ ?_ ?_; exact empty_own W2.drew; exact HC.out _ (HW.out.2.1.drew.below (new_below _ _)); (rw [HLn.out]; omega); omega; exact (fun e => by first | rfl | (have := H0.out.2.2.2.1 e; omega)); omega; simp; intro v' w' ys hO hT hG; have hMB : Hid (MBlk w' g (.slice b len cap) cap false) := HW.out.1.same ((hG.out.block g (by simp; omega) (fun e => hgn (Option.some.inj e).symm)).trans (Below.heap_alloc W2.drew _ g hg2)); have k0 := hMB.out.c0; have k1 := hMB.out.c1))
    have kf := hMB.out.fz 1
    clear k0 c0 c1
    go_wp2
    go_ret
    exact ⟨v', ys, rfl, reftake_end hg ⟨HW.out.2.2.1, HW.out.2.2.2⟩ hO.out hT.out hG.out hMB.out⟩
  · skip
    have HC : Hid (∀ W, Rd W b zs → Rd W (Option.map (fun x => x.add k) b) ((zs.drop k).take n)) := fun W hW => hW.cut k n (by rw [H0.out.2.2.1]; exact hn) (fun h b' o e => by subst e; simp [Addr.add])
    have HLn : Hid (((zs.drop k).take n).length = n) := (show _ = _ by simp; have := H0.out.2.2.1; omega)
    go_region_held3 (fun W => W.cell? ⟨g, 0, none⟩ = some (.slice b len cap) ∧ W.cell? ⟨g, 1, none⟩ = some (.int .i64 k)) (go_keep) (first
      | (refine step_append_blk rfl _ _ rfl W2.heap.size _ 0 [] rfl ?_ _ _ _ ((zs.drop k).take n) rfl ?_ n ?_ ?_ ?_ ?_ ?_ ?_; exact empty_own W2.drew; exact HC.out _ (HW.out.2.1.drew.below (new_below _ _)); (rw [HLn.out]; omega); omega; exact (fun e => by simp at e; have := H0.out.2.2.2.1 e; omega); omega; simp; intro v' w' ys hO hT hG; have hMB : Hid (MBlk w' g (.slice b len cap) k false) := HW.out.1.same ((hG.out.block g (by simp; omega) (fun e => hgn (Option.some.inj e).symm)).trans (Below.heap_alloc W2.drew _ g hg2)); have k0 := hMB.out.c0; have k1 := hMB.out.c1))
    have kf := hMB.out.fz 1
    clear k0 c0 c1
    go_wp2
    go_ret
    exact ⟨v', ys, rfl, reftake_end hg ⟨HW.out.2.2.1, HW.out.2.2.2⟩ hO.out hT.out hG.out hMB.out⟩
end Go.Proofs.Ytglkjiebcmmglaa
