/- An append onto a list that has no room: always new memory. -/
import Derived.Test.YtfnpiknobmecbaaSqk
import Derived.OwnWalkIn
import Derived.Maps.OwnIn
namespace Go.Proofs.Ytfnpiknobmecbaa
open Go.ChangeShapes Go.WideShapes Go.ChangeAt Go.RowKit Go.Maps
set_option linter.unusedVariables false
set_option linter.unusedSimpArgs false

theorem run_append_cut (w : World) (ty : TypeId) (x : Addr) (n : Nat) (olds : List Int) (hr : Rd w (some x) olds) (hl : olds.length = n) (ao : Option Addr) (m c : Nat) (news : List Int) (hrn : Rd w ao news) (hln : news.length = m) (h1 : 1 ≤ m) (hb : n + m ≤ 100000) :
    ∃ v' w' ys, (Builtin.append_ #[27, 27] ty #[.slice (some x) n n, .slice ao m c]).run Try.prog w = .ok v' w' ∧ Own w.heap.size w' v' (n + m) ys ∧ ys.take (n + m) = olds ++ news ∧ Below w.heap.size w w' := by
  obtain ⟨i, hi, hz0, hz1, hz2⟩ := info_parts Try.info5
  have hs : Src Try.prog i.size 27 (.slice ao m c) m (news.map (Value.int .u8)) w := by rw [hz1]; exact src_bytes hrn hln
  have hold : (Builtin.firstCells i.size n (.slice (some x) n n)).run Try.prog w.drew = .ok (olds.map (Value.int .u8)).toArray w.drew := by
    refine run_firstCells_some (P := Try.prog) w.drew i.size n x n n (olds.map (Value.int .u8)) (by rw [hz1]; simp [hl]) ?_
    intro j v hv
    have := rd_cells hr j v hv
    exact this
  have hr' := run_append_grow_src (P := Try.prog) w 27 27 ty 5 i (.int .u8 0) Try.underlying27 hi hz0 (some x) n n (olds.map (Value.int .u8)) hold (.slice ao m c) m (news.map (Value.int .u8)) hs (by omega) (by omega) (growslice_fits (by omega) (by rw [hz2]; omega))
  have hge := grownCap_ge w (n + m) n 5
  have hle := grownCap_le_maxLen w (n + m) n 5 (by unfold maxLen; omega)
  rw [zeros_eq] at hr'
  have e1 : ((olds.map (Value.int .u8) ++ news.map (Value.int .u8)).toArray ++ ((List.replicate (grownCap w (n + m) n 5 - (n + m)) (0 : Int)).map (Value.int .u8)).toArray) = ((olds ++ news ++ List.replicate (grownCap w (n + m) n 5 - (n + m)) 0).map (Value.int .u8)).toArray := by simp
  rw [e1] at hr'
  have hlen : (olds ++ news ++ List.replicate (grownCap w (n + m) n 5 - (n + m)) (0 : Int)).length = grownCap w (n + m) n 5 := by
    simp only [List.length_append, hl, hln, List.length_replicate]; omega
  refine ⟨_, _, olds ++ news ++ List.replicate (grownCap w (n + m) n 5 - (n + m)) 0, hr', .inr ⟨w.heap.size, by rw [hlen], Nat.le_refl _, ⟨heap_alloc_new w.drew _, ?_⟩, by rw [hlen]; exact hge, by rw [hlen]; exact hle⟩, ?_, ⟨rfl, rfl, rfl, by simp, fun k hk => Below.heap_alloc w.drew _ k hk⟩⟩
  · intro z hz
    simp only [List.mem_append, List.mem_replicate] at hz
    rcases hz with (hz | hz) | ⟨_, rfl⟩
    · exact hr.2 z hz
    · exact hrn.2 z hz
    · omega
  · rw [List.take_append_of_le_length (by simp only [List.length_append, hl, hln]; omega)]
    exact List.take_of_length_le (by simp only [List.length_append, hl, hln]; omega)
theorem wpListIn_append_eq {F : Fence} {nF : Nat} {P : Program} (w : World) {ops : Array Oper} {rest : List Oper} {o : Oper} {a : Act} {Q : Exit → Act → World → Prop} (hgd : o.guard = none) (s x : Operand) (t1 t2 : TypeId)
    (ho : o.op = .call { callee := .builtin .append, args := #[s, x], argTypes := #[t1, t2] }) (v y v' : Value) (w' : World) (hs : a.eval s = v) (hx : a.eval x = y) (hr : (Builtin.append_ #[t1, t2] o.type #[v, y]).run P w = .ok v' w')
    (h : wpListIn F nF P ops Q rest (a.put o.dst v') w') : wpListIn F nF P ops Q (o :: rest) a w := by
  refine wpListIn_plain hgd fun K hK => ?_
  unfold Oper.wpIn
  refine ⟨by simp [Oper.about, ho, resolve, Target.leads, Sem.run_pure], ?_⟩
  rw [Oper.semAt_plain F _ _ (by rw [ho]; intro c hc'; cases hc')]
  simp [execOp, ho, resolve, invoke, builtin, hs, hx, hr, Result.andThen]
  exact hK _ _ h
end Go.Proofs.Ytfnpiknobmecbaa
