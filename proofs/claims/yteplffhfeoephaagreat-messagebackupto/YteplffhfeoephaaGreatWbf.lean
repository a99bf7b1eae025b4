/- Texts laid together, in parts: Vc Vd Ve Vf Vg Vh Mpc Sqf Sqk Mra Arg Sqi Sqq Sql0. -/
import Derived.Test.YteplffhfeoephaaGreatWbe
import Derived.ChangeKeysEq
import Derived.Laws.StructEq
import Derived.RangeFuncNested
import Derived.RangeFuncBox
import Derived.WalkKit
import Derived.ProofKit
import Derived.OpenShut
import Derived.ShutString
import Derived.ChangeOld
import Derived.JoinedCond
import Derived.Deep.Strs
import Derived.SizedLaws
import Derived.RangeFuncBound
import Derived.RangeFuncCalls
import Derived.RangeFuncLeaves
import Derived.Shelf.Abstract
import Derived.Shelf.RegionOpen
import Derived.OwnWalkIn
import Derived.TacticsInMore
import Derived.LoopNIn
import Derived.LoopIn
import Derived.Sort.QuietIn
import Derived.Maps.OwnIn
set_option maxRecDepth 100000
set_option linter.unusedVariables false
set_option linter.unusedSimpArgs false
namespace Go.Proofs.YteplffhfeoephaaGreat
open Go.ChangeShapes Go.WideShapes Go.ChangeAt Go.RowKit
theorem copy_into (W : World) (D S so : Nat) (x y z0 z1 z2 z3 c0 c1 c2 c3 : Int) (sc : Nat) (hD : W.heap[D]? = some (.cells #[.int .i64 x, .int .i64 y, .int .i64 z0, .int .i64 z1, .int .i64 z2, .int .i64 z3] 133))
   (h0 : W.cell? ⟨S, 0, none⟩ = some (.int .i64 c0)) (h1 : W.cell? ⟨S, 1, none⟩ = some (.int .i64 c1)) (h2 : W.cell? ⟨S, 2, none⟩ = some (.int .i64 c2)) (h3 : W.cell? ⟨S, 3, none⟩ = some (.int .i64 c3)) :
   (Builtin.copy_ #[175, 175] 3 #[.slice (some ⟨D, 2, none⟩) 4 4, .slice (some ⟨S, 0, none⟩) 4 4]).run Tryz.prog W = .ok (.int .i64 4) (W.setRow D #[.int .i64 x, .int .i64 y, .int .i64 c0, .int .i64 c1, .int .i64 c2, .int .i64 c3]) := by
 have := run_copy_row (P := Tryz.prog) W 175 175 3 3 D 2 4 4 ⟨S, 0, none⟩ 4 4 _ 133 [.int .i64 c0, .int .i64 c1, .int .i64 c2, .int .i64 c3] Tryz.underlying175 (by kernel_rfl) hD (by simp)
   (by
     intro j u hj
     match j, hj with
     | 0, hj => simp at hj; subst hj; simpa [Addr.add] using h0
     | 1, hj => simp at hj; subst hj; simpa [Addr.add] using h1
     | 2, hj => simp at hj; subst hj; simpa [Addr.add] using h2
     | 3, hj => simp at hj; subst hj; simpa [Addr.add] using h3
     | j + 4, hj => simp at hj) (by simp) (by intro u hu; simp at hu; rcases hu with rfl | rfl | rfl | rfl <;> rfl)
 rw [this]
 simp [goInt]
theorem copy_out (W : World) (D S : Nat) (z0 z1 z2 z3 c0 c1 c2 c3 : Int) (hD : W.heap[D]? = some (.cells #[.int .i64 z0, .int .i64 z1, .int .i64 z2, .int .i64 z3] 74))
   (h0 : W.cell? ⟨S, 2, none⟩ = some (.int .i64 c0)) (h1 : W.cell? ⟨S, 3, none⟩ = some (.int .i64 c1)) (h2 : W.cell? ⟨S, 4, none⟩ = some (.int .i64 c2)) (h3 : W.cell? ⟨S, 5, none⟩ = some (.int .i64 c3)) :
   (Builtin.copy_ #[175, 175] 3 #[.slice (some ⟨D, 0, none⟩) 4 4, .slice (some ⟨S, 2, none⟩) 4 4]).run Tryz.prog W = .ok (.int .i64 4) (W.setRow D #[.int .i64 c0, .int .i64 c1, .int .i64 c2, .int .i64 c3]) := by
 have := run_copy_row (P := Tryz.prog) W 175 175 3 3 D 0 4 4 ⟨S, 2, none⟩ 4 4 _ 74 [.int .i64 c0, .int .i64 c1, .int .i64 c2, .int .i64 c3] Tryz.underlying175 (by kernel_rfl) hD (by simp)
   (by
     intro j u hj
     match j, hj with
     | 0, hj => simp at hj; subst hj; simpa [Addr.add] using h0
     | 1, hj => simp at hj; subst hj; simpa [Addr.add] using h1
     | 2, hj => simp at hj; subst hj; simpa [Addr.add] using h2
     | 3, hj => simp at hj; subst hj; simpa [Addr.add] using h3
     | j + 4, hj => simp at hj) (by simp) (by intro u hu; simp at hu; rcases hu with rfl | rfl | rfl | rfl <;> rfl)
 rw [this]
 simp [goInt]
theorem setRow_block {W : World} {D : Nat} {cs : Array Value} {ty : TypeId} (hD : W.heap[D]? = some (.cells cs ty)) (ds : Array Value) : (W.setRow D ds).heap[D]? = some (.cells ds ty) := by
 simp [World.setRow, Array.getElem?_modify, hD]
theorem setRow_size (W : World) (D : Nat) (ds : Array Value) : (W.setRow D ds).heap.size = W.heap.size := by simp [World.setRow]
theorem cell_of_block {W : World} {D i : Nat} {cs : Array Value} {ty : TypeId} {v : Value} (hD : W.heap[D]? = some (.cells cs ty)) (hv : cs[i]? = some v) : W.cell? ⟨D, i, none⟩ = some v := by
 simp [World.cell?, hD, hv]
theorem frozen_of_block {W : World} {D i : Nat} {cs : Array Value} {ty : TypeId} (hD : W.heap[D]? = some (.cells cs ty)) : W.frozen? ⟨D, i, none⟩ = false := by
 simp [World.frozen?, hD]
theorem alloc3 (w : World) (o1 o2 o3 : Obj) : (((w.alloc o1).alloc o2).alloc o3).drew.heap[w.heap.size]? = some o1 /\ (((w.alloc o1).alloc o2).alloc o3).drew.heap[w.heap.size + 1]? = some o2 /\ (((w.alloc o1).alloc o2).alloc o3).drew.heap[w.heap.size + 1 + 1]? = some o3 := by
 refine ⟨?_, ?_, ?_⟩
 · show (((w.heap.push o1).push o2).push o3)[w.heap.size]? = some o1
   simp only [Array.getElem?_push, Array.size_push]
   repeat (first | rw [if_pos (by omega)] | rw [if_neg (by omega)])
   try simp
 · show (((w.heap.push o1).push o2).push o3)[w.heap.size + 1]? = some o2
   simp only [Array.getElem?_push, Array.size_push]
   repeat (first | rw [if_pos (by omega)] | rw [if_neg (by omega)])
   try simp
 · show (((w.heap.push o1).push o2).push o3)[w.heap.size + 1 + 1]? = some o3
   simp only [Array.getElem?_push, Array.size_push]
   repeat (first | rw [if_pos (by omega)] | rw [if_neg (by omega)])
   try simp
set_option maxHeartbeats 1000000 in
theorem together_any (x y c0 c1 c2 c3 : Int) (w : World) :
   Calls Tryz.prog 84 #[.int .i64 x, .int .i64 y, .agg #[.int .i64 c0, .int .i64 c1, .int .i64 c2, .int .i64 c3]] w fun e w' => e = .returned (.agg #[.int .i64 x, .int .i64 y, .int .i64 c0, .int .i64 c1, .int .i64 c2, .int .i64 c3]) /\ Below w.heap.size w w' := by
 obtain ⟨W2, h, g0, g1, g2, g3, g4, g5, hs, HB⟩ : ∃ W2, (Builtin.copy_ #[175, 175] 3 #[.slice (some ⟨w.heap.size + 1 + 1, 2, none⟩) 4 4, .slice (some ⟨w.heap.size, 0, none⟩) 4 4]).run Tryz.prog (((w.alloc (.cells #[.int .i64 c0, .int .i64 c1, .int .i64 c2, .int .i64 c3] 74)).alloc (.cells #[.int .i64 0, .int .i64 0, .int .i64 0, .int .i64 0, .int .i64 0, .int .i64 0] 133)).alloc (.cells #[.int .i64 x, .int .i64 y, .int .i64 0, .int .i64 0, .int .i64 0, .int .i64 0] 133)).drew = .ok (.int .i64 4) W2 /\
     W2.cell? ⟨w.heap.size + 1 + 1, 0, none⟩ = some (.int .i64 x) /\ W2.cell? ⟨w.heap.size + 1 + 1, 1, none⟩ = some (.int .i64 y) /\ W2.cell? ⟨w.heap.size + 1 + 1, 2, none⟩ = some (.int .i64 c0) /\ W2.cell? ⟨w.heap.size + 1 + 1, 3, none⟩ = some (.int .i64 c1) /\ W2.cell? ⟨w.heap.size + 1 + 1, 4, none⟩ = some (.int .i64 c2) /\ W2.cell? ⟨w.heap.size + 1 + 1, 5, none⟩ = some (.int .i64 c3) /\ W2.heap[w.heap.size + 1]? = some (.cells #[.int .i64 0, .int .i64 0, .int .i64 0, .int .i64 0, .int .i64 0, .int .i64 0] 133) /\ Hid (Below w.heap.size w W2) := by
   obtain ⟨f1, f2, hD⟩ := alloc3 w (.cells #[.int .i64 c0, .int .i64 c1, .int .i64 c2, .int .i64 c3] 74) (.cells #[.int .i64 0, .int .i64 0, .int .i64 0, .int .i64 0, .int .i64 0, .int .i64 0] 133) (.cells #[.int .i64 x, .int .i64 y, .int .i64 0, .int .i64 0, .int .i64 0, .int .i64 0] 133)
   have hb := setRow_block hD #[.int .i64 x, .int .i64 y, .int .i64 c0, .int .i64 c1, .int .i64 c2, .int .i64 c3]
   refine ⟨_, copy_into _ _ _ 0 x y 0 0 0 0 c0 c1 c2 c3 0 hD (cell_of_block f1 rfl) (cell_of_block f1 rfl) (cell_of_block f1 rfl) (cell_of_block f1 rfl), cell_of_block hb rfl, cell_of_block hb rfl, cell_of_block hb rfl, cell_of_block hb rfl, cell_of_block hb rfl, cell_of_block hb rfl, ?_, ?_⟩
   · rw [setRow_other _ _ _ _ (by omega)]; exact f2
   · exact below_setRow ((((((Below.refl _ _).alloc (Nat.le_refl _) _).alloc (by simp) _).alloc (by simp; omega) _)).drew) (by omega) _
 go_enter Tryz.func84, Tryz.ntmps84
 go_wp2
 go_region
 have hlt : w.heap.size + 1 < W2.heap.size := by
   rcases Nat.lt_or_ge (w.heap.size + 1) W2.heap.size with h | h
   · exact h
   · rw [Array.getElem?_eq_none h] at hs; cases hs
 have k0 := cell_of_block (i := 0) hs rfl
 have k1 := cell_of_block (i := 1) hs rfl
 have k2 := cell_of_block (i := 2) hs rfl
 have k3 := cell_of_block (i := 3) hs rfl
 have k4 := cell_of_block (i := 4) hs rfl
 have k5 := cell_of_block (i := 5) hs rfl
 have l0 := frozen_of_block (i := 0) hs
 have l1 := frozen_of_block (i := 1) hs
 have l2 := frozen_of_block (i := 2) hs
 have l3 := frozen_of_block (i := 3) hs
 have l4 := frozen_of_block (i := 4) hs
 have l5 := frozen_of_block (i := 5) hs
 clear h
 have HS : Hid (W2.heap[w.heap.size + 1]? = some (.cells #[.int .i64 0, .int .i64 0, .int .i64 0, .int .i64 0, .int .i64 0, .int .i64 0] 133)) := hs
 clear hs
 go_wp2
 refine bodyPost_ret (v := .agg #[.int .i64 x, .int .i64 y, .int .i64 c0, .int .i64 c1, .int .i64 c2, .int .i64 c3]) ?_ rfl ⟨rfl, ?_⟩
 · simp [results, Tryz.results84, go_sem, k0, k1, k2, k3, k4, k5, hlt]
 · exact (((((HB.out.setCell (p := ⟨_, _, none⟩) (by simp) _).setCell (p := ⟨_, _, none⟩) (by simp) _).setCell (p := ⟨_, _, none⟩) (by simp) _).setCell (p := ⟨_, _, none⟩) (by simp) _).setCell (p := ⟨_, _, none⟩) (by simp) _).setCell (p := ⟨_, _, none⟩) (by simp) _
end Go.Proofs.YteplffhfeoephaaGreat
namespace Go.Proofs.YteplffhfeoephaaGreat
open Go.ChangeShapes Go.WideShapes Go.ChangeAt Go.RowKit
def nsL (id F c0 c1 c2 c3 : Int) : List Int := [id, F, c0, c1, c2, c3]
def b16 (m : Int) : List Int := [m / 256, m % 256]
def b16s (l : List Int) : List Int := l.flatMap b16
def okN (m : Int) : Prop := 0 <= m /\ m <= 65535
theorem b16s_len (l : List Int) : (b16s l).length = 2 * l.length := by
 induction l with
 | nil => rfl
 | cons x r ih => simp only [b16s, List.flatMap_cons, List.length_append, List.length_cons] at ih ⊢; rw [ih]; simp [b16]; omega
theorem b16s_take (l : List Int) (k : Nat) (m : Int) (h : l[k]? = some m) : b16s (l.take (k + 1)) = b16s (l.take k) ++ [m / 256, m % 256] := by
 rw [List.take_add_one, h]
 simp [b16s, b16]
theorem ixN (id F c0 c1 c2 c3 : Int) (k : Nat) (hk : k < 6) : ∃ m, (nsL id F c0 c1 c2 c3)[k]? = some m /\ ∀ w : World, (Instr.index 133 (.agg #[.int .i64 id, .int .i64 F, .int .i64 c0, .int .i64 c1, .int .i64 c2, .int .i64 c3]) (.int .i64 (k : Int))).run Tryz.prog w = .ok (.int .i64 m) w := by
 match k, hk with
 | 0, _ => exact ⟨id, rfl, fun w => by kernel_rfl⟩
 | 1, _ => exact ⟨F, rfl, fun w => by kernel_rfl⟩
 | 2, _ => exact ⟨c0, rfl, fun w => by kernel_rfl⟩
 | 3, _ => exact ⟨c1, rfl, fun w => by kernel_rfl⟩
 | 4, _ => exact ⟨c2, rfl, fun w => by kernel_rfl⟩
 | 5, _ => exact ⟨c3, rfl, fun w => by kernel_rfl⟩
 | k + 6, h => omega
theorem make12 (w : World) : (Instr.makeSlice 29 (.int .i64 0) (.int .i64 12)).run Tryz.prog w = .ok (.slice (some ⟨w.heap.size, 0, none⟩) 0 12) (w.alloc (.cells #[.int .u8 0, .int .u8 0, .int .u8 0, .int .u8 0, .int .u8 0, .int .u8 0, .int .u8 0, .int .u8 0, .int .u8 0, .int .u8 0, .int .u8 0, .int .u8 0] 5)) := by kernel_rfl
theorem alloc_at (w : World) (o : Obj) : (w.alloc o).heap[w.heap.size]? = some o := by
 show (w.heap.push o)[w.heap.size]? = some o
 simp
theorem make12_own (w : World) (B : Nat) (hB : B <= w.heap.size) : Own B (w.alloc (.cells #[.int .u8 0, .int .u8 0, .int .u8 0, .int .u8 0, .int .u8 0, .int .u8 0, .int .u8 0, .int .u8 0, .int .u8 0, .int .u8 0, .int .u8 0, .int .u8 0] 5)) (.slice (some ⟨w.heap.size, 0, none⟩) 0 12) 0 (List.replicate 12 0) := by
 refine .inr ⟨w.heap.size, rfl, hB, ⟨?_, ?_⟩, by simp, by simp [maxLen]⟩
 · rw [alloc_at]; rfl
 · intro z hz; rw [List.mem_replicate] at hz; obtain ⟨_, rfl⟩ := hz; omega
theorem two_rd (w : World) (m : Int) (h : okN m) : Rd (w.alloc (.cells #[.int .u8 (m / 256), .int .u8 (m % 256)] 5)) (some ⟨w.heap.size, 0, none⟩) [m / 256, m % 256] := by
 have hb : Blk (w.alloc (.cells #[.int .u8 (m / 256), .int .u8 (m % 256)] 5)) w.heap.size [m / 256, m % 256] := ⟨alloc_at _ _, by
   intro z hz
   simp only [List.mem_cons, List.not_mem_nil, or_false] at hz
   obtain ⟨h0, h1⟩ := h
   rcases hz with rfl | rfl <;> omega⟩
 exact hb.rd 2
def BtPost (w : World) (ns : List Int) (e : Ending) (w' : World) : Prop :=
 ((∀ m ∈ ns, okN m) -> ∃ g, e = .returned (.tuple #[.slice (some ⟨g, 0, none⟩) 12 12, .int .i64 0]) /\ w.heap.size <= g /\ Blk w' g (b16s ns)) /\
 ((¬ ∀ m ∈ ns, okN m) -> e = .returned (.tuple #[.slice none 0 0, .int .i64 2])) /\ Below w.heap.size w w'
set_option maxHeartbeats 1000000 in
theorem bytes10_arg (id : Int) (rs : Bool) (op : Int) (aa tc rd ra ad cd : Bool) (rc : Int) (a1 a2 a3 a4 : Option Addr) (n1 n2 n3 n4 k1 k2 k3 k4 : Nat) (c0 c1 c2 c3 : Int) (w : World)
   (h : ¬ (0 <= op /\ op <= 15 /\ 0 <= rc /\ rc <= 15)) :
   Calls Tryz.prog 45 #[.agg #[.int .u16 id, .bool rs, .int .i64 op, .bool aa, .bool tc, .bool rd, .bool ra, .bool ad, .bool cd, .int .i64 rc, .slice a1 n1 k1, .slice a2 n2 k2, .slice a3 n3 k3, .slice a4 n4 k4], .agg #[.int .i64 c0, .int .i64 c1, .int .i64 c2, .int .i64 c3]] w fun e w' => e = .returned (.tuple #[.slice none 0 0, .int .i64 2]) /\ Below w.heap.size w w' := by
 have H : Hid (op < 0 ∨ (0 <= op /\ 15 < op) ∨ (0 <= op /\ op <= 15 /\ rc < 0) ∨ (0 <= op /\ op <= 15 /\ 0 <= rc /\ 15 < rc)) := by show _ ∨ _; omega
 clear h
 go_enter Tryz.func45, Tryz.ntmps45
 go_wp2_with fail
 refine (pack_no id rs op aa tc rd ra ad cd rc a1 a2 a3 a4 n1 n2 n3 n4 k1 k2 k3 k4 _ H.out).mono ?_
 rintro e w1 ⟨rfl, hb1⟩
 go_wp2
 go_ret2
 exact ⟨rfl, (((Below.refl _ _).alloc (Nat.le_refl _) _).alloc (by simp) _).trans (hb1.mono (by simp; omega))⟩
set_option maxHeartbeats 1000000 in
theorem bytes10 (id : Nat) (rs : Bool) (op : Nat) (aa tc rd ra ad cd : Bool) (rc : Nat) (a1 a2 a3 a4 : Option Addr) (n1 n2 n3 n4 k1 k2 k3 k4 : Nat) (c0 c1 c2 c3 : Int) (w : World)
   (hi : id < 65536) (ho : op < 16) (hr : rc < 16) :
   Calls Tryz.prog 45 #[.agg #[.int .u16 (id : Int), .bool rs, .int .i64 (op : Int), .bool aa, .bool tc, .bool rd, .bool ra, .bool ad, .bool cd, .int .i64 (rc : Int), .slice a1 n1 k1, .slice a2 n2 k2, .slice a3 n3 k3, .slice a4 n4 k4], .agg #[.int .i64 c0, .int .i64 c1, .int .i64 c2, .int .i64 c3]] w fun e w' => BtPost w (nsL id (packN op rc rs aa tc rd ra ad cd : Nat) c0 c1 c2 c3) e w' := by
 have hP := packN_lt ho hr rs aa tc rd ra ad cd
 have KP := fun w' => pack_ok id rs op aa tc rd ra ad cd rc a1 a2 a3 a4 n1 n2 n3 n4 k1 k2 k3 k4 w' ho hr
 generalize packN op rc rs aa tc rd ra ad cd = F at *
 obtain ⟨ns, hns⟩ : ∃ ns, ns = nsL id F c0 c1 c2 c3 := ⟨_, rfl⟩
 have IX := fun k hk => ixN id F c0 c1 c2 c3 k hk
 rw [<- hns] at IX ⊢
 have HNL : Hid (ns.length = 6) := by rw [hns]; rfl
 clear hns
 have KP' : ∀ w', Hid (Calls Tryz.prog 83 _ w' _) := KP
 clear KP
 have hmk := make12
 go_enter Tryz.func45, Tryz.ntmps45
 go_wp2_with fail
 refine (KP' _).out.mono ?_
 rintro e w1 ⟨rfl, hb1⟩
 have HB1 : Hid (Below w.heap.size w w1 /\ w.heap.size + 1 + 1 <= w1.heap.size) := ⟨(((Below.refl _ _).alloc (Nat.le_refl _) _).alloc (by simp) _).trans (hb1.mono (by simp; omega)), by have := hb1.size; simpa using this⟩
 have hlt : w.heap.size < w1.heap.size := by have := HB1.out.2; omega
 have hlt2 : w.heap.size + 1 < w1.heap.size := by have := HB1.out.2; omega
 have m0 : w1.cell? ⟨w.heap.size, 0, none⟩ = some (.int .u16 id) := (hb1.cell (p := ⟨w.heap.size, 0, none⟩) (by simp; omega)).trans (by simp)
 have g0 : w1.cell? ⟨w.heap.size + 1, 0, none⟩ = some (.int .i64 c0) := (hb1.cell (p := ⟨w.heap.size + 1, 0, none⟩) (by simp)).trans (by simp)
 have g1 : w1.cell? ⟨w.heap.size + 1, 1, none⟩ = some (.int .i64 c1) := (hb1.cell (p := ⟨w.heap.size + 1, 1, none⟩) (by simp)).trans (by simp)
 have g2 : w1.cell? ⟨w.heap.size + 1, 2, none⟩ = some (.int .i64 c2) := (hb1.cell (p := ⟨w.heap.size + 1, 2, none⟩) (by simp)).trans (by simp)
 have g3 : w1.cell? ⟨w.heap.size + 1, 3, none⟩ = some (.int .i64 c3) := (hb1.cell (p := ⟨w.heap.size + 1, 3, none⟩) (by simp)).trans (by simp)
 clear hb1
 go_wp2_with fail
 refine (together_any id F c0 c1 c2 c3 _).mono ?_
 rintro e w2 ⟨rfl, hb2⟩
 have HS2 : Hid (Own w1.heap.size w2 (.slice (some ⟨w1.heap.size, 0, none⟩) 0 12) 0 (List.replicate 12 0) /\ Below w.heap.size w w2 /\ w.heap.size <= w1.heap.size /\ w1.heap.size <= w2.heap.size) := ⟨(make12_own w1 _ (Nat.le_refl _)).below hb2, (HB1.out.1.alloc HB1.out.1.size _).trans (hb2.mono (by have := HB1.out.1.size; simp; omega)), HB1.out.1.size, by have := hb2.size; simp at this; omega⟩
 clear hb2 m0 g0 g1 g2 g3
 go_wp2_with fail
 go_loopw [8, 28] (fun v y wr => ∃ k : Nat, k <= 6 /\ y = .int .i64 (k : Int) /\ Hid (∃ zs, Own w1.heap.size wr v (2 * k) zs /\ zs.length = 12 /\ zs.take (2 * k) = b16s (ns.take k)) /\ Hid (∀ m ∈ ns.take k, okN m) /\ Hid (Below w.heap.size w wr /\ w1.heap.size <= wr.heap.size)) (fun _ y _ => 6 - (intOf y).toNat)
 case atStart => exact ⟨0, by omega, rfl, ⟨_, HS2.out.1, by simp, rfl⟩, by intro m hm; simp at hm, HS2.out.2.1, HS2.out.2.2.2⟩
 case round =>
   obtain ⟨k, hk, rfl, HO, HK, HW⟩ := hrel
   by_cases hlt : k < 6
   · have hlt' : (k : Int) < 6 := by omega
     obtain ⟨m, hm, ix⟩ := IX k hlt
     have HM : Hid (ns[k]? = some m) := hm
     clear hm
     by_cases hok : okN m
     · obtain ⟨zs, hO, hZ, hT⟩ := HO.out
       have hnb : Below wr.heap.size wr (wr.alloc (.cells #[.int .u8 (m / 256), .int .u8 (m % 256)] 5)) := (Below.refl _ _).alloc (Nat.le_refl _) _
       have HO2 : Hid (Own w1.heap.size (wr.alloc (.cells #[.int .u8 (m / 256), .int .u8 (m % 256)] 5)) u8 (2 * k) zs) := hO.below hnb
       have HR2 : Hid (Rd (wr.alloc (.cells #[.int .u8 (m / 256), .int .u8 (m % 256)] 5)) (some ⟨wr.heap.size, 0, none⟩) [m / 256, m % 256]) := two_rd wr m hok
       have HB2 : Hid (Below w.heap.size w (wr.alloc (.cells #[.int .u8 (m / 256), .int .u8 (m % 256)] 5)) /\ w1.heap.size <= (wr.alloc (.cells #[.int .u8 (m / 256), .int .u8 (m % 256)] 5)).heap.size) := ⟨HW.out.1.trans (hnb.mono HW.out.1.size), by have := HW.out.2; simp; omega⟩
       have HT : Hid (zs.length = 12 /\ zs.take (2 * k) = b16s (ns.take k)) := ⟨hZ, hT⟩
       have HKK : Hid (okN m) := hok
       have h0 := hok.1
       have h1 := hok.2
       clear hO hZ hT hok hnb
       go_wp2_with fail
       refine (put16_yes m _ h0 h1).mono ?_
       rintro e w3 ⟨rfl, rfl⟩
       go_wp2_with (at_builtin; refine wpList_append_fitB _ rfl _ _ rfl w1.heap.size _ (2 * k) zs rfl HO2.out (some ⟨wr.heap.size, 0, none⟩) 2 2 [m / 256, m % 256] rfl HR2.out rfl (by omega) HB2.out.2 ?_; intro v' w' ys' hO' hT' hG' hF'; have HB3 : Hid (Below w.heap.size w w' /\ w1.heap.size <= w'.heap.size) := ⟨HB2.out.1.grown hG' HB2.out.1.size (fun g hg => Nat.le_trans HS2.out.2.2.1 (HO2.out.lt g hg)), Nat.le_trans HB2.out.2 hG'.size⟩; clear hG')
       refine ⟨⟨k + 1, by omega, by go_num, ⟨ys', ?_, ?_, ?_⟩, ?_, HB3.out⟩, by simp [intOf]; omega⟩
       · have := hO'.out
         rw [show 2 * (k + 1) = 2 * k + 2 by omega]; exact this
       · rw [hF'.out (by rw [HT.out.1]; omega), HT.out.1]
       · rw [b16s_take ns k m HM.out, <- HT.out.2, <- hT'.out]; rfl
       · intro x hx
         rw [List.take_add_one, HM.out] at hx
         rcases List.mem_append.1 hx with hx | hx
         · exact HK.out x hx
         · simp at hx; subst hx; exact HKK.out
     · have HNK : Hid (¬ ∀ x ∈ ns, okN x) := fun h => hok (h m (List.mem_of_getElem? HM.out))
       have hno : m < 0 ∨ (0 <= m /\ 65535 < m) := by unfold okN at hok; omega
       have HNO : Hid (m < 0 ∨ (0 <= m /\ 65535 < m)) := hno
       clear hno hok
       go_wp2_with fail
       refine (put16_no m _ HNO.out).mono ?_
       rintro e w3 ⟨rfl, rfl⟩
       go_wp2
       go_ret2
       exact ⟨fun h => absurd h HNK.out, fun _ => rfl, HW.out.1⟩
   · obtain rfl : k = 6 := by omega
     obtain ⟨zs, hO, hZ, hT⟩ := HO.out
     have e6 : ns.take 6 = ns := List.take_of_length_le (by rw [HNL.out]; exact Nat.le_refl _)
     rw [e6] at hT
     have HK6 : Hid (∀ x ∈ ns, okN x) := by have := HK.out; rw [e6] at this; exact this
     have hz : zs = b16s ns := by rw [<- hT]; exact (List.take_of_length_le (by rw [hZ]; exact Nat.le_refl _)).symm
     subst hz
     rcases hO with ⟨_, h, _⟩ | ⟨g, hv, hg, hblk, _, _⟩
     · omega
     · rw [hZ] at hv
       subst hv
       have HG : Hid (w.heap.size <= g /\ Blk wr g (b16s ns)) := ⟨Nat.le_trans HS2.out.2.2.1 hg, hblk⟩
       clear hblk hg hT e6 hZ
       go_wp2
       go_ret2
       exact ⟨fun _ => ⟨g, rfl, HG.out.1, HG.out.2⟩, fun h => absurd HK6.out h, HW.out.1⟩
end Go.Proofs.YteplffhfeoephaaGreat
namespace Go.Proofs.YteplffhfeoephaaGreat
open Go.ChangeShapes Go.WideShapes Go.ChangeAt Go.RowKit
theorem nat_and_bit (n k : Nat) : n &&& 2 ^ k = (unfl n (2 ^ k)).toNat * 2 ^ k := by
 have e : unfl n (2 ^ k) = n.testBit k := by
   rw [Nat.testBit_eq_decide_div_mod_eq]; unfold unfl
   rcases Nat.mod_two_eq_zero_or_one (n / 2 ^ k) with h | h <;> simp [h]
 rw [e]
 apply Nat.eq_of_testBit_eq
 intro i
 rw [Nat.testBit_and, Nat.testBit_two_pow]
 by_cases hik : k = i
 · subst hik
   cases h : n.testBit k <;> simp [Nat.testBit_two_pow]
 · cases h : n.testBit k <;> simp [Nat.testBit_two_pow, hik]
theorem and_bit (n k : Nat) (hn : n < 65536) (hk : 2 ^ k < 65536) : bits .and .i64 (n : Int) ((2 ^ k : Nat) : Int) = (((unfl n (2 ^ k)).toNat * 2 ^ k : Nat) : Int) := by
 rw [i64_and_nat _ _ hn hk, nat_and_bit]
theorem and_ne (n k : Nat) (hn : n < 65536) (hk : 2 ^ k < 65536) : (bits .and .i64 (n : Int) ((2 ^ k : Nat) : Int) != 0) = unfl n (2 ^ k) := by
 rw [and_bit n k hn hk]
 have hp : 0 < 2 ^ k := Nat.two_pow_pos k
 cases unfl n (2 ^ k)
 · simp
 · simp only [Bool.toNat_true, Nat.one_mul, bne_iff_ne, ne_eq]
   omega
theorem and_15 (n : Nat) (hn : n < 65536) : bits .and .i64 (n : Int) 15 = ((n % 16 : Nat) : Int) := by
 have := i64_and_nat n 15 hn (by omega)
 rw [show ((15 : Nat) : Int) = 15 from rfl] at this
 rw [this, show 15 = 2 ^ 4 - 1 from rfl, Nat.and_two_pow_sub_one_eq_mod]
def boxU (n k : Nat) : Array Value := #[.int .u16 0, .bool (decide (0 < k) && unfl n 32768), .int .i64 (unop n : Nat), .bool (decide (1 < k) && unfl n 1024), .bool (decide (2 < k) && unfl n 512), .bool (decide (3 < k) && unfl n 256), .bool (decide (4 < k) && unfl n 128), .bool (decide (5 < k) && unfl n 32), .bool (decide (6 < k) && unfl n 16), .int .i64 (unrc n : Nat), .slice none 0 0, .slice none 0 0, .slice none 0 0, .slice none 0 0]
theorem box_step0 (n : Nat) : (boxU n 0).setIfInBounds 1 (.bool (unfl n 32768)) = boxU n (0 + 1) := by simp [boxU]
theorem box_step1 (n : Nat) : (boxU n 1).setIfInBounds 3 (.bool (unfl n 1024)) = boxU n (1 + 1) := by simp [boxU]
theorem box_step2 (n : Nat) : (boxU n 2).setIfInBounds 4 (.bool (unfl n 512)) = boxU n (2 + 1) := by simp [boxU]
theorem box_step3 (n : Nat) : (boxU n 3).setIfInBounds 5 (.bool (unfl n 256)) = boxU n (3 + 1) := by simp [boxU]
theorem box_step4 (n : Nat) : (boxU n 4).setIfInBounds 6 (.bool (unfl n 128)) = boxU n (4 + 1) := by simp [boxU]
theorem box_step5 (n : Nat) : (boxU n 5).setIfInBounds 7 (.bool (unfl n 32)) = boxU n (5 + 1) := by simp [boxU]
theorem box_step6 (n : Nat) : (boxU n 6).setIfInBounds 8 (.bool (unfl n 16)) = boxU n (6 + 1) := by simp [boxU]
theorem upd_block {W : World} {b i : Nat} {cs : Array Value} {ty : TypeId} (h : W.heap[b]? = some (.cells cs ty)) (v : Value) : (W.setCell ⟨b, i, none⟩ v).heap[b]? = some (.cells (cs.setIfInBounds i v) ty) := by
 simp [World.setCell, Array.getElem?_modify, h]
theorem block_lt {W : World} {b : Nat} {o : Obj} (h : W.heap[b]? = some o) : b < W.heap.size := by
 rcases Nat.lt_or_ge b W.heap.size with h1 | h1
 · exact h1
 · rw [Array.getElem?_eq_none h1] at h; cases h
theorem block_alloc {W : World} {b : Nat} {o : Obj} (h : W.heap[b]? = some o) (x : Obj) : (W.alloc x).heap[b]? = some o := (Below.heap_alloc W x b (block_lt h)).trans h
set_option maxHeartbeats 1000000 in
theorem unpack_no (n : Nat) (w : World) (hn : n < 65536) (h6 : unfl n 64 = true) :
   Calls Tryz.prog 156 #[.int .i64 (n : Int)] w fun e w' => e = .returned (.tuple #[.agg #[.int .u16 0, .bool false, .int .i64 0, .bool false, .bool false, .bool false, .bool false, .bool false, .bool false, .int .i64 0, .slice none 0 0, .slice none 0 0, .slice none 0 0, .slice none 0 0], .int .i64 8]) /\ Below w.heap.size w w' := by
 have h := and_ne n 6 hn (by decide)
 rw [show ((2 ^ 6 : Nat) : Int) = 64 from rfl, show 2 ^ 6 = 64 from rfl, h6] at h
 go_enter Tryz.func156, Tryz.ntmps156
 go_wp2
 refine bodyPost_ret (v := .tuple #[.agg #[.int .u16 0, .bool false, .int .i64 0, .bool false, .bool false, .bool false, .bool false, .bool false, .bool false, .int .i64 0, .slice none 0 0, .slice none 0 0, .slice none 0 0, .slice none 0 0], .int .i64 8]) ?_ rfl ⟨rfl, ?_⟩
 · simp [results, Tryz.results156, go_sem]
 · exact (Below.refl _ _).alloc (Nat.le_refl _) _
set_option maxHeartbeats 2000000 in
theorem unpack_ok (n : Nat) (w : World) (hn : n < 65536) (h6 : unfl n 64 = false) :
   Calls Tryz.prog 156 #[.int .i64 (n : Int)] w fun e w' => e = .returned (.tuple #[.agg (boxU n 7), .int .i64 0]) /\ Below w.heap.size w w' := by
 have h := and_ne n 6 hn (by decide)
 rw [show ((2 ^ 6 : Nat) : Int) = 64 from rfl, show 2 ^ 6 = 64 from rfl, h6] at h
 have hop : bits .and .i64 ((n : Int) / 2048) 15 = (unop n : Nat) := by
   have := and_15 (n / 2048) (by omega)
   unfold unop
   rw [<- this]
   rfl
 have hrc : bits .and .i64 (n : Int) 15 = (unrc n : Nat) := and_15 n hn
 have B0 : Hid ((bits .and .i64 (n : Int) 32768 != 0) = unfl n 32768) := and_ne n 15 hn (by decide)
 have B1 : Hid ((bits .and .i64 (n : Int) 1024 != 0) = unfl n 1024) := and_ne n 10 hn (by decide)
 have B2 : Hid ((bits .and .i64 (n : Int) 512 != 0) = unfl n 512) := and_ne n 9 hn (by decide)
 have B3 : Hid ((bits .and .i64 (n : Int) 256 != 0) = unfl n 256) := and_ne n 8 hn (by decide)
 have B4 : Hid ((bits .and .i64 (n : Int) 128 != 0) = unfl n 128) := and_ne n 7 hn (by decide)
 have B5 : Hid ((bits .and .i64 (n : Int) 32 != 0) = unfl n 32) := and_ne n 5 hn (by decide)
 have B6 : Hid ((bits .and .i64 (n : Int) 16 != 0) = unfl n 16) := and_ne n 4 hn (by decide)
 go_enter Tryz.func156, Tryz.ntmps156
 go_wp2_with fail
 refine (flags40 _ _).mono ?_
 rintro e w1 ⟨rfl, hb1⟩
 have HB : Hid (Below w.heap.size w w1) := (((Below.refl _ _).alloc (Nat.le_refl _) _).alloc (by simp) _).trans (hb1.mono (by simp; omega))
 have HX : Hid (w1.heap[w.heap.size + 1]? = some (.cells (boxU n 0) 26)) := by
   refine (hb1.block (w.heap.size + 1) (by simp)).trans ?_
   have := alloc_at (w.alloc (.cells #[.int .u16 0, .bool false, .int .i64 0, .bool false, .bool false, .bool false, .bool false, .bool false, .bool false, .int .i64 0, .slice none 0 0, .slice none 0 0, .slice none 0 0, .slice none 0 0] 26)) (.cells (boxU n 0) 26)
   simp only [World.size_alloc] at this
   exact this
 have HZ : Hid (w1.heap[w.heap.size]? = some (.cells #[.int .u16 0, .bool false, .int .i64 0, .bool false, .bool false, .bool false, .bool false, .bool false, .bool false, .int .i64 0, .slice none 0 0, .slice none 0 0, .slice none 0 0, .slice none 0 0] 26)) := by
   refine (hb1.block w.heap.size (by simp; omega)).trans ?_
   exact block_alloc (alloc_at _ _) _
 clear hb1
 go_wp2_with fail
 go_loopw [18] (fun y wr => ∃ k : Nat, k <= 7 /\ y = .int .i64 (k : Int) /\ Hid (wr.heap[w.heap.size + 1]? = some (.cells (boxU n k) 26)) /\ Hid (wr.heap[w.heap.size]? = some (.cells #[.int .u16 0, .bool false, .int .i64 0, .bool false, .bool false, .bool false, .bool false, .bool false, .bool false, .int .i64 0, .slice none 0 0, .slice none 0 0, .slice none 0 0, .slice none 0 0] 26)) /\ Hid (Below w.heap.size w wr)) (fun y _ => 7 - (intOf y).toNat)
 case atStart => exact ⟨0, by omega, rfl, HX, HZ, HB⟩
 case round =>
   obtain ⟨k, hk, rfl, HX', HZ', HW⟩ := hrel
   have hlt1 : w.heap.size + 1 < wr.heap.size := block_lt HX'.out
   have hlt0 : w.heap.size < wr.heap.size := by omega
   by_cases hlt : k < 7
   · have hlt' : (k : Int) < 7 := by omega
     rcases Nat.lt_or_ge k 1 with hk' | hk'
     · obtain rfl : k = 0 := by omega
       have ix := ix0 (w.heap.size + 1)
       have cc : wr.cell? ⟨w.heap.size + 1, 1, none⟩ = some (.bool false) := cell_of_block HX'.out rfl
       have ff := frozen_of_block (i := 1) HX'.out
       have bb := B0.out
       go_wp2
       go_round
       case rel =>
         refine ⟨0 + 1, by omega, by go_num, ?_, ?_, ?_⟩
         · exact (block_alloc (upd_block HX'.out _) _).trans (by rw [box_step0])
         · exact block_alloc ((Below.heap_setCell wr _ _ _ (by simp)).trans HZ'.out) _
         · exact (HW.out.setCell (p := ⟨_, _, none⟩) (by simp) _).alloc (by simp; omega) _
       case measure => simp [intOf]
     rcases Nat.lt_or_ge k 2 with hk' | hk'
     · obtain rfl : k = 1 := by omega
       have ix := ix1 (w.heap.size + 1)
       have cc : wr.cell? ⟨w.heap.size + 1, 3, none⟩ = some (.bool false) := cell_of_block HX'.out rfl
       have ff := frozen_of_block (i := 3) HX'.out
       have bb := B1.out
       go_wp2
       go_round
       case rel =>
         refine ⟨1 + 1, by omega, by go_num, ?_, ?_, ?_⟩
         · exact (block_alloc (upd_block HX'.out _) _).trans (by rw [box_step1])
         · exact block_alloc ((Below.heap_setCell wr _ _ _ (by simp)).trans HZ'.out) _
         · exact (HW.out.setCell (p := ⟨_, _, none⟩) (by simp) _).alloc (by simp; omega) _
       case measure => simp [intOf]
     rcases Nat.lt_or_ge k 3 with hk' | hk'
     · obtain rfl : k = 2 := by omega
       have ix := ix2 (w.heap.size + 1)
       have cc : wr.cell? ⟨w.heap.size + 1, 4, none⟩ = some (.bool false) := cell_of_block HX'.out rfl
       have ff := frozen_of_block (i := 4) HX'.out
       have bb := B2.out
       go_wp2
       go_round
       case rel =>
         refine ⟨2 + 1, by omega, by go_num, ?_, ?_, ?_⟩
         · exact (block_alloc (upd_block HX'.out _) _).trans (by rw [box_step2])
         · exact block_alloc ((Below.heap_setCell wr _ _ _ (by simp)).trans HZ'.out) _
         · exact (HW.out.setCell (p := ⟨_, _, none⟩) (by simp) _).alloc (by simp; omega) _
       case measure => simp [intOf]
     rcases Nat.lt_or_ge k 4 with hk' | hk'
     · obtain rfl : k = 3 := by omega
       have ix := ix3 (w.heap.size + 1)
       have cc : wr.cell? ⟨w.heap.size + 1, 5, none⟩ = some (.bool false) := cell_of_block HX'.out rfl
       have ff := frozen_of_block (i := 5) HX'.out
       have bb := B3.out
       go_wp2
       go_round
       case rel =>
         refine ⟨3 + 1, by omega, by go_num, ?_, ?_, ?_⟩
         · exact (block_alloc (upd_block HX'.out _) _).trans (by rw [box_step3])
         · exact block_alloc ((Below.heap_setCell wr _ _ _ (by simp)).trans HZ'.out) _
         · exact (HW.out.setCell (p := ⟨_, _, none⟩) (by simp) _).alloc (by simp; omega) _
       case measure => simp [intOf]
     rcases Nat.lt_or_ge k 5 with hk' | hk'
     · obtain rfl : k = 4 := by omega
       have ix := ix4 (w.heap.size + 1)
       have cc : wr.cell? ⟨w.heap.size + 1, 6, none⟩ = some (.bool false) := cell_of_block HX'.out rfl
       have ff := frozen_of_block (i := 6) HX'.out
       have bb := B4.out
       go_wp2
       go_round
       case rel =>
         refine ⟨4 + 1, by omega, by go_num, ?_, ?_, ?_⟩
         · exact (block_alloc (upd_block HX'.out _) _).trans (by rw [box_step4])
         · exact block_alloc ((Below.heap_setCell wr _ _ _ (by simp)).trans HZ'.out) _
         · exact (HW.out.setCell (p := ⟨_, _, none⟩) (by simp) _).alloc (by simp; omega) _
       case measure => simp [intOf]
     rcases Nat.lt_or_ge k 6 with hk' | hk'
     · obtain rfl : k = 5 := by omega
       have ix := ix5 (w.heap.size + 1)
       have cc : wr.cell? ⟨w.heap.size + 1, 7, none⟩ = some (.bool false) := cell_of_block HX'.out rfl
       have ff := frozen_of_block (i := 7) HX'.out
       have bb := B5.out
       go_wp2
       go_round
       case rel =>
         refine ⟨5 + 1, by omega, by go_num, ?_, ?_, ?_⟩
         · exact (block_alloc (upd_block HX'.out _) _).trans (by rw [box_step5])
         · exact block_alloc ((Below.heap_setCell wr _ _ _ (by simp)).trans HZ'.out) _
         · exact (HW.out.setCell (p := ⟨_, _, none⟩) (by simp) _).alloc (by simp; omega) _
       case measure => simp [intOf]
     rcases Nat.lt_or_ge k 7 with hk' | hk'
     · obtain rfl : k = 6 := by omega
       have ix := ix6 (w.heap.size + 1)
       have cc : wr.cell? ⟨w.heap.size + 1, 8, none⟩ = some (.bool false) := cell_of_block HX'.out rfl
       have ff := frozen_of_block (i := 8) HX'.out
       have bb := B6.out
       go_wp2
       go_round
       case rel =>
         refine ⟨6 + 1, by omega, by go_num, ?_, ?_, ?_⟩
         · exact (block_alloc (upd_block HX'.out _) _).trans (by rw [box_step6])
         · exact block_alloc ((Below.heap_setCell wr _ _ _ (by simp)).trans HZ'.out) _
         · exact (HW.out.setCell (p := ⟨_, _, none⟩) (by simp) _).alloc (by simp; omega) _
       case measure => simp [intOf]
     · omega
   · obtain rfl : k = 7 := by omega
     have x0 : wr.cell? ⟨w.heap.size + 1, 0, none⟩ = some (.int .u16 0) := cell_of_block HX'.out rfl
     have x1 : wr.cell? ⟨w.heap.size + 1, 1, none⟩ = some (.bool (unfl n 32768)) := cell_of_block HX'.out rfl
     have x2 : wr.cell? ⟨w.heap.size + 1, 2, none⟩ = some (.int .i64 (unop n : Nat)) := cell_of_block HX'.out rfl
     have x3 : wr.cell? ⟨w.heap.size + 1, 3, none⟩ = some (.bool (unfl n 1024)) := cell_of_block HX'.out rfl
     have x4 : wr.cell? ⟨w.heap.size + 1, 4, none⟩ = some (.bool (unfl n 512)) := cell_of_block HX'.out rfl
     have x5 : wr.cell? ⟨w.heap.size + 1, 5, none⟩ = some (.bool (unfl n 256)) := cell_of_block HX'.out rfl
     have x6 : wr.cell? ⟨w.heap.size + 1, 6, none⟩ = some (.bool (unfl n 128)) := cell_of_block HX'.out rfl
     have x7 : wr.cell? ⟨w.heap.size + 1, 7, none⟩ = some (.bool (unfl n 32)) := cell_of_block HX'.out rfl
     have x8 : wr.cell? ⟨w.heap.size + 1, 8, none⟩ = some (.bool (unfl n 16)) := cell_of_block HX'.out rfl
     have x9 : wr.cell? ⟨w.heap.size + 1, 9, none⟩ = some (.int .i64 (unrc n : Nat)) := cell_of_block HX'.out rfl
     have x10 : wr.cell? ⟨w.heap.size + 1, 10, none⟩ = some (.slice none 0 0) := cell_of_block HX'.out rfl
     have x11 : wr.cell? ⟨w.heap.size + 1, 11, none⟩ = some (.slice none 0 0) := cell_of_block HX'.out rfl
     have x12 : wr.cell? ⟨w.heap.size + 1, 12, none⟩ = some (.slice none 0 0) := cell_of_block HX'.out rfl
     have x13 : wr.cell? ⟨w.heap.size + 1, 13, none⟩ = some (.slice none 0 0) := cell_of_block HX'.out rfl
     have z0 : wr.cell? ⟨w.heap.size, 0, none⟩ = some (.int .u16 0) := cell_of_block HZ'.out rfl
     have f0 := frozen_of_block (i := 0) HZ'.out
     have z1 : wr.cell? ⟨w.heap.size, 1, none⟩ = some (.bool false) := cell_of_block HZ'.out rfl
     have f1 := frozen_of_block (i := 1) HZ'.out
     have z2 : wr.cell? ⟨w.heap.size, 2, none⟩ = some (.int .i64 0) := cell_of_block HZ'.out rfl
     have f2 := frozen_of_block (i := 2) HZ'.out
     have z3 : wr.cell? ⟨w.heap.size, 3, none⟩ = some (.bool false) := cell_of_block HZ'.out rfl
     have f3 := frozen_of_block (i := 3) HZ'.out
     have z4 : wr.cell? ⟨w.heap.size, 4, none⟩ = some (.bool false) := cell_of_block HZ'.out rfl
     have f4 := frozen_of_block (i := 4) HZ'.out
     have z5 : wr.cell? ⟨w.heap.size, 5, none⟩ = some (.bool false) := cell_of_block HZ'.out rfl
     have f5 := frozen_of_block (i := 5) HZ'.out
     have z6 : wr.cell? ⟨w.heap.size, 6, none⟩ = some (.bool false) := cell_of_block HZ'.out rfl
     have f6 := frozen_of_block (i := 6) HZ'.out
     have z7 : wr.cell? ⟨w.heap.size, 7, none⟩ = some (.bool false) := cell_of_block HZ'.out rfl
     have f7 := frozen_of_block (i := 7) HZ'.out
     have z8 : wr.cell? ⟨w.heap.size, 8, none⟩ = some (.bool false) := cell_of_block HZ'.out rfl
     have f8 := frozen_of_block (i := 8) HZ'.out
     have z9 : wr.cell? ⟨w.heap.size, 9, none⟩ = some (.int .i64 0) := cell_of_block HZ'.out rfl
     have f9 := frozen_of_block (i := 9) HZ'.out
     have z10 : wr.cell? ⟨w.heap.size, 10, none⟩ = some (.slice none 0 0) := cell_of_block HZ'.out rfl
     have f10 := frozen_of_block (i := 10) HZ'.out
     have z11 : wr.cell? ⟨w.heap.size, 11, none⟩ = some (.slice none 0 0) := cell_of_block HZ'.out rfl
     have f11 := frozen_of_block (i := 11) HZ'.out
     have z12 : wr.cell? ⟨w.heap.size, 12, none⟩ = some (.slice none 0 0) := cell_of_block HZ'.out rfl
     have f12 := frozen_of_block (i := 12) HZ'.out
     have z13 : wr.cell? ⟨w.heap.size, 13, none⟩ = some (.slice none 0 0) := cell_of_block HZ'.out rfl
     have f13 := frozen_of_block (i := 13) HZ'.out
     go_wp2
     refine bodyPost_ret (v := .tuple #[.agg #[.int .u16 0, .bool (unfl n 32768), .int .i64 (unop n : Nat), .bool (unfl n 1024), .bool (unfl n 512), .bool (unfl n 256), .bool (unfl n 128), .bool (unfl n 32), .bool (unfl n 16), .int .i64 (unrc n : Nat), .slice none 0 0, .slice none 0 0, .slice none 0 0, .slice none 0 0], .int .i64 0]) ?_ rfl ⟨rfl, ?_⟩
     · simp [results, Tryz.results156, go_sem, hlt0, z0, z1, z2, z3, z4, z5, z6, z7, z8, z9, z10, z11, z12, z13]
     · iterate 14 refine Below.setCell ?_ (by simp) _
       exact HW.out
end Go.Proofs.YteplffhfeoephaaGreat
namespace Go.Proofs.YteplffhfeoephaaGreat
open Go.ChangeShapes Go.WideShapes Go.ChangeAt Go.RowKit
def nv (zs : List Int) (j : Nat) : Nat := (val ((zs.drop (2 * j)).take 2)).toNat
theorem nv_val {zs : List Int} (h : ∀ z ∈ zs, 0 <= z /\ z <= 255) (j : Nat) : val ((zs.drop (2 * j)).take 2) = (nv zs j : Int) /\ nv zs j < 65536 := by
 have hb : ∀ z ∈ (zs.drop (2 * j)).take 2, 0 <= z /\ z <= 255 := fun z hz => h z (List.mem_of_mem_drop (List.mem_of_mem_take hz))
 have h1 := val_bd _ hb
 have h2 : ((zs.drop (2 * j)).take 2).length <= 2 := by simp; omega
 have h3 : (256 : Int) ^ ((zs.drop (2 * j)).take 2).length <= 65536 := by
   generalize ((zs.drop (2 * j)).take 2).length = l at h2 ⊢
   match l, h2 with
   | 0, _ => decide
   | 1, _ => decide
   | 2, _ => decide
   | l + 3, h => omega
 unfold nv
 omega
def rowU (zs : List Int) (k : Nat) : Array Value := #[.int .i64 (if 0 < k then (nv zs 0 : Int) else 0), .int .i64 (if 1 < k then (nv zs 1 : Int) else 0), .int .i64 (if 2 < k then (nv zs 2 : Int) else 0), .int .i64 (if 3 < k then (nv zs 3 : Int) else 0), .int .i64 (if 4 < k then (nv zs 4 : Int) else 0), .int .i64 (if 5 < k then (nv zs 5 : Int) else 0)]
theorem row_step (zs : List Int) (k : Nat) (hk : k < 6) : (rowU zs k).setIfInBounds k (.int .i64 (nv zs k : Int)) = rowU zs (k + 1) := by
 match k, hk with
 | 0, _ => simp [rowU]
 | 1, _ => simp [rowU]
 | 2, _ => simp [rowU]
 | 3, _ => simp [rowU]
 | 4, _ => simp [rowU]
 | 5, _ => simp [rowU]
 | k + 6, h => omega
theorem row_at (zs : List Int) (k : Nat) (hk : k < 6) : ∃ v, (rowU zs k)[k]? = some (.int .i64 v) := by
 match k, hk with
 | 0, _ => exact ⟨_, rfl⟩
 | 1, _ => exact ⟨_, rfl⟩
 | 2, _ => exact ⟨_, rfl⟩
 | 3, _ => exact ⟨_, rfl⟩
 | 4, _ => exact ⟨_, rfl⟩
 | 5, _ => exact ⟨_, rfl⟩
 | k + 6, h => omega
def zeroM : Array Value := #[.int .u16 0, .bool false, .int .i64 0, .bool false, .bool false, .bool false, .bool false, .bool false, .bool false, .int .i64 0, .slice none 0 0, .slice none 0 0, .slice none 0 0, .slice none 0 0]
structure Bx (w wr : World) (zs : List Int) (k : Nat) : Prop where
 m : wr.heap[w.heap.size]? = some (.cells zeroM 26)
 c : wr.heap[w.heap.size + 1]? = some (.cells #[.int .i64 0, .int .i64 0, .int .i64 0, .int .i64 0] 74)
 n : wr.heap[w.heap.size + 1 + 1]? = some (.cells (rowU zs k) 133)
 b : Below w.heap.size w wr
theorem Bx.start (w : World) (zs : List Int) : Bx w (((w.alloc (.cells zeroM 26)).alloc (.cells #[.int .i64 0, .int .i64 0, .int .i64 0, .int .i64 0] 74)).alloc (.cells (rowU zs 0) 133)) zs 0 := by
 obtain ⟨h1, h2, h3⟩ := alloc3 w (.cells zeroM 26) (.cells #[.int .i64 0, .int .i64 0, .int .i64 0, .int .i64 0] 74) (.cells (rowU zs 0) 133)
 exact ⟨h1, h2, h3, (((Below.refl _ _).alloc (Nat.le_refl _) _).alloc (by simp) _).alloc (by simp; omega) _⟩
theorem Bx.step {w wr : World} {zs : List Int} {k : Nat} (h : Bx w wr zs k) (hk : k < 6) : Bx w (wr.setCell ⟨w.heap.size + 1 + 1, k, none⟩ (.int .i64 (nv zs k : Int))) zs (k + 1) :=
 ⟨(Below.heap_setCell wr _ _ _ (by simp; omega)).trans h.m, (Below.heap_setCell wr _ _ _ (by simp)).trans h.c, (upd_block h.n _).trans (by rw [row_step zs k hk]), h.b.setCell (p := ⟨_, _, none⟩) (by simp; omega) _⟩
def msgU (I F : Nat) : Array Value := #[.int .u16 (I : Int), .bool (unfl F 32768), .int .i64 (unop F : Nat), .bool (unfl F 1024), .bool (unfl F 512), .bool (unfl F 256), .bool (unfl F 128), .bool (unfl F 32), .bool (unfl F 16), .int .i64 (unrc F : Nat), .slice none 0 0, .slice none 0 0, .slice none 0 0, .slice none 0 0]
def RdPost (w : World) (zs : List Int) (e : Ending) (w' : World) : Prop :=
 ((zs.length < 12 ∨ unfl (nv zs 1) 64 = true) -> e = .returned (.tuple #[.agg zeroM, .agg #[.int .i64 0, .int .i64 0, .int .i64 0, .int .i64 0], .int .i64 8])) /\
 (¬ (zs.length < 12 ∨ unfl (nv zs 1) 64 = true) -> e = .returned (.tuple #[.agg (msgU (nv zs 0) (nv zs 1)), .agg #[.int .i64 (nv zs 2 : Int), .int .i64 (nv zs 3 : Int), .int .i64 (nv zs 4 : Int), .int .i64 (nv zs 5 : Int)], .int .i64 0])) /\ Below w.heap.size w w'
set_option maxHeartbeats 4000000 in
theorem read18 (a : Option Addr) (len cap : Nat) (zs : List Int) (w : World) (hr : Rd w a zs) (hl : zs.length = len) (hc : len <= cap) (hm : cap <= 9223372036854775807) :
   Calls Tryz.prog 135 #[.slice a len cap] w fun e w' => RdPost w zs e w' := by
 have HL : Hid (zs.length = len) := hl
 have HR : Hid (Rd w a zs) := hr
 clear hl hr
 go_enter Tryz.func135, Tryz.ntmps135
 go_wp2_with fail
 go_loopw [12] (fun y wr => ∃ k : Nat, k <= 6 /\ 2 * k <= len /\ y = .int .i64 (k : Int) /\ Hid (Bx w wr zs k)) (fun y _ => 6 - (intOf y).toNat)
 case atStart => exact ⟨0, by omega, by omega, rfl, Bx.start w zs⟩
 case round =>
   obtain ⟨k, hk, hkl, rfl, HX⟩ := hrel
   have hlt0 : w.heap.size < wr.heap.size := block_lt HX.out.m
   have hlt1 : w.heap.size + 1 < wr.heap.size := block_lt HX.out.c
   have hlt2 : w.heap.size + 1 + 1 < wr.heap.size := block_lt HX.out.n
   by_cases hk6 : k < 6
   · have hlt' : (k : Int) < 6 := by omega
     by_cases h2 : 2 * k + 2 <= len
     · have KU := u16_yes a len cap (2 * k) zs wr (HR.out.below HX.out.b) HL.out hc hm h2
       rw [(nv_val HR.out.2 k).1] at KU
       have KU' : Hid (Calls Tryz.prog 155 _ wr _) := KU
       obtain ⟨v, hv⟩ := row_at zs k (by omega)
       have cc : wr.cell? ⟨w.heap.size + 1 + 1, k, none⟩ = some (.int .i64 v) := cell_of_block HX.out.n hv
       have ff := frozen_of_block (i := k) HX.out.n
       have HN := fun (N : Nat) (h : N = nv zs k) => (h ▸ HX.out.step hk6 : Bx w (wr.setCell ⟨w.heap.size + 1 + 1, k, none⟩ (.int .i64 (N : Int))) zs (k + 1))
       have HN' : ∀ N : Nat, N = nv zs k -> Hid (Bx w (wr.setCell ⟨w.heap.size + 1 + 1, k, none⟩ (.int .i64 (N : Int))) zs (k + 1)) := HN
       clear KU hv HN
       obtain ⟨N, hN⟩ : ∃ N, N = nv zs k := ⟨_, rfl⟩
       rw [<- hN] at KU'
       have HB := HN' N hN
       clear HN' hN
       go_wp2_with fail
       refine KU'.out.mono ?_
       rintro e w3 ⟨rfl, rfl⟩
       go_wp2
       go_round
       case rel => exact ⟨k + 1, by omega, by omega, by go_num, HB⟩
       case measure => simp [intOf]; omega
     · have KU : Hid (Calls Tryz.prog 155 _ wr _) := u16_no a len cap (2 * k : Nat) wr hc hm (by omega)
       have HS : Hid (zs.length < 12) := by show zs.length < 12; rw [HL.out]; omega
       have z0 : wr.cell? ⟨w.heap.size, 0, none⟩ = some (.int .u16 0) := cell_of_block HX.out.m rfl
       have z1 : wr.cell? ⟨w.heap.size, 1, none⟩ = some (.bool false) := cell_of_block HX.out.m rfl
       have z2 : wr.cell? ⟨w.heap.size, 2, none⟩ = some (.int .i64 0) := cell_of_block HX.out.m rfl
       have z3 : wr.cell? ⟨w.heap.size, 3, none⟩ = some (.bool false) := cell_of_block HX.out.m rfl
       have z4 : wr.cell? ⟨w.heap.size, 4, none⟩ = some (.bool false) := cell_of_block HX.out.m rfl
       have z5 : wr.cell? ⟨w.heap.size, 5, none⟩ = some (.bool false) := cell_of_block HX.out.m rfl
       have z6 : wr.cell? ⟨w.heap.size, 6, none⟩ = some (.bool false) := cell_of_block HX.out.m rfl
       have z7 : wr.cell? ⟨w.heap.size, 7, none⟩ = some (.bool false) := cell_of_block HX.out.m rfl
       have z8 : wr.cell? ⟨w.heap.size, 8, none⟩ = some (.bool false) := cell_of_block HX.out.m rfl
       have z9 : wr.cell? ⟨w.heap.size, 9, none⟩ = some (.int .i64 0) := cell_of_block HX.out.m rfl
       have z10 : wr.cell? ⟨w.heap.size, 10, none⟩ = some (.slice none 0 0) := cell_of_block HX.out.m rfl
       have z11 : wr.cell? ⟨w.heap.size, 11, none⟩ = some (.slice none 0 0) := cell_of_block HX.out.m rfl
       have z12 : wr.cell? ⟨w.heap.size, 12, none⟩ = some (.slice none 0 0) := cell_of_block HX.out.m rfl
       have z13 : wr.cell? ⟨w.heap.size, 13, none⟩ = some (.slice none 0 0) := cell_of_block HX.out.m rfl
       have f0 : wr.frozen? ⟨w.heap.size, 0, none⟩ = false := frozen_of_block HX.out.m
       have f1 : wr.frozen? ⟨w.heap.size, 1, none⟩ = false := frozen_of_block HX.out.m
       have f2 : wr.frozen? ⟨w.heap.size, 2, none⟩ = false := frozen_of_block HX.out.m
       have f3 : wr.frozen? ⟨w.heap.size, 3, none⟩ = false := frozen_of_block HX.out.m
       have f4 : wr.frozen? ⟨w.heap.size, 4, none⟩ = false := frozen_of_block HX.out.m
       have f5 : wr.frozen? ⟨w.heap.size, 5, none⟩ = false := frozen_of_block HX.out.m
       have f6 : wr.frozen? ⟨w.heap.size, 6, none⟩ = false := frozen_of_block HX.out.m
       have f7 : wr.frozen? ⟨w.heap.size, 7, none⟩ = false := frozen_of_block HX.out.m
       have f8 : wr.frozen? ⟨w.heap.size, 8, none⟩ = false := frozen_of_block HX.out.m
       have f9 : wr.frozen? ⟨w.heap.size, 9, none⟩ = false := frozen_of_block HX.out.m
       have f10 : wr.frozen? ⟨w.heap.size, 10, none⟩ = false := frozen_of_block HX.out.m
       have f11 : wr.frozen? ⟨w.heap.size, 11, none⟩ = false := frozen_of_block HX.out.m
       have f12 : wr.frozen? ⟨w.heap.size, 12, none⟩ = false := frozen_of_block HX.out.m
       have f13 : wr.frozen? ⟨w.heap.size, 13, none⟩ = false := frozen_of_block HX.out.m
       have y0 : wr.cell? ⟨w.heap.size + 1, 0, none⟩ = some (.int .i64 0) := cell_of_block HX.out.c rfl
       have y1 : wr.cell? ⟨w.heap.size + 1, 1, none⟩ = some (.int .i64 0) := cell_of_block HX.out.c rfl
       have y2 : wr.cell? ⟨w.heap.size + 1, 2, none⟩ = some (.int .i64 0) := cell_of_block HX.out.c rfl
       have y3 : wr.cell? ⟨w.heap.size + 1, 3, none⟩ = some (.int .i64 0) := cell_of_block HX.out.c rfl
       have g0 : wr.frozen? ⟨w.heap.size + 1, 0, none⟩ = false := frozen_of_block HX.out.c
       have g1 : wr.frozen? ⟨w.heap.size + 1, 1, none⟩ = false := frozen_of_block HX.out.c
       have g2 : wr.frozen? ⟨w.heap.size + 1, 2, none⟩ = false := frozen_of_block HX.out.c
       have g3 : wr.frozen? ⟨w.heap.size + 1, 3, none⟩ = false := frozen_of_block HX.out.c
       go_wp2_with fail
       refine KU.out.mono ?_
       rintro e w3 ⟨rfl, rfl⟩
       go_wp2
       refine bodyPost_ret (v := .tuple #[.agg #[.int .u16 0, .bool false, .int .i64 0, .bool false, .bool false, .bool false, .bool false, .bool false, .bool false, .int .i64 0, .slice none 0 0, .slice none 0 0, .slice none 0 0, .slice none 0 0], .agg #[.int .i64 0, .int .i64 0, .int .i64 0, .int .i64 0], .int .i64 8]) ?_ rfl ⟨fun _ => rfl, fun h => absurd (.inl HS.out) h, ?_⟩
       · simp [results, Tryz.results135, go_sem, hlt0, hlt1, z0, z1, z2, z3, z4, z5, z6, z7, z8, z9, z10, z11, z12, z13, y0, y1, y2, y3]
       · iterate 18 refine Below.setCell ?_ (by simp) _
         exact HX.out.b
   · obtain rfl : k = 6 := by omega
     have HE : Hid (¬ zs.length < 12) := by show ¬ zs.length < 12; rw [HL.out]; omega
     have hn := HX.out.n
     have b0 := (nv_val HR.out.2 0).2
     have b1 := (nv_val HR.out.2 1).2
     have b2 := (nv_val HR.out.2 2).2
     have b3 := (nv_val HR.out.2 3).2
     have b4 := (nv_val HR.out.2 4).2
     have b5 := (nv_val HR.out.2 5).2
     have HP : Hid (∀ e w', ((unfl (nv zs 1) 64 = true -> e = .returned (.tuple #[.agg zeroM, .agg #[.int .i64 0, .int .i64 0, .int .i64 0, .int .i64 0], .int .i64 8])) /\ (unfl (nv zs 1) 64 = false -> e = .returned (.tuple #[.agg (msgU (nv zs 0) (nv zs 1)), .agg #[.int .i64 (nv zs 2 : Int), .int .i64 (nv zs 3 : Int), .int .i64 (nv zs 4 : Int), .int .i64 (nv zs 5 : Int)], .int .i64 0])) /\ Below w.heap.size w w') -> RdPost w zs e w') := by
       intro e w' ⟨h1, h2, h3⟩
       refine ⟨fun h => h1 (h.resolve_left HE.out), fun h => h2 ?_, h3⟩
       cases hq : unfl (nv zs 1) 64
       · rfl
       · exact absurd (.inr hq) h
     have HM : Hid (wr.heap[w.heap.size]? = some (.cells zeroM 26) /\ wr.heap[w.heap.size + 1]? = some (.cells #[.int .i64 0, .int .i64 0, .int .i64 0, .int .i64 0] 74) /\ Below w.heap.size w wr) := ⟨HX.out.m, HX.out.c, HX.out.b⟩
     have HN : Hid (wr.heap[w.heap.size + 1 + 1]? = some (.cells #[.int .i64 (nv zs 0 : Int), .int .i64 (nv zs 1 : Int), .int .i64 (nv zs 2 : Int), .int .i64 (nv zs 3 : Int), .int .i64 (nv zs 4 : Int), .int .i64 (nv zs 5 : Int)] 133)) := hn
     clear hn HX
     generalize nv zs 0 = I at *
     generalize nv zs 1 = F at *
     generalize nv zs 2 = C0 at *
     generalize nv zs 3 = C1 at *
     generalize nv zs 4 = C2 at *
     generalize nv zs 5 = C3 at *
     have n0 : wr.cell? ⟨w.heap.size + 1 + 1, 0, none⟩ = some (.int .i64 (I : Int)) := cell_of_block HN.out rfl
     have n1 : wr.cell? ⟨w.heap.size + 1 + 1, 1, none⟩ = some (.int .i64 (F : Int)) := cell_of_block HN.out rfl
     have n2 : wr.cell? ⟨w.heap.size + 1 + 1, 2, none⟩ = some (.int .i64 (C0 : Int)) := cell_of_block HN.out rfl
     have n3 : wr.cell? ⟨w.heap.size + 1 + 1, 3, none⟩ = some (.int .i64 (C1 : Int)) := cell_of_block HN.out rfl
     have n4 : wr.cell? ⟨w.heap.size + 1 + 1, 4, none⟩ = some (.int .i64 (C2 : Int)) := cell_of_block HN.out rfl
     have n5 : wr.cell? ⟨w.heap.size + 1 + 1, 5, none⟩ = some (.int .i64 (C3 : Int)) := cell_of_block HN.out rfl
     cases h6 : unfl F 64
     · have KP : Hid (Calls Tryz.prog 156 #[.int .i64 (F : Int)] wr fun e w' => e = .returned (.tuple #[.agg #[.int .u16 0, .bool (unfl F 32768), .int .i64 (unop F : Nat), .bool (unfl F 1024), .bool (unfl F 512), .bool (unfl F 256), .bool (unfl F 128), .bool (unfl F 32), .bool (unfl F 16), .int .i64 (unrc F : Nat), .slice none 0 0, .slice none 0 0, .slice none 0 0, .slice none 0 0], .int .i64 0]) /\ Below wr.heap.size wr w') := unpack_ok F wr b1 h6
       go_wp2_with fail
       refine KP.out.mono ?_
       rintro e w3 ⟨rfl, hb3⟩
       have hsz := hb3.size
       have g0 := Nat.lt_of_lt_of_le hlt0 hsz
       have g1 := Nat.lt_of_lt_of_le hlt1 hsz
       have g2 := Nat.lt_of_lt_of_le hlt2 hsz
       have n0 : w3.cell? ⟨w.heap.size + 1 + 1, 0, none⟩ = some (.int .i64 (I : Int)) := (hb3.cell (p := ⟨_, _, none⟩) hlt2).trans n0
       have HB3 : Hid (Below wr.heap.size wr w3) := hb3
       have hmod : (I : Int) % 65536 = I := by omega
       have M3 := (hb3.block _ hlt0).trans HM.out.1
       have C3' := (hb3.block _ hlt1).trans HM.out.2.1
       have N3 := (hb3.block _ hlt2).trans HN.out
       have HB4 : Hid (Below w.heap.size w w3) := HM.out.2.2.trans (hb3.mono HM.out.2.2.size)
       obtain ⟨W2, hcopy, hM2, hC2, hR2, hS2, hlt5, hb5⟩ : ∃ W2, (Builtin.copy_ #[175, 175] 3 #[.slice (some ⟨w3.heap.size + 1, 0, none⟩) 4 4, .slice (some ⟨w.heap.size + 1 + 1, 2, none⟩) 4 4]).run Tryz.prog (((w3.alloc (.cells #[.int .u16 (I : Int), .bool (unfl F 32768), .int .i64 (unop F : Nat), .bool (unfl F 1024), .bool (unfl F 512), .bool (unfl F 256), .bool (unfl F 128), .bool (unfl F 32), .bool (unfl F 16), .int .i64 (unrc F : Nat), .slice none 0 0, .slice none 0 0, .slice none 0 0, .slice none 0 0] 26)).alloc (.cells #[.int .i64 0, .int .i64 0, .int .i64 0, .int .i64 0] 74)).drew) = .ok (.int .i64 4) W2 /\
           Hid (W2.heap[w3.heap.size]? = some (.cells #[.int .u16 (I : Int), .bool (unfl F 32768), .int .i64 (unop F : Nat), .bool (unfl F 1024), .bool (unfl F 512), .bool (unfl F 256), .bool (unfl F 128), .bool (unfl F 32), .bool (unfl F 16), .int .i64 (unrc F : Nat), .slice none 0 0, .slice none 0 0, .slice none 0 0, .slice none 0 0] 26)) /\ Hid (W2.heap[w3.heap.size + 1]? = some (.cells #[.int .i64 (C0 : Int), .int .i64 (C1 : Int), .int .i64 (C2 : Int), .int .i64 (C3 : Int)] 74)) /\ Hid (W2.heap[w.heap.size]? = some (.cells zeroM 26)) /\ Hid (W2.heap[w.heap.size + 1]? = some (.cells #[.int .i64 0, .int .i64 0, .int .i64 0, .int .i64 0] 74)) /\ w3.heap.size + 1 < W2.heap.size /\ Hid (Below w.heap.size w W2) := by
         have hbb : Below w3.heap.size w3 (((w3.alloc (.cells #[.int .u16 (I : Int), .bool (unfl F 32768), .int .i64 (unop F : Nat), .bool (unfl F 1024), .bool (unfl F 512), .bool (unfl F 256), .bool (unfl F 128), .bool (unfl F 32), .bool (unfl F 16), .int .i64 (unrc F : Nat), .slice none 0 0, .slice none 0 0, .slice none 0 0, .slice none 0 0] 26)).alloc (.cells #[.int .i64 0, .int .i64 0, .int .i64 0, .int .i64 0] 74)).drew) := (((Below.refl _ _).alloc (Nat.le_refl _) _).alloc (by simp) _).drew
         have hD : (((w3.alloc (.cells #[.int .u16 (I : Int), .bool (unfl F 32768), .int .i64 (unop F : Nat), .bool (unfl F 1024), .bool (unfl F 512), .bool (unfl F 256), .bool (unfl F 128), .bool (unfl F 32), .bool (unfl F 16), .int .i64 (unrc F : Nat), .slice none 0 0, .slice none 0 0, .slice none 0 0, .slice none 0 0] 26)).alloc (.cells #[.int .i64 0, .int .i64 0, .int .i64 0, .int .i64 0] 74)).drew).heap[w3.heap.size + 1]? = some (.cells #[.int .i64 0, .int .i64 0, .int .i64 0, .int .i64 0] 74) := by
           have := alloc_at (w3.alloc (.cells #[.int .u16 (I : Int), .bool (unfl F 32768), .int .i64 (unop F : Nat), .bool (unfl F 1024), .bool (unfl F 512), .bool (unfl F 256), .bool (unfl F 128), .bool (unfl F 32), .bool (unfl F 16), .int .i64 (unrc F : Nat), .slice none 0 0, .slice none 0 0, .slice none 0 0, .slice none 0 0] 26)) (.cells #[.int .i64 0, .int .i64 0, .int .i64 0, .int .i64 0] 74)
           simp only [World.size_alloc] at this
           exact this
         have hN5 := (hbb.block _ g2).trans N3
         refine ⟨_, copy_out _ _ _ 0 0 0 0 C0 C1 C2 C3 hD (cell_of_block hN5 rfl) (cell_of_block hN5 rfl) (cell_of_block hN5 rfl) (cell_of_block hN5 rfl), ?_, setRow_block hD _, ?_, ?_, ?_, ?_⟩
         · show _ = _
           rw [setRow_other _ _ _ _ (by omega)]
           exact block_alloc (alloc_at _ _) _
         · show _ = _
           rw [setRow_other _ _ _ _ (by omega)]
           exact (hbb.block _ g0).trans M3
         · show _ = _
           rw [setRow_other _ _ _ _ (by omega)]
           exact (hbb.block _ g1).trans C3'
         · rw [setRow_size]; exact block_lt hD
         · exact below_setRow (HB4.out.trans (hbb.mono HB4.out.size)) (by have := HB4.out.size; omega) _
       have hlt4 : w3.heap.size < W2.heap.size := by omega
       have k0 : w.heap.size < W2.heap.size := by omega
       have k1 : w.heap.size + 1 < W2.heap.size := by omega
       have x0 : W2.cell? ⟨w3.heap.size, 0, none⟩ = some (.int .u16 (I : Int)) := cell_of_block hM2.out rfl
       have x1 : W2.cell? ⟨w3.heap.size, 1, none⟩ = some (.bool (unfl F 32768)) := cell_of_block hM2.out rfl
       have x2 : W2.cell? ⟨w3.heap.size, 2, none⟩ = some (.int .i64 (unop F : Nat)) := cell_of_block hM2.out rfl
       have x3 : W2.cell? ⟨w3.heap.size, 3, none⟩ = some (.bool (unfl F 1024)) := cell_of_block hM2.out rfl
       have x4 : W2.cell? ⟨w3.heap.size, 4, none⟩ = some (.bool (unfl F 512)) := cell_of_block hM2.out rfl
       have x5 : W2.cell? ⟨w3.heap.size, 5, none⟩ = some (.bool (unfl F 256)) := cell_of_block hM2.out rfl
       have x6 : W2.cell? ⟨w3.heap.size, 6, none⟩ = some (.bool (unfl F 128)) := cell_of_block hM2.out rfl
       have x7 : W2.cell? ⟨w3.heap.size, 7, none⟩ = some (.bool (unfl F 32)) := cell_of_block hM2.out rfl
       have x8 : W2.cell? ⟨w3.heap.size, 8, none⟩ = some (.bool (unfl F 16)) := cell_of_block hM2.out rfl
       have x9 : W2.cell? ⟨w3.heap.size, 9, none⟩ = some (.int .i64 (unrc F : Nat)) := cell_of_block hM2.out rfl
       have x10 : W2.cell? ⟨w3.heap.size, 10, none⟩ = some (.slice none 0 0) := cell_of_block hM2.out rfl
       have x11 : W2.cell? ⟨w3.heap.size, 11, none⟩ = some (.slice none 0 0) := cell_of_block hM2.out rfl
       have x12 : W2.cell? ⟨w3.heap.size, 12, none⟩ = some (.slice none 0 0) := cell_of_block hM2.out rfl
       have x13 : W2.cell? ⟨w3.heap.size, 13, none⟩ = some (.slice none 0 0) := cell_of_block hM2.out rfl
       have t0 : W2.cell? ⟨w3.heap.size + 1, 0, none⟩ = some (.int .i64 (C0 : Int)) := cell_of_block hC2.out rfl
       have t1 : W2.cell? ⟨w3.heap.size + 1, 1, none⟩ = some (.int .i64 (C1 : Int)) := cell_of_block hC2.out rfl
       have t2 : W2.cell? ⟨w3.heap.size + 1, 2, none⟩ = some (.int .i64 (C2 : Int)) := cell_of_block hC2.out rfl
       have t3 : W2.cell? ⟨w3.heap.size + 1, 3, none⟩ = some (.int .i64 (C3 : Int)) := cell_of_block hC2.out rfl
       have z0 : W2.cell? ⟨w.heap.size, 0, none⟩ = some (.int .u16 0) := cell_of_block hR2.out rfl
       have z1 : W2.cell? ⟨w.heap.size, 1, none⟩ = some (.bool false) := cell_of_block hR2.out rfl
       have z2 : W2.cell? ⟨w.heap.size, 2, none⟩ = some (.int .i64 0) := cell_of_block hR2.out rfl
       have z3 : W2.cell? ⟨w.heap.size, 3, none⟩ = some (.bool false) := cell_of_block hR2.out rfl
       have z4 : W2.cell? ⟨w.heap.size, 4, none⟩ = some (.bool false) := cell_of_block hR2.out rfl
       have z5 : W2.cell? ⟨w.heap.size, 5, none⟩ = some (.bool false) := cell_of_block hR2.out rfl
       have z6 : W2.cell? ⟨w.heap.size, 6, none⟩ = some (.bool false) := cell_of_block hR2.out rfl
       have z7 : W2.cell? ⟨w.heap.size, 7, none⟩ = some (.bool false) := cell_of_block hR2.out rfl
       have z8 : W2.cell? ⟨w.heap.size, 8, none⟩ = some (.bool false) := cell_of_block hR2.out rfl
       have z9 : W2.cell? ⟨w.heap.size, 9, none⟩ = some (.int .i64 0) := cell_of_block hR2.out rfl
       have z10 : W2.cell? ⟨w.heap.size, 10, none⟩ = some (.slice none 0 0) := cell_of_block hR2.out rfl
       have z11 : W2.cell? ⟨w.heap.size, 11, none⟩ = some (.slice none 0 0) := cell_of_block hR2.out rfl
       have z12 : W2.cell? ⟨w.heap.size, 12, none⟩ = some (.slice none 0 0) := cell_of_block hR2.out rfl
       have z13 : W2.cell? ⟨w.heap.size, 13, none⟩ = some (.slice none 0 0) := cell_of_block hR2.out rfl
       have f0 : W2.frozen? ⟨w.heap.size, 0, none⟩ = false := frozen_of_block hR2.out
       have f1 : W2.frozen? ⟨w.heap.size, 1, none⟩ = false := frozen_of_block hR2.out
       have f2 : W2.frozen? ⟨w.heap.size, 2, none⟩ = false := frozen_of_block hR2.out
       have f3 : W2.frozen? ⟨w.heap.size, 3, none⟩ = false := frozen_of_block hR2.out
       have f4 : W2.frozen? ⟨w.heap.size, 4, none⟩ = false := frozen_of_block hR2.out
       have f5 : W2.frozen? ⟨w.heap.size, 5, none⟩ = false := frozen_of_block hR2.out
       have f6 : W2.frozen? ⟨w.heap.size, 6, none⟩ = false := frozen_of_block hR2.out
       have f7 : W2.frozen? ⟨w.heap.size, 7, none⟩ = false := frozen_of_block hR2.out
       have f8 : W2.frozen? ⟨w.heap.size, 8, none⟩ = false := frozen_of_block hR2.out
       have f9 : W2.frozen? ⟨w.heap.size, 9, none⟩ = false := frozen_of_block hR2.out
       have f10 : W2.frozen? ⟨w.heap.size, 10, none⟩ = false := frozen_of_block hR2.out
       have f11 : W2.frozen? ⟨w.heap.size, 11, none⟩ = false := frozen_of_block hR2.out
       have f12 : W2.frozen? ⟨w.heap.size, 12, none⟩ = false := frozen_of_block hR2.out
       have f13 : W2.frozen? ⟨w.heap.size, 13, none⟩ = false := frozen_of_block hR2.out
       have y0 : W2.cell? ⟨w.heap.size + 1, 0, none⟩ = some (.int .i64 0) := cell_of_block hS2.out rfl
       have y1 : W2.cell? ⟨w.heap.size + 1, 1, none⟩ = some (.int .i64 0) := cell_of_block hS2.out rfl
       have y2 : W2.cell? ⟨w.heap.size + 1, 2, none⟩ = some (.int .i64 0) := cell_of_block hS2.out rfl
       have y3 : W2.cell? ⟨w.heap.size + 1, 3, none⟩ = some (.int .i64 0) := cell_of_block hS2.out rfl
       have q0 : W2.frozen? ⟨w.heap.size + 1, 0, none⟩ = false := frozen_of_block hS2.out
       have q1 : W2.frozen? ⟨w.heap.size + 1, 1, none⟩ = false := frozen_of_block hS2.out
       have q2 : W2.frozen? ⟨w.heap.size + 1, 2, none⟩ = false := frozen_of_block hS2.out
       have q3 : W2.frozen? ⟨w.heap.size + 1, 3, none⟩ = false := frozen_of_block hS2.out
       clear hb3 hsz M3 C3' N3
       go_wp2_with fail
       go_region
       go_wp2_with fail
       go_region
       all_goals go_wp2_with fail
       refine bodyPost_ret (v := .tuple #[.agg #[.int .u16 (I : Int), .bool (unfl F 32768), .int .i64 (unop F : Nat), .bool (unfl F 1024), .bool (unfl F 512), .bool (unfl F 256), .bool (unfl F 128), .bool (unfl F 32), .bool (unfl F 16), .int .i64 (unrc F : Nat), .slice none 0 0, .slice none 0 0, .slice none 0 0, .slice none 0 0], .agg #[.int .i64 (C0 : Int), .int .i64 (C1 : Int), .int .i64 (C2 : Int), .int .i64 (C3 : Int)], .int .i64 0]) ?_ rfl (HP.out _ _ ⟨(fun h => by rw [h6] at h; cases h), fun _ => rfl, ?_⟩)
       · simp [results, Tryz.results135, go_sem, k0, k1, z0, z1, z2, z3, z4, z5, z6, z7, z8, z9, z10, z11, z12, z13, y0, y1, y2, y3]
       · refine Below.drew ?_
         iterate 18 refine Below.setCell ?_ (by simp) _
         exact hb5.out
     · have KP : Hid (Calls Tryz.prog 156 _ wr _) := unpack_no F wr b1 h6
       go_wp2_with fail
       refine KP.out.mono ?_
       rintro e w3 ⟨rfl, hb3⟩
       have hsz := hb3.size
       have g0 := Nat.lt_of_lt_of_le hlt0 hsz
       have g1 := Nat.lt_of_lt_of_le hlt1 hsz
       have M3 := (hb3.block _ hlt0).trans HM.out.1
       have C3 := (hb3.block _ hlt1).trans HM.out.2.1
       have HB3 : Hid (Below w.heap.size w w3) := HM.out.2.2.trans (hb3.mono HM.out.2.2.size)
       have z0 : w3.cell? ⟨w.heap.size, 0, none⟩ = some (.int .u16 0) := cell_of_block M3 rfl
       have z1 : w3.cell? ⟨w.heap.size, 1, none⟩ = some (.bool false) := cell_of_block M3 rfl
       have z2 : w3.cell? ⟨w.heap.size, 2, none⟩ = some (.int .i64 0) := cell_of_block M3 rfl
       have z3 : w3.cell? ⟨w.heap.size, 3, none⟩ = some (.bool false) := cell_of_block M3 rfl
       have z4 : w3.cell? ⟨w.heap.size, 4, none⟩ = some (.bool false) := cell_of_block M3 rfl
       have z5 : w3.cell? ⟨w.heap.size, 5, none⟩ = some (.bool false) := cell_of_block M3 rfl
       have z6 : w3.cell? ⟨w.heap.size, 6, none⟩ = some (.bool false) := cell_of_block M3 rfl
       have z7 : w3.cell? ⟨w.heap.size, 7, none⟩ = some (.bool false) := cell_of_block M3 rfl
       have z8 : w3.cell? ⟨w.heap.size, 8, none⟩ = some (.bool false) := cell_of_block M3 rfl
       have z9 : w3.cell? ⟨w.heap.size, 9, none⟩ = some (.int .i64 0) := cell_of_block M3 rfl
       have z10 : w3.cell? ⟨w.heap.size, 10, none⟩ = some (.slice none 0 0) := cell_of_block M3 rfl
       have z11 : w3.cell? ⟨w.heap.size, 11, none⟩ = some (.slice none 0 0) := cell_of_block M3 rfl
       have z12 : w3.cell? ⟨w.heap.size, 12, none⟩ = some (.slice none 0 0) := cell_of_block M3 rfl
       have z13 : w3.cell? ⟨w.heap.size, 13, none⟩ = some (.slice none 0 0) := cell_of_block M3 rfl
       have f0 : w3.frozen? ⟨w.heap.size, 0, none⟩ = false := frozen_of_block M3
       have f1 : w3.frozen? ⟨w.heap.size, 1, none⟩ = false := frozen_of_block M3
       have f2 : w3.frozen? ⟨w.heap.size, 2, none⟩ = false := frozen_of_block M3
       have f3 : w3.frozen? ⟨w.heap.size, 3, none⟩ = false := frozen_of_block M3
       have f4 : w3.frozen? ⟨w.heap.size, 4, none⟩ = false := frozen_of_block M3
       have f5 : w3.frozen? ⟨w.heap.size, 5, none⟩ = false := frozen_of_block M3
       have f6 : w3.frozen? ⟨w.heap.size, 6, none⟩ = false := frozen_of_block M3
       have f7 : w3.frozen? ⟨w.heap.size, 7, none⟩ = false := frozen_of_block M3
       have f8 : w3.frozen? ⟨w.heap.size, 8, none⟩ = false := frozen_of_block M3
       have f9 : w3.frozen? ⟨w.heap.size, 9, none⟩ = false := frozen_of_block M3
       have f10 : w3.frozen? ⟨w.heap.size, 10, none⟩ = false := frozen_of_block M3
       have f11 : w3.frozen? ⟨w.heap.size, 11, none⟩ = false := frozen_of_block M3
       have f12 : w3.frozen? ⟨w.heap.size, 12, none⟩ = false := frozen_of_block M3
       have f13 : w3.frozen? ⟨w.heap.size, 13, none⟩ = false := frozen_of_block M3
       have y0 : w3.cell? ⟨w.heap.size + 1, 0, none⟩ = some (.int .i64 0) := cell_of_block C3 rfl
       have y1 : w3.cell? ⟨w.heap.size + 1, 1, none⟩ = some (.int .i64 0) := cell_of_block C3 rfl
       have y2 : w3.cell? ⟨w.heap.size + 1, 2, none⟩ = some (.int .i64 0) := cell_of_block C3 rfl
       have y3 : w3.cell? ⟨w.heap.size + 1, 3, none⟩ = some (.int .i64 0) := cell_of_block C3 rfl
       have q0 : w3.frozen? ⟨w.heap.size + 1, 0, none⟩ = false := frozen_of_block C3
       have q1 : w3.frozen? ⟨w.heap.size + 1, 1, none⟩ = false := frozen_of_block C3
       have q2 : w3.frozen? ⟨w.heap.size + 1, 2, none⟩ = false := frozen_of_block C3
       have q3 : w3.frozen? ⟨w.heap.size + 1, 3, none⟩ = false := frozen_of_block C3
       clear hb3 M3 C3 hsz
       go_wp2
       refine bodyPost_ret (v := .tuple #[.agg #[.int .u16 0, .bool false, .int .i64 0, .bool false, .bool false, .bool false, .bool false, .bool false, .bool false, .int .i64 0, .slice none 0 0, .slice none 0 0, .slice none 0 0, .slice none 0 0], .agg #[.int .i64 0, .int .i64 0, .int .i64 0, .int .i64 0], .int .i64 8]) ?_ rfl (HP.out _ _ ⟨fun _ => rfl, (fun h => by rw [h6] at h; cases h), ?_⟩)
       · simp [results, Tryz.results135, go_sem, g0, g1, z0, z1, z2, z3, z4, z5, z6, z7, z8, z9, z10, z11, z12, z13, y0, y1, y2, y3]
       · refine Below.alloc ?_ (by simp; omega) _
         iterate 18 refine Below.setCell ?_ (by simp) _
         exact HB3.out
end Go.Proofs.YteplffhfeoephaaGreat
namespace Go.Proofs.YteplffhfeoephaaGreat
open Go.ChangeShapes Go.WideShapes Go.ChangeAt Go.RowKit
def Sames (f : Nat) (w : World) (x y : Value) : Prop := ∀ W, Below w.heap.size w W -> Calls Tryz.prog f #[x, y] W fun e w' => e = .returned (.bool true) /\ Below W.heap.size W w'
set_option maxHeartbeats 4000000 in
theorem sameM (id : Int) (rs : Bool) (op : Int) (aa tc rd ra ad cd : Bool) (rc : Int) (a1 a2 a3 a4 d1 d2 d3 d4 : Option Addr) (n1 n2 n3 n4 c1 c2 c3 c4 m1 m2 m3 m4 k1 k2 k3 k4 : Nat) (w : World)
   (h1 : Sames 55 w (.slice a1 n1 c1) (.slice d1 m1 k1)) (h2 : Sames 56 w (.slice a2 n2 c2) (.slice d2 m2 k2)) (h3 : Sames 56 w (.slice a3 n3 c3) (.slice d3 m3 k3)) (h4 : Sames 56 w (.slice a4 n4 c4) (.slice d4 m4 k4)) :
   Calls Tryz.prog 20 #[.agg #[.int .u16 id, .bool rs, .int .i64 op, .bool aa, .bool tc, .bool rd, .bool ra, .bool ad, .bool cd, .int .i64 rc, .slice a1 n1 c1, .slice a2 n2 c2, .slice a3 n3 c3, .slice a4 n4 c4], .agg #[.int .u16 id, .bool rs, .int .i64 op, .bool aa, .bool tc, .bool rd, .bool ra, .bool ad, .bool cd, .int .i64 rc, .slice d1 m1 k1, .slice d2 m2 k2, .slice d3 m3 k3, .slice d4 m4 k4]] w fun e w' => e = .returned (.bool true) /\ Below w.heap.size w w' := by
 have H1 : Hid (Sames 55 w (.slice a1 n1 c1) (.slice d1 m1 k1)) := h1
 have H2 : Hid (Sames 56 w (.slice a2 n2 c2) (.slice d2 m2 k2)) := h2
 have H3 : Hid (Sames 56 w (.slice a3 n3 c3) (.slice d3 m3 k3)) := h3
 have H4 : Hid (Sames 56 w (.slice a4 n4 c4) (.slice d4 m4 k4)) := h4
 clear h1 h2 h3 h4
 go_enter Tryz.func20, Tryz.ntmps20
 go_wp2_with fail
 obtain ⟨W0, hW0⟩ : ∃ W0, W0 = (w.alloc (.cells #[.int .u16 id, .bool rs, .int .i64 op, .bool aa, .bool tc, .bool rd, .bool ra, .bool ad, .bool cd, .int .i64 rc, .slice a1 n1 c1, .slice a2 n2 c2, .slice a3 n3 c3, .slice a4 n4 c4] 26)).alloc (.cells #[.int .u16 id, .bool rs, .int .i64 op, .bool aa, .bool tc, .bool rd, .bool ra, .bool ad, .bool cd, .int .i64 rc, .slice d1 m1 k1, .slice d2 m2 k2, .slice d3 m3 k3, .slice d4 m4 k4] 26) := ⟨_, rfl⟩
 rw [<- hW0]
 have HB0 : Hid (Below w.heap.size w W0 /\ W0.heap[w.heap.size]? = some (.cells #[.int .u16 id, .bool rs, .int .i64 op, .bool aa, .bool tc, .bool rd, .bool ra, .bool ad, .bool cd, .int .i64 rc, .slice a1 n1 c1, .slice a2 n2 c2, .slice a3 n3 c3, .slice a4 n4 c4] 26) /\ W0.heap[w.heap.size + 1]? = some (.cells #[.int .u16 id, .bool rs, .int .i64 op, .bool aa, .bool tc, .bool rd, .bool ra, .bool ad, .bool cd, .int .i64 rc, .slice d1 m1 k1, .slice d2 m2 k2, .slice d3 m3 k3, .slice d4 m4 k4] 26)) := by
   rw [hW0]
   refine ⟨((Below.refl _ _).alloc (Nat.le_refl _) _).alloc (by simp) _, block_alloc (alloc_at _ _) _, ?_⟩
   have := alloc_at (w.alloc (.cells #[.int .u16 id, .bool rs, .int .i64 op, .bool aa, .bool tc, .bool rd, .bool ra, .bool ad, .bool cd, .int .i64 rc, .slice a1 n1 c1, .slice a2 n2 c2, .slice a3 n3 c3, .slice a4 n4 c4] 26)) (.cells #[.int .u16 id, .bool rs, .int .i64 op, .bool aa, .bool tc, .bool rd, .bool ra, .bool ad, .bool cd, .int .i64 rc, .slice d1 m1 k1, .slice d2 m2 k2, .slice d3 m3 k3, .slice d4 m4 k4] 26)
   simp only [World.size_alloc] at this
   exact this
 clear hW0
 refine (H1.out W0 HB0.out.1).mono ?_
 rintro e w1 ⟨rfl, hb1⟩
 have HB1 : Hid (Below w.heap.size w w1 /\ w1.heap[w.heap.size]? = some (.cells #[.int .u16 id, .bool rs, .int .i64 op, .bool aa, .bool tc, .bool rd, .bool ra, .bool ad, .bool cd, .int .i64 rc, .slice a1 n1 c1, .slice a2 n2 c2, .slice a3 n3 c3, .slice a4 n4 c4] 26) /\ w1.heap[w.heap.size + 1]? = some (.cells #[.int .u16 id, .bool rs, .int .i64 op, .bool aa, .bool tc, .bool rd, .bool ra, .bool ad, .bool cd, .int .i64 rc, .slice d1 m1 k1, .slice d2 m2 k2, .slice d3 m3 k3, .slice d4 m4 k4] 26)) := ⟨HB0.out.1.trans (hb1.mono HB0.out.1.size), (hb1.block _ (block_lt HB0.out.2.1)).trans HB0.out.2.1, (hb1.block _ (block_lt HB0.out.2.2)).trans HB0.out.2.2⟩
 clear hb1
 have p1 := block_lt HB1.out.2.1
 have q1 := block_lt HB1.out.2.2
 have x1 : w1.cell? ⟨w.heap.size, 11, none⟩ = some (.slice a2 n2 c2) := cell_of_block HB1.out.2.1 rfl
 have y1 : w1.cell? ⟨w.heap.size + 1, 11, none⟩ = some (.slice d2 m2 k2) := cell_of_block HB1.out.2.2 rfl
 go_wp2_with fail
 refine (H2.out w1 HB1.out.1).mono ?_
 rintro e w2 ⟨rfl, hb2⟩
 have HB2 : Hid (Below w.heap.size w w2 /\ w2.heap[w.heap.size]? = some (.cells #[.int .u16 id, .bool rs, .int .i64 op, .bool aa, .bool tc, .bool rd, .bool ra, .bool ad, .bool cd, .int .i64 rc, .slice a1 n1 c1, .slice a2 n2 c2, .slice a3 n3 c3, .slice a4 n4 c4] 26) /\ w2.heap[w.heap.size + 1]? = some (.cells #[.int .u16 id, .bool rs, .int .i64 op, .bool aa, .bool tc, .bool rd, .bool ra, .bool ad, .bool cd, .int .i64 rc, .slice d1 m1 k1, .slice d2 m2 k2, .slice d3 m3 k3, .slice d4 m4 k4] 26)) := ⟨HB1.out.1.trans (hb2.mono HB1.out.1.size), (hb2.block _ (block_lt HB1.out.2.1)).trans HB1.out.2.1, (hb2.block _ (block_lt HB1.out.2.2)).trans HB1.out.2.2⟩
 clear hb2
 have p2 := block_lt HB2.out.2.1
 have q2 := block_lt HB2.out.2.2
 have x2 : w2.cell? ⟨w.heap.size, 12, none⟩ = some (.slice a3 n3 c3) := cell_of_block HB2.out.2.1 rfl
 have y2 : w2.cell? ⟨w.heap.size + 1, 12, none⟩ = some (.slice d3 m3 k3) := cell_of_block HB2.out.2.2 rfl
 go_wp2_with fail
 refine (H3.out w2 HB2.out.1).mono ?_
 rintro e w3 ⟨rfl, hb3⟩
 have HB3 : Hid (Below w.heap.size w w3 /\ w3.heap[w.heap.size]? = some (.cells #[.int .u16 id, .bool rs, .int .i64 op, .bool aa, .bool tc, .bool rd, .bool ra, .bool ad, .bool cd, .int .i64 rc, .slice a1 n1 c1, .slice a2 n2 c2, .slice a3 n3 c3, .slice a4 n4 c4] 26) /\ w3.heap[w.heap.size + 1]? = some (.cells #[.int .u16 id, .bool rs, .int .i64 op, .bool aa, .bool tc, .bool rd, .bool ra, .bool ad, .bool cd, .int .i64 rc, .slice d1 m1 k1, .slice d2 m2 k2, .slice d3 m3 k3, .slice d4 m4 k4] 26)) := ⟨HB2.out.1.trans (hb3.mono HB2.out.1.size), (hb3.block _ (block_lt HB2.out.2.1)).trans HB2.out.2.1, (hb3.block _ (block_lt HB2.out.2.2)).trans HB2.out.2.2⟩
 clear hb3
 have p3 := block_lt HB3.out.2.1
 have q3 := block_lt HB3.out.2.2
 have x3 : w3.cell? ⟨w.heap.size, 13, none⟩ = some (.slice a4 n4 c4) := cell_of_block HB3.out.2.1 rfl
 have y3 : w3.cell? ⟨w.heap.size + 1, 13, none⟩ = some (.slice d4 m4 k4) := cell_of_block HB3.out.2.2 rfl
 go_wp2_with fail
 refine (H4.out w3 HB3.out.1).mono ?_
 rintro e w4 ⟨rfl, hb4⟩
 have HB4 : Hid (Below w.heap.size w w4 /\ w4.heap[w.heap.size]? = some (.cells #[.int .u16 id, .bool rs, .int .i64 op, .bool aa, .bool tc, .bool rd, .bool ra, .bool ad, .bool cd, .int .i64 rc, .slice a1 n1 c1, .slice a2 n2 c2, .slice a3 n3 c3, .slice a4 n4 c4] 26) /\ w4.heap[w.heap.size + 1]? = some (.cells #[.int .u16 id, .bool rs, .int .i64 op, .bool aa, .bool tc, .bool rd, .bool ra, .bool ad, .bool cd, .int .i64 rc, .slice d1 m1 k1, .slice d2 m2 k2, .slice d3 m3 k3, .slice d4 m4 k4] 26)) := ⟨HB3.out.1.trans (hb4.mono HB3.out.1.size), (hb4.block _ (block_lt HB3.out.2.1)).trans HB3.out.2.1, (hb4.block _ (block_lt HB3.out.2.2)).trans HB3.out.2.2⟩
 clear hb4
 go_wp2
 go_ret
 exact ⟨rfl, HB4.out.1⟩
end Go.Proofs.YteplffhfeoephaaGreat
namespace Go.Proofs.YteplffhfeoephaaGreat
open Go.ChangeShapes Go.WideShapes Go.ChangeAt Go.RowKit
theorem nv_b16s (I F C0 C1 C2 C3 : Nat) (h0 : I < 65536) (h1 : F < 65536) (h2 : C0 < 65536) (h3 : C1 < 65536) (h4 : C2 < 65536) (h5 : C3 < 65536) :
   nv (b16s (nsL I F C0 C1 C2 C3)) 0 = I /\ nv (b16s (nsL I F C0 C1 C2 C3)) 1 = F /\ nv (b16s (nsL I F C0 C1 C2 C3)) 2 = C0 /\ nv (b16s (nsL I F C0 C1 C2 C3)) 3 = C1 /\ nv (b16s (nsL I F C0 C1 C2 C3)) 4 = C2 /\ nv (b16s (nsL I F C0 C1 C2 C3)) 5 = C3 := by
 simp only [nv, b16s, nsL, b16, val, List.flatMap_cons, List.flatMap_nil, List.cons_append, List.nil_append, List.append_nil, Nat.mul_zero, Nat.mul_one, Nat.reduceMul, List.drop_zero, List.drop_succ_cons, List.take_succ_cons, List.take_zero, List.foldl_cons, List.foldl_nil]
 omega
end Go.Proofs.YteplffhfeoephaaGreat
namespace Go.Proofs.YteplffhfeoephaaGreat
open Go.ChangeShapes Go.WideShapes Go.ChangeAt Go.RowKit
structure Mg where
 h : Hd
 qs : List Qn
 l1 : List Rec
 l2 : List Rec
 l3 : List Rec
def Rb (r : Rec) : Prop := r.t <= 65535 /\ r.cl <= 65535 /\ r.tt <= 4294967295
def Qb (q : Qn) : Prop := q.ty <= 65535 /\ q.cl <= 65535
def Mb (m : Mg) : Prop := m.h.id < 65536 /\ (∀ q ∈ m.qs, Qb q) /\ (∀ r ∈ m.l1, Rb r) /\ (∀ r ∈ m.l2, Rb r) /\ (∀ r ∈ m.l3, Rb r)
def hdN (h : Hd) : Nat := packN h.op.toNat h.rc.toNat h.rs h.aa h.tc h.rd h.ra h.ad h.cd
def hdB (h : Hd) (c0 c1 c2 c3 : Nat) : List Int := b16s (nsL h.id (hdN h : Nat) c0 c1 c2 c3)
def pbody (m : Mg) : Pc := psq (pls (m.qs.map pqn)) (psq (pls (m.l1.map prec)) (psq (pls (m.l2.map prec)) (pls (m.l3.map prec))))
def pmsg (m : Mg) : Pc := psq (pby (hdB m.h m.qs.length m.l1.length m.l2.length m.l3.length)) (pbody m)
def hdOk (h : Hd) : Prop := 0 <= h.op /\ h.op <= 15 /\ 0 <= h.rc /\ h.rc <= 15
instance (h : Hd) : Decidable (hdOk h) := inferInstanceAs (Decidable (_ /\ _))
def recE (r : Rec) : Int := if nck r.ow = 0 then checkF r.t r.d else nck r.ow
def recsE : List Rec -> Int
 | [] => 0
 | r :: l => if recE r = 0 then recsE l else recE r
def qnsE : List Qn -> Int
 | [] => 0
 | q :: l => if nck q.nm = 0 then qnsE l else nck q.nm
def tot (m : Mg) : Nat := m.l1.length + m.l2.length + m.l3.length
def chkM (m : Mg) : Int := if hdOk m.h then (if 16 < m.qs.length ∨ 512 < tot m then 3 else (if qnsE m.qs = 0 then recsE (m.l1 ++ (m.l2 ++ m.l3)) else qnsE m.qs)) else 2
theorem recsE_app : ∀ a b : List Rec, recsE (a ++ b) = if recsE a = 0 then recsE b else recsE a
 | [], b => by simp [recsE]
 | r :: a, b => by
   have ih := recsE_app a b
   have e1 : ∀ l, recsE (r :: l) = if recE r = 0 then recsE l else recE r := fun l => rfl
   rw [List.cons_append, e1 (a ++ b)]
   by_cases h : recE r = 0
   · have e2 : recsE (r :: a) = recsE a := by rw [e1, if_pos h]
     rw [if_pos h, e2, ih]
   · have e2 : recsE (r :: a) = recE r := by rw [e1, if_neg h]
     rw [if_neg h, e2, if_neg h]
theorem recsE_zero : ∀ {l : List Rec}, recsE l = 0 ↔ ∀ r ∈ l, nck r.ow = 0 /\ checkF r.t r.d = 0
 | [] => by simp [recsE]
 | r :: l => by
   have ih := recsE_zero (l := l)
   simp only [recsE, List.mem_cons, forall_eq_or_imp]
   constructor
   · intro h
     split at h
     · next h0 =>
       refine ⟨?_, ih.1 h⟩
       unfold recE at h0
       split at h0
       · next h1 => exact ⟨h1, h0⟩
       · next h1 => exact absurd h0 h1
     · next h0 => exact absurd h h0
   · rintro ⟨⟨h1, h2⟩, h3⟩
     have : recE r = 0 := by unfold recE; rw [if_pos h1, h2]
     rw [if_pos this]
     exact ih.2 h3
theorem qnsE_zero : ∀ {l : List Qn}, qnsE l = 0 ↔ ∀ q ∈ l, nck q.nm = 0
 | [] => by simp [qnsE]
 | q :: l => by
   have ih := qnsE_zero (l := l)
   simp only [qnsE, List.mem_cons, forall_eq_or_imp]
   constructor
   · intro h
     split at h
     · next h0 => exact ⟨h0, ih.1 h⟩
     · next h0 => exact absurd h h0
   · rintro ⟨h1, h3⟩
     rw [if_pos h1]
     exact ih.2 h3
structure ChkOk (m : Mg) : Prop where
 hd : hdOk m.h
 nq : m.qs.length <= 16
 nr : tot m <= 512
 qs : ∀ q ∈ m.qs, nck q.nm = 0
 l1 : ∀ r ∈ m.l1, nck r.ow = 0 /\ checkF r.t r.d = 0
 l2 : ∀ r ∈ m.l2, nck r.ow = 0 /\ checkF r.t r.d = 0
 l3 : ∀ r ∈ m.l3, nck r.ow = 0 /\ checkF r.t r.d = 0
theorem chkM_zero {m : Mg} : chkM m = 0 ↔ ChkOk m := by
 unfold chkM
 constructor
 · intro h
   split at h
   · next h1 =>
     split at h
     · cases h
     · next h2 =>
       split at h
       · next h3 =>
         have h4 := recsE_zero.1 h
         exact ⟨h1, by omega, by omega, qnsE_zero.1 h3, fun r hr => h4 r (by simp [hr]), fun r hr => h4 r (by simp [hr]), fun r hr => h4 r (by simp [hr])⟩
       · next h3 => exact absurd h h3
   · cases h
 · intro h
   rw [if_pos h.hd, if_neg (by have := h.nq; have := h.nr; omega), if_pos (qnsE_zero.2 h.qs)]
   refine recsE_zero.2 fun r hr => ?_
   simp only [List.mem_append] at hr
   rcases hr with hr | hr | hr
   · exact h.l1 r hr
   · exact h.l2 r hr
   · exact h.l3 r hr
def rdH (zs : List Int) : Hd := ⟨nv zs 0, unfl (nv zs 1) 32768, (unop (nv zs 1) : Nat), unfl (nv zs 1) 1024, unfl (nv zs 1) 512, unfl (nv zs 1) 256, unfl (nv zs 1) 128, unfl (nv zs 1) 32, unfl (nv zs 1) 16, (unrc (nv zs 1) : Nat)⟩
def gbody (c0 c1 c2 c3 : Nat) (zs : List Int) (p : Nat) : Option ((List Qn × List Rec × List Rec × List Rec) × Nat) :=
 (gmany (gqn zs) c0 p).bind fun q => (gmany (grec zs) c1 q.2).bind fun a => (gmany (grec zs) c2 a.2).bind fun u => (gmany (grec zs) c3 u.2).map fun d => ((q.1, a.1, u.1, d.1), d.2)
def hdBad (zs : List Int) : Prop := (zs.length < 12 ∨ unfl (nv zs 1) 64 = true) ∨ ¬ (nv zs 2 <= 16 /\ nv zs 3 + nv zs 4 + nv zs 5 <= 512)
instance (zs : List Int) : Decidable (hdBad zs) := inferInstanceAs (Decidable (_ ∨ _))
def gmsg (zs : List Int) : Option Mg :=
 if hdBad zs then none
 else (gbody (nv zs 2) (nv zs 3) (nv zs 4) (nv zs 5) zs 12).bind fun x => if x.2 = zs.length then some ⟨rdH zs, x.1.1, x.1.2.1, x.1.2.2.1, x.1.2.2.2⟩ else none
theorem bak_recs {l : List Rec} (h : ∀ r ∈ l, nck r.ow = 0 /\ checkF r.t r.d = 0) (hb : ∀ r ∈ l, Rb r) : Bak (pls (l.map prec)) (fun zs => gmany (grec zs) l.length) l /\ Kps (pls (l.map prec)) := by
 constructor
 · have := bak_many (r := grec) (l.map fun r => (prec r, r)) (by
     intro x hx
     obtain ⟨r, hr, rfl⟩ := List.mem_map.1 hx
     have hbr := hb r hr
     exact ⟨bak_rec (h r hr).1 (h r hr).2 hbr.1 hbr.2.1 hbr.2.2, kps_rec (h r hr).1 (h r hr).2⟩)
   simpa [List.map_map, Function.comp_def] using this
 · refine kps_ls _ fun f hf => ?_
   obtain ⟨r, hr, rfl⟩ := List.mem_map.1 hf
   exact kps_rec (h r hr).1 (h r hr).2
theorem bak_qns {l : List Qn} (h : ∀ r ∈ l, nck r.nm = 0) (hb : ∀ r ∈ l, Qb r) : Bak (pls (l.map pqn)) (fun zs => gmany (gqn zs) l.length) l /\ Kps (pls (l.map pqn)) := by
 constructor
 · have := bak_many (r := gqn) (l.map fun r => (pqn r, r)) (by
     intro x hx
     obtain ⟨r, hr, rfl⟩ := List.mem_map.1 hx
     exact ⟨bak_qn (h r hr) (hb r hr).1 (hb r hr).2, kps_qn (h r hr)⟩)
   simpa [List.map_map, Function.comp_def] using this
 · refine kps_ls _ fun f hf => ?_
   obtain ⟨r, hr, rfl⟩ := List.mem_map.1 hf
   exact kps_qn (h r hr)
theorem bak_body {m : Mg} (h : ChkOk m) (hb : Mb m) : Bak (pbody m) (gbody m.qs.length m.l1.length m.l2.length m.l3.length) (m.qs, m.l1, m.l2, m.l3) := by
 obtain ⟨q1, q2⟩ := bak_qns h.qs hb.2.1
 obtain ⟨a1, a2⟩ := bak_recs h.l1 hb.2.2.1
 obtain ⟨u1, u2⟩ := bak_recs h.l2 hb.2.2.2.1
 obtain ⟨d1, d2⟩ := bak_recs h.l3 hb.2.2.2.2
 exact bak_bind (k := fun q zs p => (gmany (grec zs) m.l1.length p).bind fun a => (gmany (grec zs) m.l2.length a.2).bind fun u => (gmany (grec zs) m.l3.length u.2).map fun d => ((q, a.1, u.1, d.1), d.2)) q1 q2
   (bak_bind (k := fun a zs p => (gmany (grec zs) m.l2.length p).bind fun u => (gmany (grec zs) m.l3.length u.2).map fun d => ((m.qs, a, u.1, d.1), d.2)) a1 a2
     (bak_bind (k := fun u zs p => (gmany (grec zs) m.l3.length p).map fun d => ((m.qs, m.l1, u, d.1), d.2)) u1 u2 (bak_map (fun d => (m.qs, m.l1, m.l2, d)) d1)))
theorem hdB_len (h : Hd) (c0 c1 c2 c3 : Nat) : (hdB h c0 c1 c2 c3).length = 12 := by rw [hdB, b16s_len]; rfl
theorem hdN_lt {h : Hd} (ho : hdOk h) : hdN h < 65536 := packN_lt (by have := ho.2.1; omega) (by have := ho.2.2.2; omega) _ _ _ _ _ _ _
theorem nv_app {zs ms : List Int} {j : Nat} (h : 2 * j + 2 <= zs.length) : nv (zs ++ ms) j = nv zs j := by
 unfold nv
 rw [List.drop_append_of_le_length (by omega), List.take_append_of_le_length (by simp; omega)]
theorem hdB_nv {h : Hd} {c0 c1 c2 c3 : Nat} (ho : hdOk h) (hi : h.id < 65536) (h0 : c0 < 65536) (h1 : c1 < 65536) (h2 : c2 < 65536) (h3 : c3 < 65536) (R : List Int) :
   rdH (hdB h c0 c1 c2 c3 ++ R) = h /\ unfl (nv (hdB h c0 c1 c2 c3 ++ R) 1) 64 = false /\ nv (hdB h c0 c1 c2 c3 ++ R) 2 = c0 /\ nv (hdB h c0 c1 c2 c3 ++ R) 3 = c1 /\ nv (hdB h c0 c1 c2 c3 ++ R) 4 = c2 /\ nv (hdB h c0 c1 c2 c3 ++ R) 5 = c3 := by
 have hl := hdB_len h c0 c1 c2 c3
 obtain ⟨e0, e1, e2, e3, e4, e5⟩ := nv_b16s h.id (hdN h) c0 c1 c2 c3 hi (hdN_lt ho) h0 h1 h2 h3
 unfold rdH
 rw [nv_app (by omega), nv_app (by omega), nv_app (by omega), nv_app (by omega), nv_app (by omega), nv_app (by omega)]
 unfold hdB
 rw [e0, e1, e2, e3, e4, e5]
 have hU := un_pack (op := h.op.toNat) (rc := h.rc.toNat) (by have := ho.2.1; omega) (by have := ho.2.2.2; omega) h.rs h.aa h.tc h.rd h.ra h.ad h.cd (hdN h) rfl
 obtain ⟨u1, u2, u3, u4, u5, u6, u7, u8, u9, u10⟩ := hU
 refine ⟨?_, ?_, rfl, rfl, rfl, rfl⟩
 · obtain ⟨id, rs, op, aa, tc, rd, ra, ad, cd, rc⟩ := h
   simp only [Hd.mk.injEq]
   have a1 := ho.1
   have a2 := ho.2.2.1
   simp only at *
   simp only [*]
   simp
   omega
 · assumption
theorem prun_some {f : Pc} {tx : List Int} {pl : PLs} {s : List Int × PLs} (h : prun f (some (tx, pl)) = some s) : s = (tx ++ (f pl tx.length).1, (f pl tx.length).2) /\ tx.length + (f pl tx.length).1.length <= 65535 := by
 simp only [prun, Option.bind_some] at h
 split at h
 · cases h
 · next hn => cases h; exact ⟨rfl, by omega⟩
theorem msg_back {m : Mg} (h : ChkOk m) (hb : Mb m) {zs : List Int} {pl : PLs} (hr : prun (pmsg m) (some ([], [])) = some (zs, pl)) : gmsg zs = some m /\ zs.length <= 65535 /\ 12 <= zs.length := by
 obtain ⟨e, hl⟩ := prun_some hr
 simp only [List.nil_append, List.length_nil, Nat.zero_add, Prod.mk.injEq] at e hl
 have hH := hdB_len m.h m.qs.length m.l1.length m.l2.length m.l3.length
 have hz : zs = hdB m.h m.qs.length m.l1.length m.l2.length m.l3.length ++ (pbody m [] 12).1 := by
   rw [e.1]; simp only [pmsg, psq, pby, hH, Nat.zero_add]
 have hzl : zs.length = 12 + (pbody m [] 12).1.length := by rw [hz, List.length_append, hH]
 have hzb : zs.length <= 65535 := by rw [e.1]; exact hl
 have hnr := h.nr
 have hnq := h.nq
 unfold tot at hnr
 obtain ⟨n0, n1, n2, n3, n4, n5⟩ := hdB_nv (c0 := m.qs.length) (c1 := m.l1.length) (c2 := m.l2.length) (c3 := m.l3.length) h.hd hb.1 (by omega) (by omega) (by omega) (by omega) (pbody m [] 12).1
 have hB := bak_body h hb (hdB m.h m.qs.length m.l1.length m.l2.length m.l3.length) [] [] (QInv.nil0 _)
 rw [hH, List.append_nil, <- hz] at hB
 have hB := hB (by omega)
 rw [<- hz] at n0 n1 n2 n3 n4 n5
 refine ⟨?_, hzb, by omega⟩
 have hnb : ¬ hdBad zs := by
   unfold hdBad
   rw [n1, n2, n3, n4, n5]
   simp
   omega
 unfold gmsg
 rw [if_neg hnb, n2, n3, n4, n5, hB]
 simp only [Option.bind_some]
 rw [if_pos hzl.symm, n0]
theorem gmany_behind {zs : List Int} : ∀ (k p : Nat) (r : List (List ByteArray) × Nat), p <= zs.length -> gmany (gnm zs) k p = some r -> p <= r.2 /\ r.2 <= zs.length
 | 0, p, r, hp, h => by simp only [gmany, Option.some.injEq] at h; subst h; exact ⟨Nat.le_refl _, hp⟩
 | k + 1, p, r, hp, h => by
   simp only [gmany] at h
   cases e : gnm zs p with
   | none => rw [e] at h; cases h
   | some a =>
     rw [e] at h
     simp only [Option.bind_some] at h
     have hb := qgo_behind (show qgo zs true p p none [] = some (a.1, a.2) from e)
     cases e2 : gmany (gnm zs) k a.2 with
     | none => rw [e2] at h; cases h
     | some y =>
       rw [e2] at h
       simp only [Option.map_some, Option.some.injEq] at h
       subst h
       have := gmany_behind k a.2 y hb.2 e2
       exact ⟨by omega, this.2⟩
theorem gmany_all {α : Type} {f : Nat -> Option (α × Nat)} {P : α -> Prop} (hf : ∀ p r, f p = some r -> P r.1) : ∀ (k p : Nat) (r : List α × Nat), gmany f k p = some r -> r.1.length = k /\ ∀ x ∈ r.1, P x
 | 0, p, r, h => by simp only [gmany, Option.some.injEq] at h; subst h; simp
 | k + 1, p, r, h => by
   simp only [gmany] at h
   cases e : f p with
   | none => rw [e] at h; cases h
   | some a =>
     rw [e] at h
     simp only [Option.bind_some] at h
     cases e2 : gmany f k a.2 with
     | none => rw [e2] at h; cases h
     | some y =>
       rw [e2] at h
       simp only [Option.map_some, Option.some.injEq] at h
       subst h
       obtain ⟨h1, h2⟩ := gmany_all hf k a.2 y e2
       refine ⟨by simp [h1], fun x hx => ?_⟩
       simp only [List.mem_cons] at hx
       rcases hx with rfl | hx
       · exact hf p a e
       · exact h2 x hx
theorem g16_bd {zs : List Int} {p : Nat} {r : Nat × Nat} (hz : ∀ z ∈ zs, 0 <= z /\ z <= 255) (h : g16 zs p = some r) : r.1 <= 65535 := by
 unfold g16 at h
 split at h
 · next hl =>
   cases h
   have hlen : ((zs.drop p).take 2).length = 2 := by simp; omega
   have := (val_bd ((zs.drop p).take 2) (fun z hz' => hz z (List.mem_of_mem_drop (List.mem_of_mem_take hz')))).2
   rw [hlen] at this
   unfold gNum
   omega
 · cases h
theorem g32_bd {zs : List Int} {p : Nat} {r : Nat × Nat} (hz : ∀ z ∈ zs, 0 <= z /\ z <= 255) (h : g32 zs p = some r) : r.1 <= 4294967295 := by
 unfold g32 at h
 split at h
 · next hl =>
   cases h
   have hlen : ((zs.drop p).take 4).length = 4 := by simp; omega
   have := (val_bd ((zs.drop p).take 4) (fun z hz' => hz z (List.mem_of_mem_drop (List.mem_of_mem_take hz')))).2
   rw [hlen] at this
   unfold gNum
   omega
 · cases h
theorem gdat_ok {t size : Nat} {zs : List Int} {p : Nat} {r : Dat × Nat} (h : gdat t size zs p = some r) : checkF t r.1 = 0 := by
 unfold gdat at h
 split at h
 · cases e : gpl t zs p (p + size) with
   | none => rw [e] at h; cases h
   | some b =>
     rw [e] at h
     simp only [Option.bind_some, Option.map_eq_some_iff] at h
     obtain ⟨d, hd, rfl⟩ := h
     unfold gdr at hd
     split at hd
     · exact (write_read hd).1
     · cases hd
 · cases h
theorem grec_ok {zs : List Int} {p : Nat} {r : Rec × Nat} (hz : ∀ z ∈ zs, 0 <= z /\ z <= 255) (h : grec zs p = some r) : (nck r.1.ow = 0 /\ checkF r.1.t r.1.d = 0) /\ Rb r.1 := by
 unfold grec at h
 simp only [Option.bind_eq_some_iff, Option.map_eq_some_iff] at h
 obtain ⟨o, ho, t, ht, c, hc, l, hl, s, hs, d, hd, rfl⟩ := h
 exact ⟨⟨qgo_name (show qgo zs true p p none [] = some (o.1, o.2) from ho) nck_nil, gdat_ok hd⟩, g16_bd hz ht, g16_bd hz hc, g32_bd hz hl⟩
theorem gqn_ok {zs : List Int} {p : Nat} {r : Qn × Nat} (hz : ∀ z ∈ zs, 0 <= z /\ z <= 255) (h : gqn zs p = some r) : nck r.1.nm = 0 /\ Qb r.1 := by
 unfold gqn at h
 simp only [Option.bind_eq_some_iff, Option.map_eq_some_iff] at h
 obtain ⟨o, ho, t, ht, c, hc, rfl⟩ := h
 exact ⟨qgo_name (show qgo zs true p p none [] = some (o.1, o.2) from ho) nck_nil, g16_bd hz ht, g16_bd hz hc⟩
theorem msg_sound {zs : List Int} {m : Mg} (hz : ∀ z ∈ zs, 0 <= z /\ z <= 255) (h : gmsg zs = some m) : ChkOk m /\ Mb m := by
 unfold gmsg at h
 split at h
 · cases h
 · next hb =>
   simp only [Option.bind_eq_some_iff] at h
   obtain ⟨x, hx, h⟩ := h
   split at h
   · cases h
     unfold gbody at hx
     simp only [Option.bind_eq_some_iff, Option.map_eq_some_iff] at hx
     obtain ⟨q, hq, a, ha, u, hu, d, hd, rfl⟩ := hx
     obtain ⟨q1, q2⟩ := gmany_all (P := fun r => nck r.nm = 0 /\ Qb r) (fun p r h => gqn_ok hz h) _ _ _ hq
     obtain ⟨a1, a2⟩ := gmany_all (P := fun r => (nck r.ow = 0 /\ checkF r.t r.d = 0) /\ Rb r) (fun p r h => grec_ok hz h) _ _ _ ha
     obtain ⟨u1, u2⟩ := gmany_all (P := fun r => (nck r.ow = 0 /\ checkF r.t r.d = 0) /\ Rb r) (fun p r h => grec_ok hz h) _ _ _ hu
     obtain ⟨d1, d2⟩ := gmany_all (P := fun r => (nck r.ow = 0 /\ checkF r.t r.d = 0) /\ Rb r) (fun p r h => grec_ok hz h) _ _ _ hd
     unfold hdBad at hb
     have hN := (nv_val hz 0).2
     refine ⟨⟨?_, ?_, ?_, fun r hr => (q2 r hr).1, fun r hr => (a2 r hr).1, fun r hr => (u2 r hr).1, fun r hr => (d2 r hr).1⟩, ?_, fun r hr => (q2 r hr).2, fun r hr => (a2 r hr).2, fun r hr => (u2 r hr).2, fun r hr => (d2 r hr).2⟩
     · simp only [hdOk, rdH, unop, unrc]; omega
     · simp only [q1]; omega
     · simp only [tot, a1, u1, d1]; omega
     · exact hN
   · cases h
end Go.Proofs.YteplffhfeoephaaGreat
namespace Go.Proofs.YteplffhfeoephaaGreat
open Go.ChangeShapes Go.WideShapes Go.ChangeAt Go.RowKit
theorem qread_in (zs : List Int) (d : Nat) (back : Bool) (h : d <= zs.length) : qread zs d back = qres (qgo zs back d d none []) := by
 unfold qread qres
 rw [if_neg (by omega), Int.toNat_natCast]
 cases qgo zs back d d none [] <;> rfl
theorem qread_out (zs : List Int) (d : Int) (back : Bool) (h : d < 0 ∨ (zs.length : Int) < d) : qread zs d back = ([], 0, 2) := by
 unfold qread; rw [if_pos h]
set_option maxHeartbeats 4000000 in
theorem sread_out (a : Option Addr) (len cap : Nat) (d : Int) (back : Bool) (w : World) (hm : len <= 140737488355328) (h : d < 0 ∨ (0 <= d /\ (len : Int) < d)) :
   Calls Tryz.prog 157 #[.slice a len cap, .int .i64 d, .bool back] w (SPost ([], 0, 2) w) := by
 rcases h with h | ⟨h0, h⟩
 all_goals
   go_enter Tryz.func157, Tryz.ntmps157
   go_wp2
   go_step3
   go_wp2
   try rw [Exit.noGoto_ret]
   go_ret3
   exact ⟨.slice none 0 0, [], rfl, OwnT.nil _ _ _, rfl, Below.refl _ _⟩
theorem sread_any (a : Option Addr) (len cap : Nat) (d : Int) (back : Bool) (zs : List Int) (w : World) (hr : Rd w a zs) (hl : zs.length = len) (hm : len <= 140737488355328) (hc : len <= cap) (hc2 : cap <= 9223372036854775807) :
   Calls Tryz.prog 157 #[.slice a len cap, .int .i64 d, .bool back] w (SPost (qread zs d back) w) := by
 by_cases h : d < 0 ∨ (len : Int) < d
 · rw [qread_out zs d back (by rw [hl]; exact h)]
   exact sread_out a len cap d back w hm (by omega)
 · obtain ⟨k, rfl⟩ : ∃ k : Nat, d = k := ⟨d.toNat, by omega⟩
   rw [qread_in zs k back (by omega)]
   exact sread_in a len cap k back zs w hr hl hm hc hc2 (by omega)
end Go.Proofs.YteplffhfeoephaaGreat
namespace Go.Proofs.YteplffhfeoephaaGreat
open Go.ChangeShapes Go.WideShapes Go.ChangeAt Go.RowKit Go.Maps
theorem grown_set (W : World) (b k : Nat) (v : Value) : W.grownBy (W.setCell ⟨b, k, none⟩ v) (some b) :=
 ⟨rfl, rfl, rfl, by simp, fun j hj hne => Below.heap_setCell _ _ _ j (fun e => hne (by rw [e]))⟩
theorem Own.blk5 {B : Nat} {w : World} {v : Value} {n : Nat} {zs : List Int} (h : Own B w v n zs) : ∀ g, v.ownBlock = some g -> B <= g /\ ∃ cs, w.heap[g]? = some (.cells cs 5 (0, 0)) := by
 intro g hg
 rcases h with ⟨rfl, _⟩ | ⟨g', rfl, h2, h3, _⟩
 · cases hg
 · obtain rfl : g' = g := Option.some.inj hg
   exact ⟨h2, h3.type⟩
theorem Wr1.old {B : Nat} {w w1 : World} {g : Nat} {tx : List Int} {pl : List (ByteArray × Nat)} {v : Value} {ys : List Int} {mb : Nat} (h : Wr1 B w g tx pl v ys mb) (hG : w.grownBy w1 v.ownBlock) :
   w1.heap[g]? = some (.cells #[.pointer (some ⟨g, 0, none⟩), v, .map (some mb)] 163) /\ PlM w1 mb pl := by
 constructor
 · refine (hG.block g (box_lt h.box) (fun e => ?_)).trans h.box
   obtain ⟨_, cs, e1⟩ := h.own.blk5 g e.symm
   rw [h.box] at e1; cases e1
 · obtain ⟨es, c, e4⟩ := h.map.isMap
   refine h.map.same (hG.block mb (box_lt e4) (fun e => ?_))
   obtain ⟨_, cs, e1⟩ := h.own.blk5 mb e.symm
   rw [e4] at e1; cases e1
theorem Wr1.stored {B : Nat} {w w1 : World} {g : Nat} {tx tx' : List Int} {pl : List (ByteArray × Nat)} {v v' : Value} {ys ys' : List Int} {mb : Nat} (h : Wr1 B w g tx pl v ys mb) (hG : w.grownBy w1 v.ownBlock) (hO : Own B w1 v' tx'.length ys') (ht : ys'.take tx'.length = tx') (hB : B <= w.heap.size) :
   Wr1 B (w1.setCell ⟨g, 1, none⟩ v') g tx' pl v' ys' mb /\ Fr B w (w1.setCell ⟨g, 1, none⟩ v') := by
 obtain ⟨hb, hm⟩ := h.old hG
 have hg : w1.grownBy (w1.setCell ⟨g, 1, none⟩ v') (some g) := grown_set w1 g 1 v'
 have hne : ∀ k, v'.ownBlock = some k -> k ≠ g := by
   rintro k hk rfl
   obtain ⟨_, cs, e1⟩ := hO.blk5 k hk
   rw [hb] at e1; cases e1
 obtain ⟨es, c, e4⟩ := hm.isMap
 have hmg : mb ≠ g := by rintro rfl; rw [hb] at e4; cases e4
 refine ⟨⟨?_, h.gB, h.mB, ?_, ht, ?_⟩, ?_, ?_⟩
 · have := box_set hb 1 v'
   rw [this]; rfl
 · refine hO.keepAt (fun k hk hl => hg.block k hl (fun e => ?_))
   simp only [Option.some.injEq] at e
   exact hne k hk e
 · refine hm.same (hg.block mb (box_lt e4) (fun e => ?_))
   simp only [Option.some.injEq] at e
   exact hmg e
 · have b1 : Below B w w1 := (Below.refl B w).grown hG hB (fun k e => (h.own.blk5 k e).1)
   exact b1.setCell h.gB _
 · intro j cs t fr hj h5 h50
   have hj1 : w1.heap[j]? = w.heap[j]? := hG.block j (box_lt hj) (fun e => by
     obtain ⟨_, cs', e1⟩ := h.own.blk5 j e.symm
     rw [hj] at e1; cases e1; exact h5 rfl)
   have hj2 : (w1.setCell ⟨g, 1, none⟩ v').heap[j]? = w1.heap[j]? := hg.block j (box_lt (hj1.trans hj)) (fun e => by
     simp only [Option.some.injEq] at e
     subst e
     rw [h.box] at hj; cases hj; exact h50 rfl)
   exact hj2.trans hj1
set_option maxHeartbeats 1000000 in
theorem sqnew_any (w : World) : Calls Tryz.prog 78 #[] w fun e w' => e = .returned (.pointer (some ⟨w.heap.size + 1, 0, none⟩)) /\ Hid (Wr w.heap.size w' (w.heap.size + 1) [] [] /\ Below w.heap.size w w') := by
 have hmm := @run_makeMap Tryz.prog
 go_enter Tryz.func78, Tryz.ntmps78
 go_wp2
 go_ret
 refine ⟨rfl, ?_⟩
 have hb0 : ((w.alloc (.map #[] 0)).alloc (.cells #[.pointer (some ⟨w.heap.size + 1, 0, none⟩), .slice none 0 0, .map (some w.heap.size)] 163)).heap[w.heap.size + 1]? = some (.cells #[.pointer (some ⟨w.heap.size + 1, 0, none⟩), .slice none 0 0, .map (some w.heap.size)] 163) := by
   have := World.alloc_heap_new (w.alloc (.map #[] 0)) (.cells #[.pointer (some ⟨w.heap.size + 1, 0, none⟩), .slice none 0 0, .map (some w.heap.size)] 163)
   simpa using this
 have hm0 : PlM ((w.alloc (.map #[] 0)).alloc (.cells #[.pointer (some ⟨w.heap.size + 1, 0, none⟩), .slice none 0 0, .map (some w.heap.size)] 163)) w.heap.size [] := (PlM.made w).same (Below.heap_alloc _ _ _ (by simp))
 exact ⟨⟨.slice none 0 0, [], w.heap.size, hb0, by omega, Nat.le_refl _, .inl ⟨rfl, rfl, rfl⟩, rfl, hm0⟩, ((Below.refl _ w).alloc (Nat.le_refl _) _).alloc (by simp) _⟩
end Go.Proofs.YteplffhfeoephaaGreat
namespace Go.Proofs.YteplffhfeoephaaGreat
open Go.ChangeShapes Go.WideShapes Go.ChangeAt Go.RowKit Go.Maps
structure Rdr (w : World) (r : Nat) (a : Option Addr) (n c : Nat) (zs : List Int) (p : Nat) : Prop where
 box : w.heap[r]? = some (.cells #[.slice a n c, .int .i64 p] 105)
 rd : Rd w a zs
 len : zs.length = n
 cap : n <= c /\ c <= 9223372036854775807
 big : n <= 140737488355328
 off : zs = [] ∨ ∀ b o sp, a = some ⟨b, o, sp⟩ -> b ≠ r
 nil : a = none -> c = 0
 pn : p <= n
theorem Rdr.go {w w' : World} {r : Nat} {a : Option Addr} {n c : Nat} {zs : List Int} {p p' : Nat} (h : Rdr w r a n c zs p) (hg : w.grownBy w' (some r)) (hb : w'.heap[r]? = some (.cells #[.slice a n c, .int .i64 p'] 105)) (hp : p' <= n) : Rdr w' r a n c zs p' := by
 refine ⟨hb, ?_, h.len, h.cap, h.big, h.off, h.nil, hp⟩
 rcases h.off with hz | hoff
 · exact ⟨.inl hz, h.rd.2⟩
 rcases h.rd.1 with h0 | ⟨b2, o2, e2, hb2, _⟩
 · exact ⟨.inl h0, h.rd.2⟩
 · refine h.rd.of_blocks hg.size (fun b o e => ?_)
   have hbb : b2 = b := by rw [e] at e2; cases e2; rfl
   subst hbb
   exact hg.block b2 hb2 (fun e3 => by injection e3 with e3; exact hoff b2 o none e e3)
theorem below_dn (w : World) (n : Nat) : Below w.heap.size w (w.drewN n) := ⟨rfl, rfl, rfl, Nat.le_refl _, fun _ _ => rfl⟩
theorem Rdr.below {w w' : World} {r : Nat} {a : Option Addr} {n c : Nat} {zs : List Int} {p : Nat} (h : Rdr w r a n c zs p) (hb : Below w.heap.size w w') : Rdr w' r a n c zs p :=
 ⟨(hb.block r (box_lt h.box)).trans h.box, h.rd.below hb, h.len, h.cap, h.big, h.off, h.nil, h.pn⟩
theorem grown_of {w w' : World} {o : Option Nat} (h : Below w.heap.size w w') : w.grownBy w' o := ⟨h.os, h.tape, h.output, h.size, fun k hk _ => h.block k hk⟩
theorem grown_trans {a b c : World} {r : Nat} (h : a.grownBy b (some r)) (k : b.grownBy c (some r)) : a.grownBy c (some r) :=
 ⟨k.os.trans h.os, k.tape.trans h.tape, k.output.trans h.output, Nat.le_trans h.size k.size, fun j hj hne => (k.block j (Nat.lt_of_lt_of_le hj h.size) hne).trans (h.block j hj hne)⟩
theorem Rdr.move {w : World} {r : Nat} {a : Option Addr} {n c : Nat} {zs : List Int} {p : Nat} (h : Rdr w r a n c zs p) (p' : Nat) (hp : p' <= n) : Rdr (w.setCell ⟨r, 1, none⟩ (.int .i64 p')) r a n c zs p' /\ w.grownBy (w.setCell ⟨r, 1, none⟩ (.int .i64 p')) (some r) :=
 ⟨h.go (grown_set w r 1 _) (box_set h.box 1 _) hp, grown_set w r 1 _⟩
theorem val_nat {zs : List Int} (h : ∀ z ∈ zs, 0 <= z /\ z <= 255) (p wd : Nat) : val ((zs.drop p).take wd) = ((gNum zs p wd : Nat) : Int) := by
 have := (val_bd ((zs.drop p).take wd) (fun z hz => h z (List.mem_of_mem_drop (List.mem_of_mem_take hz)))).1
 unfold gNum
 omega
set_option maxHeartbeats 1000000 in
theorem r16_yes (r : Nat) (a : Option Addr) (n c : Nat) (zs : List Int) (p : Nat) (x : Nat × Nat) (w : World) (h : Rdr w r a n c zs p) (hx : g16 zs p = some x) :
   Calls Tryz.prog 140 #[.pointer (some ⟨r, 0, none⟩)] w fun e w' => e = .returned (.int .i64 x.1) /\ Hid (Rdr w' r a n c zs x.2 /\ w.grownBy w' (some r)) := by
 unfold g16 at hx
 split at hx
 case isFalse => cases hx
 case isTrue hl =>
   cases hx
   simp only
   have hl' : p + 2 <= n := by rw [<- h.len]; exact hl
   have K1 : Hid (∀ W, Rd W a zs -> Calls Tryz.prog 155 #[.slice a n c, .int .i64 p] W fun e w' => e = .returned (.tuple #[.int .i64 (gNum zs p 2 : Nat), .bool true]) /\ w' = W) := by
     intro W hW
     have := u16_yes a n c p zs W hW h.len h.cap.1 h.cap.2 hl'
     rw [val_nat hW.2] at this
     exact this
   have HR := Lib.hid h
   have c0 : w.cell? ⟨r, 0, none⟩ = some (.slice a n c) := box_cell h.box 0 _ rfl
   have c1 : w.cell? ⟨r, 1, none⟩ = some (.int .i64 p) := box_cell h.box 1 _ rfl
   have hlt := box_lt h.box
   have hp63 : p <= 140737488355328 := by have := h.big; omega
   generalize gNum zs p 2 = v at *
   have KY := fun W => Lib.hid (need_yes W)
   clear h
   go_enter Tryz.func140, Tryz.ntmps140
   go_wp2_with fail
   go_quiet (first
     | (go_at_call 155; exact Calls.quiet_of_same (K1.out _ HR.out.rd)))
   have HB1 := Lib.hid (below_dn w nq)
   generalize w.drewN nq = w1 at *
   have HR1 := Lib.hid (HR.out.below HB1.out)
   clear c0 c1 hlt K1
   have c1 : w1.cell? ⟨r, 1, none⟩ = some (.int .i64 p) := box_cell HR1.out.box 1 _ rfl
   have hlt := box_lt HR1.out.box
   have hfz := box_frozen HR1.out.box 1
   have HMV := Lib.hid (HR1.out.move (p + 2) hl')
   go_wp2_with fail
   refine (KY w1).out.mono ?_
   rintro e w2 ⟨rfl, hw2⟩
   subst w2
   go_wp2
   go_ret
   exact ⟨rfl, HMV.out.1, grown_trans (grown_of HB1.out) HMV.out.2⟩
set_option maxHeartbeats 1000000 in
theorem r16_no (r : Nat) (a : Option Addr) (n c : Nat) (zs : List Int) (p : Nat) (w : World) (h : Rdr w r a n c zs p) (hx : g16 zs p = none) :
   Calls Tryz.prog 140 #[.pointer (some ⟨r, 0, none⟩)] w fun e w' => e = .panicked thrown /\ Hid (w.grownBy w' (some r)) := by
 unfold g16 at hx
 split at hx
 case isTrue => cases hx
 case isFalse hl =>
   have hl' : n < p + 2 := by rw [<- h.len]; omega
   have K1 : Hid (∀ W, Calls Tryz.prog 155 #[.slice a n c, .int .i64 p] W fun e w' => e = .returned (.tuple #[.int .i64 0, .bool false]) /\ w' = W) := fun W => u16_no a n c p W h.cap.1 h.cap.2 (.inr (by omega))
   have c0 : w.cell? ⟨r, 0, none⟩ = some (.slice a n c) := box_cell h.box 0 _ rfl
   have c1 : w.cell? ⟨r, 1, none⟩ = some (.int .i64 p) := box_cell h.box 1 _ rfl
   have hlt := box_lt h.box
   have KN := fun W => Lib.hid (need_no W)
   clear h
   go_enter Tryz.func140, Tryz.ntmps140
   go_wp2_with fail
   go_quiet (first
     | (go_at_call 155; exact Calls.quiet_of_same (K1.out _)))
   have HB1 := Lib.hid (below_dn w nq)
   generalize w.drewN nq = w1 at *
   go_wp2_with fail
   refine (KN w1).out.mono ?_
   rintro e w2 ⟨rfl, hw2⟩
   subst w2
   go_wp2
   exact ⟨rfl, rfl, grown_of HB1.out⟩
set_option maxHeartbeats 1000000 in
theorem r32_yes (r : Nat) (a : Option Addr) (n c : Nat) (zs : List Int) (p : Nat) (x : Nat × Nat) (w : World) (h : Rdr w r a n c zs p) (hx : g32 zs p = some x) :
   Calls Tryz.prog 138 #[.pointer (some ⟨r, 0, none⟩)] w fun e w' => e = .returned (.int .u32 x.1) /\ Hid (Rdr w' r a n c zs x.2 /\ w.grownBy w' (some r)) := by
 unfold g32 at hx
 split at hx
 case isFalse => cases hx
 case isTrue hl =>
   cases hx
   simp only
   have hl' : p + 4 <= n := by rw [<- h.len]; exact hl
   have K1 : Hid (∀ W, Rd W a zs -> Calls Tryz.prog 158 #[.slice a n c, .int .i64 p] W fun e w' => e = .returned (.tuple #[.int .u32 (gNum zs p 4 : Nat), .bool true]) /\ w' = W) := by
     intro W hW
     have := u32_yes a n c p zs W hW h.len h.cap.1 h.cap.2 hl'
     rw [val_nat hW.2] at this
     exact this
   have HR := Lib.hid h
   have c0 : w.cell? ⟨r, 0, none⟩ = some (.slice a n c) := box_cell h.box 0 _ rfl
   have c1 : w.cell? ⟨r, 1, none⟩ = some (.int .i64 p) := box_cell h.box 1 _ rfl
   have hlt := box_lt h.box
   have hp63 : p <= 140737488355328 := by have := h.big; omega
   generalize gNum zs p 4 = v at *
   have KY := fun W => Lib.hid (need_yes W)
   clear h
   go_enter Tryz.func138, Tryz.ntmps138
   go_wp2_with fail
   go_quiet (first
     | (go_at_call 158; exact Calls.quiet_of_same (K1.out _ HR.out.rd)))
   have HB1 := Lib.hid (below_dn w nq)
   generalize w.drewN nq = w1 at *
   have HR1 := Lib.hid (HR.out.below HB1.out)
   clear c0 c1 hlt K1
   have c1 : w1.cell? ⟨r, 1, none⟩ = some (.int .i64 p) := box_cell HR1.out.box 1 _ rfl
   have hlt := box_lt HR1.out.box
   have hfz := box_frozen HR1.out.box 1
   have HMV := Lib.hid (HR1.out.move (p + 4) hl')
   go_wp2_with fail
   refine (KY w1).out.mono ?_
   rintro e w2 ⟨rfl, hw2⟩
   subst w2
   go_wp2
   go_ret
   exact ⟨rfl, HMV.out.1, grown_trans (grown_of HB1.out) HMV.out.2⟩
set_option maxHeartbeats 1000000 in
theorem r32_no (r : Nat) (a : Option Addr) (n c : Nat) (zs : List Int) (p : Nat) (w : World) (h : Rdr w r a n c zs p) (hx : g32 zs p = none) :
   Calls Tryz.prog 138 #[.pointer (some ⟨r, 0, none⟩)] w fun e w' => e = .panicked thrown /\ Hid (w.grownBy w' (some r)) := by
 unfold g32 at hx
 split at hx
 case isTrue => cases hx
 case isFalse hl =>
   have hl' : n < p + 4 := by rw [<- h.len]; omega
   have K1 : Hid (∀ W, Calls Tryz.prog 158 #[.slice a n c, .int .i64 p] W fun e w' => e = .returned (.tuple #[.int .u32 0, .bool false]) /\ w' = W) := fun W => u32_no a n c p W h.cap.1 h.cap.2 (.inr (by omega))
   have c0 : w.cell? ⟨r, 0, none⟩ = some (.slice a n c) := box_cell h.box 0 _ rfl
   have c1 : w.cell? ⟨r, 1, none⟩ = some (.int .i64 p) := box_cell h.box 1 _ rfl
   have hlt := box_lt h.box
   have KN := fun W => Lib.hid (need_no W)
   clear h
   go_enter Tryz.func138, Tryz.ntmps138
   go_wp2_with fail
   go_quiet (first
     | (go_at_call 158; exact Calls.quiet_of_same (K1.out _)))
   have HB1 := Lib.hid (below_dn w nq)
   generalize w.drewN nq = w1 at *
   go_wp2_with fail
   refine (KN w1).out.mono ?_
   rintro e w2 ⟨rfl, hw2⟩
   subst w2
   go_wp2
   exact ⟨rfl, rfl, grown_of HB1.out⟩
theorem gnm_ok {zs : List Int} {p : Nat} {x : List ByteArray × Nat} (h : gnm zs p = some x) : nck x.1 = 0 /\ p < x.2 /\ x.2 <= zs.length :=
 ⟨qgo_name (show qgo zs true p p none [] = some (x.1, x.2) from h) nck_nil, (qgo_behind (show qgo zs true p p none [] = some (x.1, x.2) from h)).1, (qgo_behind (show qgo zs true p p none [] = some (x.1, x.2) from h)).2⟩
theorem OwnT.x1 {B : Nat} {w : World} {s : Sl} {n M : Nat} {ys nm : List ByteArray} (h : OwnT B w (.slice s.a s.n s.c) n ys M) (hn : n = nm.length) (ht : ys.take n = nm) (hM : M <= 9223372036854775807) : Owx1 B w s nm := by
 subst hn
 exact ⟨ys, ⟨h.1, fun x hx => Nat.le_trans (h.2 x hx) hM⟩, ht⟩
set_option maxHeartbeats 1000000 in
theorem rnm_yes (r : Nat) (a : Option Addr) (n c : Nat) (zs : List Int) (p : Nat) (x : List ByteArray × Nat) (w : World) (h : Rdr w r a n c zs p) (hx : gnm zs p = some x) :
   Calls Tryz.prog 136 #[.pointer (some ⟨r, 0, none⟩)] w fun e w' => ∃ s : Sl, e = .returned (.slice s.a s.n s.c) /\ Hid (Rdr w' r a n c zs x.2 /\ Owx1 w.heap.size w' s x.1 /\ w.grownBy w' (some r)) := by
 obtain ⟨ss, q⟩ := x
 obtain ⟨_, hpq, hqn⟩ := gnm_ok hx
 simp only at hpq hqn
 have hq : q <= n := by rw [<- h.len]; exact hqn
 have K1 : Hid (∀ W, Rd W a zs -> Calls Tryz.prog 157 #[.slice a n c, .int .i64 p, .bool true] W fun e w' => ∃ s : Sl, e = .returned (.tuple #[.slice s.a s.n s.c, .int .i64 q, .int .i64 0]) /\ Hid (Owx1 W.heap.size w' s ss /\ Below W.heap.size W w')) := by
   intro W hW
   refine (sread_any a n c p true zs W hW h.len h.big h.cap.1 h.cap.2).mono ?_
   rintro e w' ⟨v, ys, e1, H1⟩
   rw [qread_in zs p true (by rw [h.len]; exact h.pn)] at e1 H1
   have hg : qgo zs true p p none [] = some (ss, q) := hx
   rw [hg] at e1 H1
   simp only [qres] at e1 H1
   obtain ⟨ao, hv, _⟩ := H1.out.1.shape
   rw [hv] at e1 H1
   exact ⟨⟨ao, ss.length, ys.length⟩, e1, OwnT.x1 (s := ⟨ao, ss.length, ys.length⟩) H1.out.1 rfl H1.out.2.1 (by omega), H1.out.2.2⟩
 have HR := Lib.hid h
 have c0 : w.cell? ⟨r, 0, none⟩ = some (.slice a n c) := box_cell h.box 0 _ rfl
 have c1 : w.cell? ⟨r, 1, none⟩ = some (.int .i64 p) := box_cell h.box 1 _ rfl
 have hlt := box_lt h.box
 have hq63 : q <= 140737488355328 := by have := h.big; omega
 have KY := fun W => Lib.hid (need_yes W)
 have KS : ∀ W, Below w.heap.size w W -> (W.cell? ⟨r, 0, none⟩ = some (.slice a n c) /\ W.cell? ⟨r, 1, none⟩ = some (.int .i64 p)) := fun W hW => ⟨box_cell (h.below hW).box 0 _ rfl, box_cell (h.below hW).box 1 _ rfl⟩
 clear h
 go_enter Tryz.func136, Tryz.ntmps136
 go_wp2_with fail
 go_region_held3 (fun W => W.cell? ⟨r, 0, none⟩ = some (.slice a n c) /\ W.cell? ⟨r, 1, none⟩ = some (.int .i64 p)) (first | exact KS _ HB1.out | exact KS _ (Below.refl w.heap.size w).drew | exact KS _ (Below.refl w.heap.size w)) (first
   | (go_at_call 157; refine Calls.mono (K1.out _ (by first | exact HR.out.rd.drew | exact HR.out.rd)) ?_; rintro e w1 ⟨s1, rfl, H1⟩; have HB1 : Hid (Below w.heap.size w w1) := (by first | exact Below.trans ((Below.refl w.heap.size w).drew) H1.out.2 | exact H1.out.2)))
 have HR1 := Lib.hid (HR.out.below HB1.out)
 have HO1 : Hid (Owx1 w.heap.size w1 s1 ss) := H1.out.1
 clear c0 c1 hlt K1 KS H1
 have c1 : w1.cell? ⟨r, 1, none⟩ = some (.int .i64 p) := box_cell HR1.out.box 1 _ rfl
 have hlt := box_lt HR1.out.box
 have hfz := box_frozen HR1.out.box 1
 have HMV := Lib.hid (HR1.out.move q hq)
 go_wp2_with fail
 refine (KY w1).out.mono ?_
 rintro e w2 ⟨rfl, hw2⟩
 subst w2
 go_wp2
 go_ret
 exact ⟨s1, rfl, HMV.out.1, HO1.out.kept HMV.out.2 (box_lt HR.out.box), grown_trans (grown_of HB1.out) HMV.out.2⟩
set_option maxHeartbeats 1000000 in
theorem rnm_no (r : Nat) (a : Option Addr) (n c : Nat) (zs : List Int) (p : Nat) (w : World) (h : Rdr w r a n c zs p) (hx : gnm zs p = none) :
   Calls Tryz.prog 136 #[.pointer (some ⟨r, 0, none⟩)] w fun e w' => e = .panicked thrown /\ Hid (w.grownBy w' (some r)) := by
 have K1 : Hid (∀ W, Rd W a zs -> Calls Tryz.prog 157 #[.slice a n c, .int .i64 p, .bool true] W fun e w' => ∃ s : Sl, e = .returned (.tuple #[.slice s.a s.n s.c, .int .i64 0, .int .i64 8]) /\ Hid (Below W.heap.size W w')) := by
   intro W hW
   refine (sread_any a n c p true zs W hW h.len h.big h.cap.1 h.cap.2).mono ?_
   rintro e w' ⟨v, ys, e1, H1⟩
   rw [qread_in zs p true (by rw [h.len]; exact h.pn)] at e1 H1
   have hg : qgo zs true p p none [] = none := hx
   rw [hg] at e1 H1
   simp only [qres] at e1 H1
   obtain ⟨ao, hv, _⟩ := H1.out.1.shape
   rw [hv] at e1
   exact ⟨⟨ao, _, _⟩, e1, H1.out.2.2⟩
 have HR := Lib.hid h
 have c0 : w.cell? ⟨r, 0, none⟩ = some (.slice a n c) := box_cell h.box 0 _ rfl
 have c1 : w.cell? ⟨r, 1, none⟩ = some (.int .i64 p) := box_cell h.box 1 _ rfl
 have hlt := box_lt h.box
 have KN := fun W => Lib.hid (need_no W)
 have KS : ∀ W, Below w.heap.size w W -> (W.cell? ⟨r, 0, none⟩ = some (.slice a n c) /\ W.cell? ⟨r, 1, none⟩ = some (.int .i64 p)) := fun W hW => ⟨box_cell (h.below hW).box 0 _ rfl, box_cell (h.below hW).box 1 _ rfl⟩
 clear h
 go_enter Tryz.func136, Tryz.ntmps136
 go_wp2_with fail
 go_region_held3 (fun W => W.cell? ⟨r, 0, none⟩ = some (.slice a n c) /\ W.cell? ⟨r, 1, none⟩ = some (.int .i64 p)) (first | exact KS _ HB1.out | exact KS _ (Below.refl w.heap.size w).drew | exact KS _ (Below.refl w.heap.size w)) (first
   | (go_at_call 157; refine Calls.mono (K1.out _ (by first | exact HR.out.rd.drew | exact HR.out.rd)) ?_; rintro e w1 ⟨s1, rfl, H1⟩; have HB1 : Hid (Below w.heap.size w w1) := (by first | exact Below.trans ((Below.refl w.heap.size w).drew) H1.out | exact H1.out)))
 clear K1 KS H1
 go_wp2_with fail
 refine (KN w1).out.mono ?_
 rintro e w2 ⟨rfl, hw2⟩
 subst w2
 go_wp2
 exact ⟨rfl, rfl, grown_of HB1.out⟩
def gkind (zs : List Int) (p : Nat) : Option ((Nat × Nat) × Nat) := (g16 zs p).bind fun t => (g16 zs t.2).map fun c => ((t.1, c.1), c.2)
set_option maxHeartbeats 1000000 in
theorem rkind_yes (r : Nat) (a : Option Addr) (n c : Nat) (zs : List Int) (p : Nat) (x : (Nat × Nat) × Nat) (w : World) (h : Rdr w r a n c zs p) (hx : gkind zs p = some x) :
   Calls Tryz.prog 137 #[.pointer (some ⟨r, 0, none⟩)] w fun e w' => e = .returned (.tuple #[.int .u16 x.1.1, .int .u16 x.1.2]) /\ Hid (Rdr w' r a n c zs x.2 /\ w.grownBy w' (some r)) := by
 unfold gkind at hx
 simp only [Option.bind_eq_some_iff, Option.map_eq_some_iff] at hx
 obtain ⟨t, ht, cl, hc, rfl⟩ := hx
 have b1 := g16_bd h.rd.2 ht
 have b2 := g16_bd h.rd.2 hc
 have K1 := Lib.hid (r16_yes r a n c zs p t w h ht)
 have K2 : Hid (∀ W, Rdr W r a n c zs t.2 -> Calls Tryz.prog 140 #[.pointer (some ⟨r, 0, none⟩)] W fun e w' => e = .returned (.int .i64 cl.1) /\ Hid (Rdr w' r a n c zs cl.2 /\ W.grownBy w' (some r))) := fun W hW => r16_yes r a n c zs t.2 cl W hW hc
 obtain ⟨t1, t2⟩ := t
 obtain ⟨cl1, cl2⟩ := cl
 simp only at b1 b2 K1 K2 ⊢
 clear h ht hc
 go_enter Tryz.func137, Tryz.ntmps137
 go_wp2_with fail
 refine K1.out.mono ?_
 rintro e w1 ⟨rfl, H1⟩
 go_wp2_with fail
 refine (K2.out w1 H1.out.1).mono ?_
 rintro e w2 ⟨rfl, H2⟩
 go_wp2
 go_ret2
 exact ⟨rfl, H2.out.1, grown_trans H1.out.2 H2.out.2⟩
set_option maxHeartbeats 1000000 in
theorem rkind_no (r : Nat) (a : Option Addr) (n c : Nat) (zs : List Int) (p : Nat) (w : World) (h : Rdr w r a n c zs p) (hx : gkind zs p = none) :
   Calls Tryz.prog 137 #[.pointer (some ⟨r, 0, none⟩)] w fun e w' => e = .panicked thrown /\ Hid (w.grownBy w' (some r)) := by
 unfold gkind at hx
 cases ht : g16 zs p with
 | none =>
   have K1 := Lib.hid (r16_no r a n c zs p w h ht)
   clear h hx
   go_enter Tryz.func137, Tryz.ntmps137
   go_wp2_with fail
   refine K1.out.mono ?_
   rintro e w1 ⟨rfl, H1⟩
   go_wp2
   exact ⟨rfl, rfl, H1⟩
 | some t =>
   rw [ht] at hx
   simp only [Option.bind_some, Option.map_eq_none_iff] at hx
   have K1 := Lib.hid (r16_yes r a n c zs p t w h ht)
   have K2 : Hid (∀ W, Rdr W r a n c zs t.2 -> Calls Tryz.prog 140 #[.pointer (some ⟨r, 0, none⟩)] W fun e w' => e = .panicked thrown /\ Hid (W.grownBy w' (some r))) := fun W hW => r16_no r a n c zs t.2 W hW hx
   clear h ht hx
   go_enter Tryz.func137, Tryz.ntmps137
   go_wp2_with fail
   refine K1.out.mono ?_
   rintro e w1 ⟨rfl, H1⟩
   go_wp2_with fail
   refine (K2.out w1 H1.out.1).mono ?_
   rintro e w2 ⟨rfl, H2⟩
   go_wp2
   exact ⟨rfl, rfl, grown_trans H1.out.2 H2.out⟩
end Go.Proofs.YteplffhfeoephaaGreat
namespace Go.Proofs.YteplffhfeoephaaGreat
open Go.ChangeShapes Go.WideShapes Go.ChangeAt Go.RowKit Go.Deep
structure Arg (w : World) (a : Option Addr) (n : Nat) (ss : List ByteArray) : Prop where
 rd : RdT w a ss
 len : ss.length = n
 n63 : n <= 9223372036854775807
 z63 : ∀ s ∈ ss, s.size <= 9223372036854775807
set_option maxHeartbeats 1000000 in
theorem pcheckA_wide (a : Option Addr) (len cap : Nat) (ss : List ByteArray) (w : World) (hr : RdT w a ss) (hl : ss.length = len) (hm : labsOk ss -> nsz ss <= 1000000000000000) (hlen : len <= 9223372036854775807) (hz : ∀ s ∈ ss, s.size <= 9223372036854775807) :
   Calls Tryz.prog 46 #[.slice a len cap] w fun e w' => e = .returned (.int .i64 (nck ss)) /\ w' = w := by
 have HR : Hid (RdT w a ss /\ ∀ s ∈ ss, s.size <= 9223372036854775807) := ⟨hr, hz⟩
 have HL : Hid (ss.length = len) := hl
 have HS : Hid (labsOk ss -> ∀ W, RdT W a ss -> Calls Tryz.prog 87 #[.slice a len cap] W fun e w' => e = .returned (.int .i64 (nsz ss)) /\ w' = W) := fun ho W hW => psize_eq a len cap ss W hW hl (hm ho)
 obtain ⟨T, hT⟩ : ∃ T, nsz ss = T := ⟨_, rfl⟩
 have HT : Hid (nsz ss = T) := hT
 rw [hT] at HS
 clear hr hl hT hz hm
 go_enter Tryz.func46, Tryz.ntmps46
 go_wp2_with fail
 go_loopw [8] (fun x wr => ∃ k : Nat, k <= len /\ x = .int .i64 k /\ wr = w /\ Hid (∀ i (h : i < ss.length), i < k -> chk ss[i].size = 0)) (fun x _ => len - (intOf x).toNat)
 case atStart => exact ⟨0, Nat.zero_le _, rfl, rfl, fun i _ h => absurd h (by omega)⟩
 case round =>
   obtain ⟨k, hk, rfl, rfl, HK⟩ := hrel
   by_cases hlt : k < len
   · have hlt' : (k : Int) < (len : Int) := by omega
     have hks : k < ss.length := by rw [HL.out]; exact hlt
     obtain ⟨b, o, rfl, hb, hc⟩ := HR.out.1.at k hks
     have HC : Hid (∀ W, Calls Tryz.prog 86 #[.string ss[k]] W fun e w' => e = .returned (.int .i64 (chk ss[k].size)) /\ w' = W) := fun W => chk_any ss[k] W (HR.out.2 _ (List.getElem_mem hks))
     rcases chk_cases ss[k].size with hk0 | hk4
     · have HN : Hid (∀ i (h : i < ss.length), i < k + 1 -> chk ss[i].size = 0) := by
         intro i h hi
         by_cases e : i = k
         · subst e; exact hk0
         · exact HK.out i h (by omega)
       rw [hk0] at HC
       clear hk0 HK
       generalize ss[k] = s at *
       go_wp2_with fail
       refine (HC.out _).mono ?_
       rintro e w1 ⟨rfl, rfl⟩
       go_wp2
       exact ⟨⟨k + 1, by omega, by go_num, trivial, HN⟩, by simp [intOf]; omega⟩
     · have HE : Hid (nck ss = 4) := by
         show nck ss = 4
         unfold nck
         rw [if_neg (fun h => by have := h _ (List.getElem_mem hks); rw [hk4] at this; cases this)]
       rw [hk4] at HC
       clear hk4 HK
       generalize ss[k] = s at *
       go_wp2_with fail
       refine (HC.out _).mono ?_
       rintro e w1 ⟨rfl, rfl⟩
       go_wp2
       go_ret
       exact ⟨by rw [HE.out]; rfl, rfl⟩
   · have hge : (len : Int) <= (k : Int) := by omega
     have HO : Hid (labsOk ss) := by
       intro s hs
       obtain ⟨i, hi, rfl⟩ := List.getElem_of_mem hs
       exact HK.out i hi (by have := HL.out; omega)
     by_cases hb : 255 < T
     · have HE : Hid (nck ss = 5) := by show nck ss = 5; unfold nck; rw [if_pos HO.out, HT.out, if_pos hb]
       have hb' : (255 : Int) < (T : Int) := by omega
       clear HK
       go_wp2_with fail
       refine (HS.out HO.out _ HR.out.1).mono ?_
       rintro e w1 ⟨rfl, rfl⟩
       go_wp2
       go_ret
       exact ⟨by rw [HE.out]; rfl, rfl⟩
     · have HE : Hid (nck ss = 0) := by show nck ss = 0; unfold nck; rw [if_pos HO.out, HT.out, if_neg hb]
       have hb' : ¬ (255 : Int) < (T : Int) := by omega
       clear HK
       go_wp2_with fail
       refine (HS.out HO.out _ HR.out.1).mono ?_
       rintro e w1 ⟨rfl, rfl⟩
       go_wp2
       go_ret
       exact ⟨by rw [HE.out]; rfl, rfl⟩
theorem labs_nsz {ss : List ByteArray} (h : labsOk ss) : nsz ss <= 64 * ss.length + 1 := nsz_bd ss fun s hs => (chk_ok (h s hs)).2
theorem Arg.nm {w : World} {a : Option Addr} {n : Nat} {ss : List ByteArray} (h : Arg w a n ss) (hk : nck ss = 0) : Nm w a n ss := ⟨h.rd, h.len, by have := (nck_small hk).1; omega⟩
end Go.Proofs.YteplffhfeoephaaGreat
namespace Go.Proofs.YteplffhfeoephaaGreat
open Go.ChangeShapes Go.WideShapes Go.ChangeAt Go.RowKit Go.Shelf
attribute [local go_sem] Oper.semAt_some
abbrev Ix (n : Nat) := { k : Nat // k < n }
def iup (n : Nat) : Nat -> List (Ix n)
 | 0 => []
 | k + 1 => if h : k < n then iup n k ++ [⟨k, h⟩] else iup n k
theorem iup_succ {n k : Nat} (h : k < n) : iup n (k + 1) = iup n k ++ [⟨k, h⟩] := by simp [iup, h]
theorem iup_len {n : Nat} : ∀ {k : Nat}, k <= n -> (iup n k).length = k
 | 0, _ => rfl
 | k + 1, h => by rw [iup_succ (by omega), List.length_append, iup_len (by omega)]; rfl
def KpS (Bs : Nat) (A B : World) : Prop := ∀ v, Boxed A Bs 9 v -> Boxed B Bs 9 v
theorem kpS_t {Bs : Nat} {A B C : World} (h : KpS Bs A B) (k : KpS Bs B C) : KpS Bs A C := fun v hv => k v (h v hv)
theorem kpS_b {Bs : Nat} {w : World} (W : World) (l : Nat) (o o' : Obj) (hl : w.heap.size <= l) (h : W.heap[l]? = some o) (hc : o.isCells = false) (hw : o.isWalk = false) : KpS Bs W (W.putObj l o') :=
 fun v hv => hv.kept (grownBy_putObj' W l o') (fun e => by cases e; rw [show W.heap[Bs]? = _ from hv] at h; cases h; cases hc)
theorem tails_any (s : ByteArray) (w : World) : Calls Tryz.prog 177 #[.string s] w fun e w' => e = .returned (.func (.func 192) #[] #[.pointer (some ⟨w.heap.size, 0, none⟩)]) /\ w' = w.alloc (.cells #[.string s] 9) := by
 go_enter Tryz.func177, Tryz.ntmps177
 go_wp2
 go_ret
 exact ⟨rfl, rfl⟩
theorem qkey_byte (ss : List ByteArray) (h : labsOk ss) (p k : Nat) (hp : p < (qkey ss).size) (hk : k < ss.length) (e : p = offs ss k) : ((qkey ss)[p].toNat : Int) = (ss[k].size : Int) := by
 have := qkey_at ss h k hk
 rw [<- e, nums_at _ p hp] at this
 exact this
theorem qkey_byte0 (ss : List ByteArray) (h : labsOk ss) (p : Nat) (hp : p < (qkey ss).size) (e : p = offs ss ss.length) : ((qkey ss)[p].toNat : Int) = 0 := by
 have := qkey_end ss h
 rw [<- e, nums_at _ p hp] at this
 exact this
set_option maxHeartbeats 2000000 in
theorem tails1_in (F : Fence) (n : Nat) (h59 : F.fn 192) (hro : F.round = none) (hn : 1 <= n) (l Bs : Nat) (ss : List ByteArray) (hk : nck ss = 0) (J Jx : List (Ix ss.length) -> World -> Prop)
   (hY : ∀ pre x W, J pre W -> pre.length < ss.length -> YieldAt F (n - 1) Tryz.prog l #[.int .i64 (offs ss x.1 : Nat)] W fun e W' =>
     (e = .returned (.bool true) /\ J (pre ++ [x]) W' /\ KpS Bs W W') ∨ (e = .returned (.bool false) /\ Jx (pre ++ [x]) W'))
   (W : World) (hBs : Boxed W Bs 9 (.string (qkey ss))) (h0 : J [] W) :
   CallsIn F n Tryz.prog 192 #[.func (.yield l) #[] #[], .pointer (some ⟨Bs, 0, none⟩)] W fun e W' => (∃ v, e = .returned v) /\
     ((∃ ys, ys = iup ss.length ss.length /\ J ys W') ∨ (∃ pre, (∃ k, k <= ss.length /\ pre = iup ss.length k) /\ Jx pre W')) := by
 have HO : Hid (labsOk ss /\ nsz ss <= 255) := ⟨labs_of hk, (nck_small hk).1⟩
 obtain ⟨s, hs⟩ : ∃ s, qkey ss = s := ⟨_, rfl⟩
 have HS : Hid (qkey ss = s) := hs
 rw [hs] at hBs
 have hz : s.size <= 255 := by rw [<- hs, qkey_size]; exact HO.out.2
 clear hs
 refine callsIn_of_wp Tryz.func192 rfl h59 ?_ hro
 simp only [Tryz.ntmps192, List.size_toArray, List.length_cons, List.length_nil, Nat.reduceAdd, Nat.reduceSub, Array.replicate_succ, Array.replicate_zero, List.push_toArray, List.append_toArray, List.nil_append, List.cons_append]
 gi_wp2
 gi_loopw [3] (fun i wr => ∃ (k p : Nat), k <= ss.length /\ p <= 255 /\ Hid (p = offs ss k) /\ i = .int .i64 p /\ J (iup ss.length k) wr /\ KpS Bs W wr)
   (fun i _ => 255 - (intOf i).toNat)
 case atStart => exact ⟨0, 0, Nat.zero_le _, by omega, (offs_zero ss).symm, rfl, h0, fun _ h => h⟩
 case round =>
   obtain ⟨k, p, hkl, hp255, HP, rfl, hJs, hnx⟩ := hrel
   have hcB := (hnx _ hBs).cell
   have hps : p < s.size := by rw [<- HS.out, qkey_size, HP.out]; have := offs_le ss k; omega
   have hps' : (p : Int) < (s.size : Int) := by omega
   by_cases hlt : k < ss.length
   · have hby : (s[p].toNat : Int) = (ss[k].size : Int) := by
       have hx : p < (qkey ss).size := by rw [HS.out]; exact hps
       have := qkey_byte ss HO.out.1 p k hx hlt HP.out
       simpa [HS.out] using this
     have hsz := chk_ok (HO.out.1 ss[k] (List.getElem_mem hlt))
     have HP2 : Hid (p + 1 + ss[k].size = offs ss (k + 1)) := (show _ = _ by rw [offs_succ ss k hlt, <- HP.out])
     have hp2 : p + 1 + ss[k].size <= 255 := by rw [HP2.out]; have := offs_le ss (k + 1); have := HO.out.2; omega
     obtain ⟨fn, tmps, assign, body, hy, hRd⟩ := hY _ ⟨k, hlt⟩ wr hJs (by rw [iup_len hkl]; exact hlt)
     dsimp only at hy
     rw [<- HP.out] at hy
     rw [<- iup_succ hlt] at hRd
     generalize ss[k].size = z at *
     have hz0 : ((z : Int) == 0) = false := by simp; omega
     have hz1 : ((z : Int) != 0) = true := by simp; omega
     gi_wp2
     refine hRd.mono ?_
     rintro e W3 (⟨rfl, hJ3, hk3⟩ | ⟨rfl, hJx3⟩)
     · have hcB3 := (hk3 _ (hnx _ hBs)).cell
       gi_wp2
       go_roundw
       case rel => exact ⟨k + 1, p + 1 + z, by omega, hp2, HP2, by go_num, hJ3, kpS_t hnx hk3⟩
       case measure => simp [intOf]; omega
     · gi_wp2
       go_end0
       exact ⟨⟨_, rfl⟩, .inr ⟨_, ⟨k + 1, by omega, rfl⟩, hJx3⟩⟩
   · obtain rfl : k = ss.length := by omega
     have hby : (s[p].toNat : Int) = 0 := by
       have hx : p < (qkey ss).size := by rw [HS.out]; exact hps
       have := qkey_byte0 ss HO.out.1 p hx HP.out
       simpa [HS.out] using this
     gi_wp2
     refine ⟨fun f h => (by cases h), ?_⟩
     gi_wp2
     go_end0
     exact ⟨⟨_, rfl⟩, .inl ⟨_, rfl, hJs⟩⟩
theorem tails_stops (F : Fence) (n : Nat) (h59 : F.fn 192) (hro : F.round = none) (hn : 1 <= n) (Bs : Nat) (ss : List ByteArray) (hk : nck ss = 0) (w0 : World) (hBs : Boxed w0 Bs 9 (.string (qkey ss))) :
   SeqStopsK F n Tryz.prog 192 #[.pointer (some ⟨Bs, 0, none⟩)] (fun x : Ix ss.length => #[Value.int .i64 (offs ss x.1 : Nat)]) (KpS Bs) (fun ys => ys = iup ss.length ss.length) (fun pre => ∃ k, k <= ss.length /\ pre = iup ss.length k) ss.length w0 := fun l J Jx W hW _ _ hY h0 =>
 tails1_in F n h59 hro hn l Bs ss hk J Jx hY W ((hW.block Bs hBs.lt).trans hBs) h0
end Go.Proofs.YteplffhfeoephaaGreat
namespace Go.Proofs.YteplffhfeoephaaGreat
open Go.ChangeShapes Go.WideShapes Go.ChangeAt Go.RowKit Go.Shelf
def noDefer (o : Oper) : Bool := match o.op with
 | .defer _ => false
 | _ => true
theorem noDefer_ne {o : Oper} (h : noDefer o = true) : ∀ c, o.op ≠ .defer c := by
 intro c e
 unfold noDefer at h
 rw [e] at h
 cases h
theorem wpIn_op_round {F : Fence} {n l : Nat} {P : Program} {o : Oper} {a : Act} {w : World} {K : Act -> World -> Prop} {Q : Exit -> Act -> World -> Prop} (hd : noDefer o = true) (h : o.wpIn F n P a w K Q) : o.wpIn (F.inRound l) n P a w K Q := by
 obtain ⟨h1, h2⟩ := h
 refine ⟨h1, ?_⟩
 rw [Oper.semAt_eq _ _ _ (noDefer_ne hd)] at h2 ⊢
 exact h2
theorem wpAny_round {F : Fence} {n l : Nat} {P : Program} {md : Region.Mode} {ops : Array Oper} {Q : Exit -> Act -> World -> Prop} (hd : ∀ (i : Nat) (o : Oper), ops[i]? = some o -> noDefer o = true) :
   ∀ (fuel : Nat) (listed : Array Bool) (a : Act) (w : World), wpAnyIn F n P md ops Q fuel listed a w -> wpAnyIn (F.inRound l) n P md ops Q fuel listed a w
 | 0, _, _, _, h => h
 | fuel + 1, listed, a, w, h => by
   refine ⟨h.1, fun i hi => ?_⟩
   have hx := h.2 i hi
   unfold wpOpIn at hx ⊢
   cases ho : ops[i]? with
   | none => simp only [ho] at hx ⊢; exact wpAny_round hd fuel _ _ _ hx
   | some o =>
     simp only [ho] at hx ⊢
     by_cases hw : Region.wanted o (yielded ops a.tmps) = true
     · rw [if_pos hw] at hx ⊢
       exact wpIn_op_round (hd i o ho) (Oper.wpIn_mono (fun a' w' h' => wpAny_round hd fuel _ a' w' h') hx)
     · rw [if_neg hw] at hx ⊢
       exact ⟨hx.1, wpAny_round hd fuel _ _ _ hx.2⟩
theorem region_round {F : Fence} {n r id : Nat} {P : Program} {Q : Exit -> Act -> World -> Prop} {a : Act} {w : World} {l : List Oper} (hro : F.round = none) (hd : l.all noDefer = true) (hm : P.follows .mixedOrders = true) (hB : Region.lexB .any l.toArray = true)
   (h : wpQuietIn F n P l.toArray (fun w' => ∃ k, w' = w.drewN k) (fun a' => ∀ w', (∃ k, w' = w.drewN k) -> Q .normal a' w') l a) : (Code.region id l.toArray true).wpIn (F.inRound r) n P Q a w := by
 simp only [Region.lexB, Bool.and_eq_true] at hB
 refine wpIn_region_any hm (wpAny_round ?_ _ _ _ _ (wpAnyIn_of_quiet (C := fun w' => ∃ k, w' = w.drewN k) (Q := fun a' => ∀ w', (∃ k, w' = w.drewN k) -> Q .normal a' w') hro (fun _ w' hw' h => h w' hw') _ _ _ _ ⟨1, rfl⟩ ?_))
 · intro i o ho
   have : l[i]? = some o := by simpa using ho
   exact List.all_eq_true.1 hd o (List.mem_of_getElem? this)
 · have := wpAnyQIn_lex (F := F) (n := n) (P := P) (C := fun w' => ∃ k, w' = w.drewN k) (md := .any) (ops := l.toArray) (Q := fun a' => ∀ w', (∃ k, w' = w.drewN k) -> Q .normal a' w') hB.1 l 0 (Array.replicate l.toArray.size false) a (by simp) (by simpa using hB.2) h
   simpa using this
end Go.Proofs.YteplffhfeoephaaGreat
namespace Go.Proofs.YteplffhfeoephaaGreat
open Go.ChangeShapes Go.WideShapes Go.ChangeAt Go.RowKit Go.Maps
theorem run_append_cut (w : World) (ty : TypeId) (x : Addr) (n : Nat) (olds : List Int) (hr : Rd w (some x) olds) (hl : olds.length = n) (ao : Option Addr) (m c : Nat) (news : List Int) (hrn : Rd w ao news) (hln : news.length = m) (h1 : 1 <= m) (hb : n + m <= 100000) :
   ∃ v' w' ys, (Builtin.append_ #[29, 29] ty #[.slice (some x) n n, .slice ao m c]).run Tryz.prog w = .ok v' w' /\ Own w.heap.size w' v' (n + m) ys /\ ys.take (n + m) = olds ++ news /\ Below w.heap.size w w' := by
 obtain ⟨i, hi, hz0, hz1, hz2⟩ := info_parts Tryz.info5
 have hs : Src Tryz.prog i.size 29 (.slice ao m c) m (news.map (Value.int .u8)) w := by rw [hz1]; exact src_bytes hrn hln
 have hold : (Builtin.firstCells i.size n (.slice (some x) n n)).run Tryz.prog w.drew = .ok (olds.map (Value.int .u8)).toArray w.drew := by
   refine run_firstCells_some (P := Tryz.prog) w.drew i.size n x n n (olds.map (Value.int .u8)) (by rw [hz1]; simp [hl]) ?_
   intro j v hv
   have := rd_cells hr j v hv
   exact this
 have hr' := run_append_grow_src (P := Tryz.prog) w 29 29 ty 5 i (.int .u8 0) Tryz.underlying29 hi hz0 (some x) n n (olds.map (Value.int .u8)) hold (.slice ao m c) m (news.map (Value.int .u8)) hs (by omega) (by omega) (growslice_fits (by omega) (by rw [hz2]; omega))
 have hge := grownCap_ge w (n + m) n 5
 have hle := grownCap_le_maxLen w (n + m) n 5 (by unfold maxLen; omega)
 rw [zeros_eq] at hr'
 have e1 : ((olds.map (Value.int .u8) ++ news.map (Value.int .u8)).toArray ++ ((List.replicate (grownCap w (n + m) n 5 - (n + m)) (0 : Int)).map (Value.int .u8)).toArray) = ((olds ++ news ++ List.replicate (grownCap w (n + m) n 5 - (n + m)) 0).map (Value.int .u8)).toArray := by simp
 rw [e1] at hr'
 have hlen : (olds ++ news ++ List.replicate (grownCap w (n + m) n 5 - (n + m)) (0 : Int)).length = grownCap w (n + m) n 5 := by
   simp only [List.length_append, hl, hln, List.length_replicate]; omega
 refine ⟨_, _, olds ++ news ++ List.replicate (grownCap w (n + m) n 5 - (n + m)) 0, hr', .inr ⟨w.heap.size, by rw [hlen], Nat.le_refl _, ⟨heap_alloc_new w.drew _, ?_⟩, by rw [hlen]; exact hge, by rw [hlen]; exact hle⟩, ?_, ⟨rfl, rfl, rfl, by simp, fun k hk => Below.heap_alloc w.drew _ k hk⟩⟩
 · intro z hz
   simp only [List.mem_append, List.mem_replicate] at hz
   rcases hz with (hz | hz) | ⟨_, rfl⟩
   · exact hr.2 z hz
   · exact hrn.2 z hz
   · omega
 · rw [List.take_append_of_le_length (by simp only [List.length_append, hl, hln]; omega)]
   exact List.take_of_length_le (by simp only [List.length_append, hl, hln]; omega)
theorem wpListIn_append_eq {F : Fence} {nF : Nat} {P : Program} (w : World) {ops : Array Oper} {rest : List Oper} {o : Oper} {a : Act} {Q : Exit -> Act -> World -> Prop} (hgd : o.guard = none) (s x : Operand) (t1 t2 : TypeId)
   (ho : o.op = .call { callee := .builtin .append, args := #[s, x], argTypes := #[t1, t2] }) (v y v' : Value) (w' : World) (hs : a.eval s = v) (hx : a.eval x = y) (hr : (Builtin.append_ #[t1, t2] o.type #[v, y]).run P w = .ok v' w')
   (h : wpListIn F nF P ops Q rest (a.put o.dst v') w') : wpListIn F nF P ops Q (o :: rest) a w := by
 refine wpListIn_plain hgd fun K hK => ?_
 unfold Oper.wpIn
 refine ⟨by simp [Oper.about, ho, resolve, Target.leads, Sem.run_pure], ?_⟩
 rw [Oper.semAt_plain F _ _ (by rw [ho]; intro c hc'; cases hc')]
 simp [execOp, ho, resolve, invoke, builtin, hs, hx, hr, Result.andThen]
 exact hK _ _ h
end Go.Proofs.YteplffhfeoephaaGreat
