/- Names that came in can be read. -/
import Derived.Test.YtkbpjaojgkpffaaOrdN
import Derived.WalkKit
import Derived.ProofKit
import Derived.OpenShut
import Derived.ShutString
import Derived.ChangeOld
import Derived.Below
import Derived.JoinedCond
import Derived.Deep.Strs
namespace Go.Proofs.Ytkbpjaojgkpffaa
open Go.ChangeShapes Go.WideShapes Go.ChangeAt Go.RowKit Go.Deep
set_option linter.unusedVariables false
set_option linter.unusedSimpArgs false

theorem bulk_strs {H : Type} (S : Nat → ByteArray) : ∀ rs : List Nat, nsz (rs.map S) = Rows.uptoBulkAll (rs.map fun i => DataW.lit (H := H) (.string (S i).data.toList)) + 1
  | [] => rfl
  | r :: rs => by
    have ih := bulk_strs (H := H) S rs
    have e : (S r).data.toList.length = (S r).size := by rw [Array.length_toList]; rfl
    simp only [List.map_cons, nsz, Rows.uptoBulkAll, Rows.uptoBulk]
    omega
/-- A name that came in. -/
theorem open_name {H : Type} {enc : TypeId × Value → H} {W : World} {a : Option Addr} {len cap : Nat} {d : DataW H} {p : List MemPlace}
    (h : DataW.Trod enc Try.prog W 0 (fun _ => true) true 23 (Value.slice a len cap) d p) :
    ∃ ss : List ByteArray, Arg W a len ss ∧ len ≤ cap ∧ cap ≤ 9223372036854775807 ∧ (a = none → cap = 0) ∧ nsz ss ≤ Rows.uptoBulk d := by
  obtain ⟨fuel, hf⟩ := h
  rcases open_strs Try.underlying23 Try.underlying9 (by kernel_rfl) hf with ⟨hcs, hx⟩ | ⟨x, l, c, m, S, hcs, _, hl, hm, hmm, hx, hcell⟩
  · simp [Value.cells] at hcs
    obtain ⟨rfl, rfl, rfl⟩ := hcs
    refine ⟨[], ⟨.inl rfl, rfl, by omega, by simp⟩, Nat.le_refl _, by omega, fun _ => rfl, ?_⟩
    rw [(Prod.mk.inj hx).1]
    simp [nsz, Rows.uptoBulk]
  · simp [Value.cells] at hcs
    obtain ⟨rfl, rfl, rfl⟩ := hcs
    have hmc : m = cap := by simpa using hmm
    refine ⟨(List.range len).map S, ⟨?_, by simp, by simp only [maxLen] at hm; omega, ?_⟩, hl, by simp only [maxLen] at hm; exact hm, by simp, ?_⟩
    · by_cases h0 : len = 0
      · left; rw [h0]; rfl
      · right
        obtain ⟨b, off, spot⟩ := x
        have hc0 := (hcell 0 (by omega)).1
        have hspot : spot = none := by simpa [Addr.add] using World.cell?_spot hc0
        subst hspot
        have hlt : b < W.heap.size := by
          have := World.block_lt_of_cell? W _ hc0
          simpa [Addr.add] using this
        refine ⟨b, off, rfl, hlt, fun i hi => ?_⟩
        have hi' : i < len := by simpa [tv] using hi
        have := (hcell i (by omega)).1
        rw [Addr.add_lit] at this
        rw [this]
        simp [tv]
    · intro s hs
      simp only [List.mem_map, List.mem_range] at hs
      obtain ⟨i, hi, rfl⟩ := hs
      have := (hcell i (by omega)).2
      simp only [maxLen] at this
      exact this
    · rw [(Prod.mk.inj hx).1, bulk_strs (H := H)]
      simp only [Rows.uptoBulk]
      omega
theorem n_own : ownKnob Try.prog.godebug = none := by kernel_rfl
theorem n_laidOut : laidOutB Try.prog = true := by kernel_rfl
end Go.Proofs.Ytkbpjaojgkpffaa
