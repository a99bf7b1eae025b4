/- Lists of names, and of truths, that came in. -/
import Derived.Test.YtfnpiknobmecbaaArg
import Derived.Deep.Grids
import Derived.Deep.Slices
namespace Go.Proofs.Ytfnpiknobmecbaa
open Go.ChangeShapes Go.WideShapes Go.ChangeAt Go.RowKit Go.Deep
set_option linter.unusedVariables false
set_option linter.unusedSimpArgs false

/-- A name in memory: where it lies, its labels. -/
structure Nmx where
  a : Option Addr
  n : Nat
  c : Nat
  ss : List ByteArray
def nvx (x : Nmx) : Value := .slice x.a x.n x.c
/-- A list of names that can be read. -/
structure NsOk (w : World) (a : Option Addr) (L : List Nmx) : Prop where
  rd : RdV w a (L.map nvx)
  ok : ∀ x ∈ L, Arg w x.a x.n x.ss
theorem NsOk.below {w w' : World} {a : Option Addr} {L : List Nmx} (h : NsOk w a L) (hb : Below w.heap.size w w') : NsOk w' a L := ⟨h.rd.below hb, fun x hx => (h.ok x hx).belowS hb⟩
theorem RdV.at {w : World} {a : Option Addr} {xs : List Value} (h : RdV w a xs) (i : Nat) (hi : i < xs.length) : ∃ b o, a = some ⟨b, o, none⟩ ∧ b < w.heap.size ∧ w.cell? ⟨b, o + i, none⟩ = some xs[i] := by
  rcases h with rfl | ⟨b, o, rfl, h1, h2⟩
  · simp at hi
  · exact ⟨b, o, rfl, h1, h2 i hi⟩
theorem NsOk.at {w : World} {a : Option Addr} {L : List Nmx} (h : NsOk w a L) (i : Nat) (hi : i < L.length) : ∃ b o, a = some ⟨b, o, none⟩ ∧ b < w.heap.size ∧ w.cell? ⟨b, o + i, none⟩ = some (nvx L[i]) := by
  obtain ⟨b, o, e, h1, h2⟩ := h.rd.at i (by simpa using hi)
  exact ⟨b, o, e, h1, by simpa using h2⟩
theorem list_of9 {α : Type} (n : Nat) (p : Nat → α → Prop) (h : ∀ i, i < n → ∃ x, p i x) : ∃ l : List α, l.length = n ∧ ∀ i (hi : i < l.length), p i l[i] := by
  induction n with
  | zero => exact ⟨[], rfl, fun i hi => absurd hi (Nat.not_lt_zero _)⟩
  | succ n ih =>
    obtain ⟨l, hl, hp⟩ := ih fun i hi => h i (by omega)
    obtain ⟨x, hx⟩ := h n (by omega)
    refine ⟨l ++ [x], by simp [hl], fun i hi => ?_⟩
    by_cases hi' : i < l.length
    · rw [List.getElem_append_left hi']; exact hp i hi'
    · have : i = n := by simp at hi; omega
      subst this
      rw [List.getElem_append_right (by omega)]
      simp [hl, hx]
variable {H : Type} {enc : TypeId × Value → H} {W : World}
theorem slice_of9 {t e : TypeId} (ht : Try.prog.underlying t = some (.slice e)) {v : Value} {fuel : Nat} {x : DataW H × List MemPlace} (hf : DataW.trod enc Try.prog W 0 (fun _ => true) true fuel t [v] = some x) : ∃ a n c, v = .slice a n c := by
  rcases DataW.trod_slice ht hf with ⟨hcs, _⟩ | ⟨a, len, cap, elems, rest, n, _, hcs, _⟩
  · simp at hcs; exact ⟨_, _, _, hcs⟩
  · simp at hcs; exact ⟨_, _, _, hcs⟩
theorem open_names9 {a : Option Addr} {len cap : Nat} {d : DataW H} {p : List MemPlace} (h : DataW.Trod enc Try.prog W 0 (fun _ => true) true 59 (Value.slice a len cap) d p) : ∃ L, NsOk W a L ∧ L.length = len ∧ len ≤ cap ∧ cap ≤ 9223372036854775807 := by
  obtain ⟨fuel, hf⟩ := h
  rcases open_slice1 Try.underlying59 (by kernel_rfl) hf with ⟨hcs, _⟩ | ⟨x, l, c, m, n, V, D, Pl, hcs, _, hl, hm, hmm, hx, hcell⟩
  · simp [Value.cells] at hcs
    obtain ⟨rfl, rfl, rfl⟩ := hcs
    exact ⟨[], ⟨.inl rfl, by simp⟩, rfl, Nat.le_refl _, by omega⟩
  · simp [Value.cells] at hcs
    obtain ⟨rfl, rfl, rfl⟩ := hcs
    have hmc : len ≤ m := by simp at hmm; omega
    have hex : ∀ i, i < len → ∃ y : Nmx, W.cell? (x.add i) = some (nvx y) ∧ Arg W y.a y.n y.ss := by
      intro i hi
      obtain ⟨h1, h2⟩ := hcell i (by omega)
      obtain ⟨a', n', c', e⟩ := slice_of9 Try.underlying33 h2
      rw [e] at h1 h2
      obtain ⟨ss, hA, _⟩ := open_name (d := _) (p := _) ⟨_, h2⟩
      exact ⟨⟨a', n', c', ss⟩, h1, hA⟩
    obtain ⟨L, hL, hp⟩ := list_of9 len _ hex
    refine ⟨L, ⟨?_, ?_⟩, hL, hl, by simp only [maxLen] at hm; exact hm⟩
    · by_cases h0 : len = 0
      · left
        have : L = [] := List.eq_nil_of_length_eq_zero (by omega)
        rw [this]; rfl
      · right
        obtain ⟨b, off, spot⟩ := x
        have hc0 := (hp 0 (by omega)).1
        have hspot : spot = none := by simpa [Addr.add] using World.cell?_spot hc0
        subst hspot
        have hlt : b < W.heap.size := by
          have := World.block_lt_of_cell? W _ hc0
          simpa [Addr.add] using this
        refine ⟨b, off, rfl, hlt, fun i hi => ?_⟩
        have hi' : i < L.length := by simpa using hi
        have := (hp i hi').1
        rw [Addr.add_lit] at this
        rw [this]
        simp
    · intro y hy
      obtain ⟨i, hi, rfl⟩ := List.getElem_of_mem hy
      exact (hp i hi).2
theorem open_bools9 {a : Option Addr} {len cap : Nat} {d : DataW H} {p : List MemPlace} (h : DataW.Trod enc Try.prog W 0 (fun _ => true) true 60 (Value.slice a len cap) d p) : ∃ bs : List Bool, RdV W a (bs.map Value.bool) ∧ bs.length = len ∧ len ≤ 9223372036854775807 := by
  obtain ⟨fuel, hf⟩ := h
  rcases open_bools Try.underlying60 Try.underlying4 (by kernel_rfl) hf with ⟨hcs, _⟩ | ⟨x, l, c, B, hcs, _, hl, hm, _, hcell⟩
  · simp [Value.cells] at hcs
    obtain ⟨rfl, rfl, rfl⟩ := hcs
    exact ⟨[], .inl rfl, rfl, by omega⟩
  · simp [Value.cells] at hcs
    obtain ⟨rfl, rfl, rfl⟩ := hcs
    refine ⟨(List.range len).map B, ?_, by simp, by simp only [maxLen] at hm; omega⟩
    by_cases h0 : len = 0
    · left; rw [h0]; rfl
    · right
      obtain ⟨b, off, spot⟩ := x
      have hc0 := hcell 0 (by omega)
      have hspot : spot = none := by simpa [Addr.add] using World.cell?_spot hc0
      subst hspot
      have hlt : b < W.heap.size := by
        have := World.block_lt_of_cell? W _ hc0
        simpa [Addr.add] using this
      refine ⟨b, off, rfl, hlt, fun i hi => ?_⟩
      have hi' : i < len := by simpa using hi
      have := hcell i (by omega)
      rw [Addr.add_lit] at this
      rw [this]
      simp
end Go.Proofs.Ytfnpiknobmecbaa
