/- Bytes that can be read in memory, as lists of numbers; numbers out of bytes. No text of the program is used here. -/
import Derived.WalkKit
import Derived.ProofKit
import Derived.Below
import Derived.Laws.BitsAllLaws
namespace Go.Proofs.YtgdkeafjglcgaaaDoor
open Go.ChangeShapes Go.WideShapes Go.ChangeAt Go.RowKit




/-- From the address on the numbers lie there, each a byte. -/
def Rd (w : World) (a : Option Addr) (zs : List Int) : Prop :=
  (zs = [] ∨ ∃ b o, a = some ⟨b, o, none⟩ ∧ b < w.heap.size ∧ ∀ i, i < zs.length → w.cell? ⟨b, o + i, none⟩ = some (.int .u8 (zs.getD i 0))) ∧ ∀ z ∈ zs, 0 ≤ z ∧ z ≤ 255
theorem Rd.bd {w : World} {a : Option Addr} {zs : List Int} (h : Rd w a zs) (i : Nat) : 0 ≤ zs.getD i 0 ∧ zs.getD i 0 ≤ 255 := by
  by_cases hi : i < zs.length
  · have := h.2 (zs.getD i 0) (by rw [List.getD_eq_getElem?_getD, List.getElem?_eq_getElem hi]; simp)
    exact this
  · rw [List.getD_eq_getElem?_getD, List.getElem?_eq_none (by omega)]; simp
theorem Rd.of_blocks {w w' : World} {a : Option Addr} {zs : List Int} (h : Rd w a zs) (hs : w.heap.size ≤ w'.heap.size) (hb : ∀ b o, a = some ⟨b, o, none⟩ → w'.heap[b]? = w.heap[b]?) : Rd w' a zs := by
  refine ⟨?_, h.2⟩
  rcases h.1 with h1 | ⟨b, o, rfl, h1, h2⟩
  · exact .inl h1
  · refine .inr ⟨b, o, rfl, by omega, fun i hi => ?_⟩
    rw [← h2 i hi]
    exact World.cell?_of_block (w := w) (hb b o rfl)
theorem Rd.below {w w' : World} {a : Option Addr} {zs : List Int} (h : Rd w a zs) (hb : Below w.heap.size w w') : Rd w' a zs := by
  refine ⟨?_, h.2⟩
  rcases h.1 with h1 | ⟨b, o, rfl, h1, h2⟩
  · exact .inl h1
  · refine .inr ⟨b, o, rfl, Nat.lt_of_lt_of_le h1 hb.size, fun i hi => ?_⟩
    rw [← h2 i hi]
    exact hb.cell (p := ⟨b, o + i, none⟩) h1
theorem Rd.cut {w : World} {a : Option Addr} {zs : List Int} (h : Rd w a zs) (at_ n : Nat) (hn : at_ + n ≤ zs.length) {a' : Option Addr}
    (ha : 0 < n → ∀ b o, a = some ⟨b, o, none⟩ → a' = some ⟨b, o + at_, none⟩) : Rd w a' ((zs.drop at_).take n) := by
  refine ⟨?_, fun z hz => h.2 z (List.mem_of_mem_drop (List.mem_of_mem_take hz))⟩
  by_cases h0 : n = 0
  · left; subst h0; simp
  · rcases h.1 with h1 | ⟨b, o, rfl, h1, h2⟩
    · subst h1; simp at hn; omega
    · refine .inr ⟨b, o + at_, ha (by omega) b o rfl, h1, fun i hi => ?_⟩
      have hi' : i < n := by simp at hi; omega
      have := h2 (at_ + i) (by omega)
      rw [Nat.add_assoc, this]
      congr 2
      simp [List.getD_eq_getElem?_getD, hi', List.getElem?_drop]
/-- The number that bytes are, the first the greatest. -/
def val (zs : List Int) : Int := zs.foldl (fun n c => n * 256 + c) 0
theorem val_snoc (zs : List Int) (c : Int) : val (zs ++ [c]) = val zs * 256 + c := by
  simp [val, List.foldl_append]
theorem val_bd (zs : List Int) (h : ∀ z ∈ zs, 0 ≤ z ∧ z ≤ 255) : 0 ≤ val zs ∧ val zs < 256 ^ zs.length := by
  have : ∀ (l : List Int) (n : Int) (k : Nat), (∀ z ∈ l, 0 ≤ z ∧ z ≤ 255) → 0 ≤ n → n < 256 ^ k → 0 ≤ l.foldl (fun n c => n * 256 + c) n ∧ l.foldl (fun n c => n * 256 + c) n < 256 ^ (k + l.length) := by
    intro l; induction l with
    | nil => intro n k _ h1 h2; exact ⟨h1, h2⟩
    | cons c l ih =>
      intro n k hl h1 h2
      have hc := hl c (by simp)
      have := ih (n * 256 + c) (k + 1) (fun z hz => hl z (by simp [hz])) (by omega) (by rw [Int.pow_succ]; omega)
      simpa [Nat.add_assoc, Nat.add_comm 1] using this
  have t := this zs 0 0 h (by omega) (by simp)
  rw [Nat.zero_add] at t
  exact t
theorem take_snoc (zs : List Int) (k : Nat) (h : k < zs.length) : zs.take (k + 1) = zs.take k ++ [zs.getD k 0] := by
  rw [List.take_succ_eq_append_getElem h]; simp [List.getD_eq_getElem?_getD, List.getElem?_eq_getElem h]
theorem val_small (zs : List Int) (h : ∀ z ∈ zs, 0 ≤ z ∧ z ≤ 255) (k : Nat) (hk : k ≤ 3) : 0 ≤ val (zs.take k) ∧ val (zs.take k) < 16777216 := by
  have hb := val_bd (zs.take k) (fun z hz => h z (List.mem_of_mem_take hz))
  have hp : (256 : Int) ^ (zs.take k).length ≤ 256 ^ 3 := by
    have hl : (zs.take k).length ≤ 3 := by simp; omega
    generalize (zs.take k).length = m at hl
    have : m = 0 ∨ m = 1 ∨ m = 2 ∨ m = 3 := by omega
    rcases this with rfl | rfl | rfl | rfl <;> decide
  have h3 : (256 : Int) ^ 3 = 16777216 := by decide
  omega
theorem val_small4 (zs : List Int) (h : ∀ z ∈ zs, 0 ≤ z ∧ z ≤ 255) (hk : zs.length ≤ 4) : 0 ≤ val zs ∧ val zs < 4294967296 := by
  have hb := val_bd zs h
  have hp : (256 : Int) ^ zs.length ≤ 256 ^ 4 := by
    generalize zs.length = m at hk
    have : m = 0 ∨ m = 1 ∨ m = 2 ∨ m = 3 ∨ m = 4 := by omega
    rcases this with rfl | rfl | rfl | rfl | rfl <;> decide
  have h3 : (256 : Int) ^ 4 = 4294967296 := by decide
  omega
theorem u32_join (v c : Int) (h1 : 0 ≤ v) (h2 : v < 16777216) (h3 : 0 ≤ c) (h4 : c ≤ 255) :
    bits .or .u32 (v * 256) (c % 4294967296) = v * 256 + c := by
  have e2 : c % 4294967296 = c := Int.emod_eq_of_lt (by omega) (by omega)
  rw [e2, u32_or _ _ (by omega) (by omega) (by omega) (by omega)]
  have := nat_join 8 (v * 256).toNat c.toNat (by omega) (by omega)
  rw [this]; omega
theorem u64_step (v c : Int) (h1 : 0 ≤ v) (h2 : v < 16777216) (h3 : 0 ≤ c) (h4 : c ≤ 255) :
    IntKind.u64.wrap (v * 256 + IntKind.u64.wrap c) = v * 256 + c := by
  rw [IntKind.wrap_u64, IntKind.wrap_u64]; omega
/-- A block that holds just these bytes, and may be written. -/
def Blk (w : World) (g : Nat) (zs : List Int) : Prop :=
  w.heap[g]? = some (.cells (zs.map (Value.int .u8)).toArray 5 (0, 0)) ∧ ∀ z ∈ zs, 0 ≤ z ∧ z ≤ 255
theorem Blk.lt {w : World} {g : Nat} {zs : List Int} (h : Blk w g zs) : g < w.heap.size := by
  have := h.1
  by_cases hg : g < w.heap.size
  · exact hg
  · rw [Array.getElem?_eq_none (by omega)] at this; cases this
theorem Blk.same {w w' : World} {g : Nat} {zs : List Int} (h : Blk w g zs) (hb : w'.heap[g]? = w.heap[g]?) : Blk w' g zs := ⟨hb.trans h.1, h.2⟩
theorem Blk.below {w w' : World} {g : Nat} {zs : List Int} (h : Blk w g zs) (hb : Below w.heap.size w w') : Blk w' g zs := h.same (hb.block g h.lt)
theorem Blk.cell {w : World} {g : Nat} {zs : List Int} (h : Blk w g zs) (i : Nat) (hi : i < zs.length) : w.cell? ⟨g, i, none⟩ = some (.int .u8 (zs.getD i 0)) := by
  simp [World.cell?, h.1, hi]
theorem Blk.frozen {w : World} {g : Nat} {zs : List Int} (h : Blk w g zs) (i : Nat) : w.frozen? ⟨g, i, none⟩ = false := by
  simp [World.frozen?, h.1]
theorem Blk.rd {w : World} {g : Nat} {zs : List Int} (h : Blk w g zs) (n : Nat) : Rd w (some ⟨g, 0, none⟩) (zs.take n) := by
  refine ⟨.inr ⟨g, 0, rfl, h.lt, fun i hi => ?_⟩, fun z hz => h.2 z (List.mem_of_mem_take hz)⟩
  rw [Nat.zero_add, h.cell i (by simp at hi; omega)]
  have : i < n := by simp at hi; omega
  simp [List.getD_eq_getElem?_getD, this]
theorem Rd.drew {w : World} {a : Option Addr} {zs : List Int} (h : Rd w a zs) : Rd w.drew a zs := h.below (Below.refl _ _).drew
theorem Blk.drew {w : World} {g : Nat} {zs : List Int} (h : Blk w g zs) : Blk w.drew g zs := h
end Go.Proofs.YtgdkeafjglcgaaaDoor
