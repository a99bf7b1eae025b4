/- Folded texts, as the program and as the document make them; how two texts are compared. -/
import Derived.Test.YtfnpiknobmecbaaByt
import Derived.Lib.Bytealg
namespace Go.Proofs.Ytfnpiknobmecbaa
open Go.ChangeShapes Go.WideShapes Go.ChangeAt Go.RowKit
set_option linter.unusedVariables false
set_option linter.unusedSimpArgs false


def fz (z : Int) : Int := if 65 ≤ z ∧ z ≤ 90 then z + 32 else z
theorem fz_bd (z : Int) (h : 0 ≤ z ∧ z ≤ 255) : 0 ≤ fz z ∧ fz z ≤ 255 := by unfold fz; split <;> omega
/-- A block that came out of a text. -/
def Blk2 (w : World) (g : Nat) (zs : List Int) : Prop :=
  w.heap[g]? = some (.cells (zs.map (Value.int .u8)).toArray 5 (zs.length, zs.length + 1)) ∧ ∀ z ∈ zs, 0 ≤ z ∧ z ≤ 255
theorem Blk2.lt {w : World} {g : Nat} {zs : List Int} (h : Blk2 w g zs) : g < w.heap.size := (Array.getElem?_eq_some_iff.1 h.1).1
theorem Blk2.cell {w : World} {g : Nat} {zs : List Int} (h : Blk2 w g zs) (i : Nat) (hi : i < zs.length) : w.cell? ⟨g, i, none⟩ = some (.int .u8 (zs.getD i 0)) := by
  simp [World.cell?, h.1, hi]
theorem Blk2.frozen {w : World} {g : Nat} {zs : List Int} (h : Blk2 w g zs) (i : Nat) (hi : i < zs.length) : w.frozen? ⟨g, i, none⟩ = false := by
  simp [World.frozen?, h.1]; omega
theorem Blk2.rd {w : World} {g : Nat} {zs : List Int} (h : Blk2 w g zs) (n : Nat) : Rd w (some ⟨g, 0, none⟩) (zs.take n) := by
  refine ⟨.inr ⟨g, 0, rfl, h.lt, fun i hi => ?_⟩, fun z hz => h.2 z (List.mem_of_mem_take hz)⟩
  rw [Nat.zero_add, h.cell i (by simp at hi; omega)]
  have : i < n := by simp at hi; omega
  simp [List.getD_eq_getElem?_getD, this]
theorem Blk2.stored {w : World} {g : Nat} {zs : List Int} (h : Blk2 w g zs) (i : Nat) (z : Int) (hz : 0 ≤ z ∧ z ≤ 255) : Blk2 (w.setCell ⟨g, i, none⟩ (.int .u8 z)) g (zs.set i z) := by
  refine ⟨?_, fun x hx => ?_⟩
  · have hg := h.lt
    have h1 := h.1
    have e : w.heap[g] = .cells (zs.map (Value.int .u8)).toArray 5 (zs.length, zs.length + 1) := by
      rw [Array.getElem?_eq_getElem hg] at h1; exact Option.some.inj h1
    simp [World.setCell, hg, Array.getElem_modify, e, List.map_set]
  · rcases List.mem_or_eq_of_mem_set hx with hx | hx
    · exact h.2 x hx
    · subst hx; exact hz
theorem bytesRow_nums (s : ByteArray) (c : Nat) : bytesRow s c = ((nums s ++ List.replicate (c - s.size) 0).map (Value.int .u8)).toArray := by
  apply Array.ext'
  simp [bytesRow, nums]
theorem nums_bds (s : ByteArray) : ∀ z ∈ nums s, 0 ≤ z ∧ z ≤ 255 := by
  intro z hz
  simp only [nums, List.mem_map] at hz
  obtain ⟨b, _, rfl⟩ := hz
  have := b.toNat_lt
  omega
theorem conv_new (s : ByteArray) (w : World) : ∃ zs : List Int, (convert 9 27 (.string s)).run Try.prog w = .ok (.slice (some ⟨w.heap.size, 0, none⟩) s.size zs.length) (w.drew.alloc (.cells (zs.map (Value.int .u8)).toArray 5 (zs.length, zs.length + 1))) ∧
    Blk2 (w.drew.alloc (.cells (zs.map (Value.int .u8)).toArray 5 (zs.length, zs.length + 1))) w.heap.size zs ∧ zs.take s.size = nums s ∧ s.size ≤ zs.length := by
  have h := run_bytes_of_string (P := Try.prog) w 9 27 5 s Try.underlying9 Try.underlying27 Try.underlying5
  have hge := grownCap_ge w s.size 0 5
  have hl : (nums s ++ List.replicate (grownCap w s.size 0 5 - s.size) 0).length = grownCap w s.size 0 5 := by
    rw [List.length_append, nums_len, List.length_replicate]; omega
  refine ⟨nums s ++ List.replicate (grownCap w s.size 0 5 - s.size) 0, ?_, ⟨heap_alloc_new w.drew _, ?_⟩, ?_, by rw [hl]; exact hge⟩
  · rw [h, bytesRow_nums, hl]
    simp only [List.size_toArray, List.length_map, hl]
  · intro z hz
    simp only [List.mem_append, List.mem_replicate] at hz
    rcases hz with hz | ⟨_, rfl⟩
    · exact nums_bds s z hz
    · omega
  · rw [List.take_append_of_le_length (by rw [nums_len]; exact Nat.le_refl _), List.take_of_length_le (by rw [nums_len]; exact Nat.le_refl _)]
/-- The first k bytes are folded, the others as they were. -/
def FSt (l zs : List Int) (k : Nat) : Prop := l.length ≤ zs.length ∧ ∀ i, i < l.length → zs.getD i 0 = if i < k then fz (l.getD i 0) else l.getD i 0
theorem FSt.done {l zs : List Int} (h : FSt l zs l.length) : zs.take l.length = l.map fz := by
  apply List.ext_getElem
  · simp [h.1]
  · intro i h1 h2
    have hi : i < l.length := by simpa using h2
    have := h.2 i hi
    rw [if_pos hi] at this
    simp [List.getD_eq_getElem?_getD, List.getElem?_eq_getElem hi, List.getElem?_eq_getElem (show i < zs.length by have := h.1; omega)] at this
    simp [this]
theorem FSt.zero {l zs : List Int} (h : zs.take l.length = l) (hl : l.length ≤ zs.length) : FSt l zs 0 := by
  refine ⟨hl, fun i hi => ?_⟩
  rw [if_neg (by omega)]
  conv => rhs; rw [← h]
  simp [List.getD_eq_getElem?_getD, List.getElem?_take, hi]
theorem FSt.same {l zs : List Int} {k : Nat} (h : FSt l zs k) (hf : fz (l.getD k 0) = l.getD k 0) : FSt l zs (k + 1) := by
  refine ⟨h.1, fun i hi => ?_⟩
  rw [h.2 i hi]
  by_cases e : i = k
  · subst e; rw [if_neg (by omega), if_pos (by omega), hf]
  · by_cases e2 : i < k
    · rw [if_pos e2, if_pos (by omega)]
    · rw [if_neg e2, if_neg (by omega)]
theorem FSt.set {l zs : List Int} {k : Nat} (h : FSt l zs k) (hk : k < l.length) : FSt l (zs.set k (fz (l.getD k 0))) (k + 1) := by
  refine ⟨by rw [List.length_set]; exact h.1, fun i hi => ?_⟩
  have hl := h.1
  by_cases e : i = k
  · subst e
    rw [if_pos (by omega)]
    simp [List.getD_eq_getElem?_getD, List.getElem?_set, show i < zs.length by omega]
  · have : (zs.set k (fz (l.getD k 0))).getD i 0 = zs.getD i 0 := by
      simp [List.getD_eq_getElem?_getD, List.getElem?_set, show ¬ k = i by omega]
    rw [this, h.2 i hi]
    by_cases e2 : i < k
    · rw [if_pos e2, if_pos (by omega)]
    · rw [if_neg e2, if_neg (by omega)]
/-- A text of bytes, as numbers: what it was made of. -/
theorem nums_txt (l : List Int) (h : ∀ z ∈ l, 0 ≤ z ∧ z ≤ 255) : nums ⟨(txt l).toArray⟩ = l := by
  unfold nums txt
  simp only [List.map_map]
  conv => rhs; rw [← List.map_id l]
  apply List.map_congr_left
  intro z hz
  have := h z hz
  simp
  omega
theorem txt_nums (s : ByteArray) : (⟨(txt (nums s)).toArray⟩ : ByteArray) = s := by
  have : txt (nums s) = s.data.toList := by
    unfold nums txt
    rw [List.map_map]
    conv => rhs; rw [← List.map_id s.data.toList]
    apply List.map_congr_left
    intro b _
    simp
  rw [this]
/-- The folded bytes. -/
def fl (s : ByteArray) : List Int := (nums s).map fz
theorem fl_len (s : ByteArray) : (fl s).length = s.size := by rw [fl, List.length_map, nums_len]
theorem fl_all (s : ByteArray) : ∀ z ∈ fl s, 0 ≤ z ∧ z ≤ 255 := by
  intro z hz
  simp only [fl, List.mem_map] at hz
  obtain ⟨y, hy, rfl⟩ := hz
  exact fz_bd y (nums_bds s y hy)
/-- How two are ordered. -/
def cmp (a b : ByteArray) : Int := Lib.compareBytes (txt (fl a)) (txt (fl b))
end Go.Proofs.Ytfnpiknobmecbaa
