/- The chapter's examples, call by call. -/
import Derived.Test.YtfnpiknobmecbaaSqy
import Derived.Test.YtfnpiknobmecbaaFld
namespace Go.Proofs.Ytfnpiknobmecbaa
open Go.ChangeShapes Go.WideShapes Go.ChangeAt Go.RowKit Go.Maps
set_option linter.unusedVariables false
set_option linter.unusedSimpArgs false

def k_B : ByteArray := ⟨#[1, 66, 0]⟩
def wp3 : List (ByteArray × Nat) := [(k_B, 9), (k_cb, 5), (k_b, 2), (k_ab, 0)]
def wx3 : List Int := [1, 97, 1, 98, 0, 1, 99, 192, 2, 1, 66, 0]
def wx4 : List Int := [1, 97, 1, 98, 0, 1, 99, 192, 2, 1, 66, 0, 192, 0]
def wx5 : List Int := [1, 97, 1, 98, 0, 1, 99, 192, 2, 1, 66, 0, 192, 0, 1, 97, 1, 98, 0]
theorem wn3 : wnm wx2 wp2 [⟨#[66]⟩] true = (0, wx3, wp3) := by decide +kernel
theorem wn4 : wnm wx3 wp3 [⟨#[97]⟩, ⟨#[98]⟩] true = (0, wx4, wp3) := by decide +kernel
theorem wn5 : wnm wx4 wp3 [⟨#[97]⟩, ⟨#[98]⟩] false = (0, wx5, wp3) := by decide +kernel
theorem str5 : (⟨(txt wx5).toArray⟩ : ByteArray) = ⟨#[1, 97, 1, 98, 0, 1, 99, 192, 2, 1, 66, 0, 192, 0, 1, 97, 1, 98, 0]⟩ := by decide +kernel
theorem wp2_lt : ∀ k p, (k, p) ∈ wp2 → p < 16384 := by
  intro k p h
  simp [wp2] at h
  rcases h with ⟨_, rfl⟩ | ⟨_, rfl⟩ | ⟨_, rfl⟩ <;> omega
theorem wp3_lt : ∀ k p, (k, p) ∈ wp3 → p < 16384 := by
  intro k p h
  simp [wp3] at h
  rcases h with ⟨_, rfl⟩ | ⟨_, rfl⟩ | ⟨_, rfl⟩ | ⟨_, rfl⟩ <;> omega
theorem qr_none {zs : List Int} {d : Nat} {back : Bool} (h : d ≤ zs.length) (hg : qgo zs back d d none [] = none) : qread zs d back = ([], 0, 8) := by
  rw [qread_in zs d back h, hg]
  rfl
theorem qr5 : qread wx5 (5 : Nat) false = ([], 0, 8) := by
  refine qr_none (by decide) ?_
  rw [qgo_lab (by decide) (by decide) (by decide) (by decide) (by decide +kernel)]
  exact qgo_no (by decide) (by decide) (by decide)
/-- The six texts that are no name's. -/
def bads : List ByteArray := [⟨#[192, 0]⟩, ⟨#[1, 97, 192, 0]⟩, ⟨#[64]⟩, ⟨#[]⟩, ⟨#[1]⟩, ⟨#[192]⟩]
theorem bad_read : ∀ s ∈ bads, qread (nums s) (0 : Nat) true = ([], 0, 8) := by
  intro s hs
  simp only [bads, List.mem_cons, List.not_mem_nil, or_false] at hs
  rcases hs with rfl | rfl | rfl | rfl | rfl | rfl
  · exact qr_none (by decide) (qgo_ptrBad (by decide) (by decide) (by decide))
  · refine qr_none (by decide) ?_
    rw [qgo_lab (by decide) (by decide) (by decide) (by decide) (by decide +kernel)]
    exact qgo_ptrBad (by decide) (by decide) (by decide)
  · exact qr_none (by decide) (qgo_no (by decide) (by decide) (by decide))
  · exact qr_none (by decide) (qgo_out (by decide))
  · exact qr_none (by decide) (qgo_labLong (by decide) (by decide) (by decide) (by decide))
  · exact qr_none (by decide) (qgo_no (by decide) (by decide) (by decide))
theorem qr_root : qread [0] (0 : Nat) true = ([], 1, 0) := by
  rw [qread_in [0] 0 true (by decide), qgo_end (by decide) (by decide)]
  rfl
theorem qr_behind : qread [0] (2 : Nat) true = ([], 0, 2) := qread_out [0] 2 true (by decide)
theorem arg2at {w : World} {b : Nat} {s t : ByteArray} (h : w.heap[b]? = some (.cells #[.string s, .string t] 9)) (hs : s.size ≤ 100) (ht : t.size ≤ 100) : Arg w (some ⟨b, 0, none⟩) 2 [s, t] := by
  refine ⟨.inr ⟨b, 0, rfl, box_lt h, fun i hi => ?_⟩, rfl, by omega, fun x hx => ?_⟩
  · have : i = 0 ∨ i = 1 := by simp [tv] at hi; omega
    rcases this with rfl | rfl
    · exact box_cell h 0 _ rfl
    · exact box_cell h 1 _ rfl
  · simp at hx
    rcases hx with rfl | rfl <;> omega
theorem arg1at {w : World} {b : Nat} {s : ByteArray} (h : w.heap[b]? = some (.cells #[.string s] 9)) (hs : s.size ≤ 100) : Arg w (some ⟨b, 0, none⟩) 1 [s] := by
  refine ⟨.inr ⟨b, 0, rfl, box_lt h, fun i hi => ?_⟩, rfl, by omega, fun x hx => ?_⟩
  · have : i = 0 := by simp [tv] at hi; omega
    subst this
    exact box_cell h 0 _ rfl
  · simp at hx
    subst hx; omega
theorem arg_nil (w : World) : Arg w none 0 [] := ⟨.inl rfl, rfl, by omega, by simp⟩
theorem wn_root {tx : List Int} (h : tx.length = 65535) : wnm tx [] [] true = (3, tx, []) := by
  unfold wnm
  rw [if_pos nck_nil, if_pos (by simp [qshort, h])]
theorem one_rd (w : World) (z : Int) (hz : 0 ≤ z ∧ z ≤ 255) : Rd (w.alloc (.cells #[.int .u8 z] 5)) (some ⟨w.heap.size, 0, none⟩) [z] := new_rd w z hz
theorem many_rd (w : World) (n : Nat) : Rd (w.alloc (.cells ((List.replicate n (0 : Int)).map (Value.int .u8)).toArray 5)) (some ⟨w.heap.size, 0, none⟩) (List.replicate n 0) := by
  have hb : Blk (w.alloc (.cells ((List.replicate n (0 : Int)).map (Value.int .u8)).toArray 5)) w.heap.size (List.replicate n 0) := ⟨heap_alloc_new _ _, fun z hz => by rw [List.eq_of_mem_replicate hz]; omega⟩
  have := hb.rd n
  rwa [List.take_of_length_le (by simp)] at this
end Go.Proofs.Ytfnpiknobmecbaa
