/- The four kinds of the program: their words, numbers, prefixes. -/
import Derived.Test.YtjfpkpblifbljaaDoorPs
namespace Go.Proofs.YtjfpkpblifbljaaDoor
open Go.ChangeShapes Go.WideShapes Go.ChangeAt Go.RowKit
set_option linter.unusedVariables false
set_option linter.unusedSimpArgs false

/-- The text of own words, the words with their numbers, the prefix. -/
def typesB : ByteArray := ⟨#[65, 32, 49, 32, 78, 83, 32, 50, 32, 67, 78, 65, 77, 69, 32, 53, 32, 83, 79, 65, 32, 54, 32, 80, 84, 82, 32, 49, 50, 32, 77, 88, 32, 49, 53, 32, 84, 88, 84, 32, 49, 54, 32, 65, 65, 65, 65, 32, 50, 56, 32, 83, 82, 86, 32, 51, 51, 32, 79, 80, 84, 32, 52, 49, 32, 65, 78, 89, 32, 50, 53, 53, 32, 67, 65, 65, 32, 50, 53, 55]⟩
def typesP : ByteArray := ⟨#[84, 89, 80, 69]⟩
def typesW : Own4 := [([65], 1), ([78, 83], 2), ([67, 78, 65, 77, 69], 5), ([83, 79, 65], 6), ([80, 84, 82], 12), ([77, 88], 15), ([84, 88, 84], 16), ([65, 65, 65, 65], 28), ([83, 82, 86], 33), ([79, 80, 84], 41), ([65, 78, 89], 255), ([67, 65, 65], 257)]
theorem typesOk : KOk typesB typesW := by
  refine ⟨by decide +kernel, ?_, ?_, by decide, by decide⟩
  · intro j b h
    have : ∀ x ∈ typesB.data.toList, x.toNat < 128 := by decide +kernel
    exact this b (List.mem_of_getElem? h)
  · have e : flat typesW = [[65], [49], [78, 83], [50], [67, 78, 65, 77, 69], [53], [83, 79, 65], [54], [80, 84, 82], [49, 50], [77, 88], [49, 53], [84, 88, 84], [49, 54], [65, 65, 65, 65], [50, 56], [83, 82, 86], [51, 51], [79, 80, 84], [52, 49], [65, 78, 89], [50, 53, 53], [67, 65, 65], [50, 53, 55]] := by simp [flat, typesW, dec_small, dec_big]
    rw [e]
    decide +kernel
set_option maxRecDepth 100000 in
set_option maxHeartbeats 1000000 in
theorem types_any (w : World) : Calls Tryd.prog 28 #[] w fun e w' => e = .returned (.agg #[.string typesB, .string typesP, .int .i64 (65535 : Nat)]) ∧ Hid (Below w.heap.size w w') := by
  go_enter Tryd.func28, Tryd.ntmps28
  go_wp2_with fail
  refine bodyPost_ret (v := .agg #[.string typesB, .string typesP, .int .i64 (65535 : Nat)]) (by simp [results, Tryd.results28, go_sem]; exact ⟨rfl, rfl⟩) rfl ⟨rfl, ?_⟩
  exact (Below.refl _ _).alloc (Nat.le_refl _) _
/-- The text of own words, the words with their numbers, the prefix. -/
def classesB : ByteArray := ⟨#[73, 78, 32, 49, 32, 67, 72, 32, 51, 32, 72, 83, 32, 52, 32, 78, 79, 78, 69, 32, 50, 53, 52, 32, 65, 78, 89, 32, 50, 53, 53]⟩
def classesP : ByteArray := ⟨#[67, 76, 65, 83, 83]⟩
def classesW : Own4 := [([73, 78], 1), ([67, 72], 3), ([72, 83], 4), ([78, 79, 78, 69], 254), ([65, 78, 89], 255)]
theorem classesOk : KOk classesB classesW := by
  refine ⟨by decide +kernel, ?_, ?_, by decide, by decide⟩
  · intro j b h
    have : ∀ x ∈ classesB.data.toList, x.toNat < 128 := by decide +kernel
    exact this b (List.mem_of_getElem? h)
  · have e : flat classesW = [[73, 78], [49], [67, 72], [51], [72, 83], [52], [78, 79, 78, 69], [50, 53, 52], [65, 78, 89], [50, 53, 53]] := by simp [flat, classesW, dec_small, dec_big]
    rw [e]
    decide +kernel
set_option maxRecDepth 100000 in
set_option maxHeartbeats 1000000 in
theorem classes_any (w : World) : Calls Tryd.prog 30 #[] w fun e w' => e = .returned (.agg #[.string classesB, .string classesP, .int .i64 (65535 : Nat)]) ∧ Hid (Below w.heap.size w w') := by
  go_enter Tryd.func30, Tryd.ntmps30
  go_wp2_with fail
  refine bodyPost_ret (v := .agg #[.string classesB, .string classesP, .int .i64 (65535 : Nat)]) (by simp [results, Tryd.results30, go_sem]; exact ⟨rfl, rfl⟩) rfl ⟨rfl, ?_⟩
  exact (Below.refl _ _).alloc (Nat.le_refl _) _
/-- The text of own words, the words with their numbers, the prefix. -/
def rcodesB : ByteArray := ⟨#[78, 79, 69, 82, 82, 79, 82, 32, 48, 32, 70, 79, 82, 77, 69, 82, 82, 32, 49, 32, 83, 69, 82, 86, 70, 65, 73, 76, 32, 50, 32, 78, 88, 68, 79, 77, 65, 73, 78, 32, 51, 32, 78, 79, 84, 73, 77, 80, 32, 52, 32, 82, 69, 70, 85, 83, 69, 68, 32, 53, 32, 89, 88, 68, 79, 77, 65, 73, 78, 32, 54, 32, 89, 88, 82, 82, 83, 69, 84, 32, 55, 32, 78, 88, 82, 82, 83, 69, 84, 32, 56, 32, 78, 79, 84, 65, 85, 84, 72, 32, 57, 32, 78, 79, 84, 90, 79, 78, 69, 32, 49, 48, 32, 66, 65, 68, 86, 69, 82, 83, 32, 49, 54]⟩
def rcodesP : ByteArray := ⟨#[82, 67, 79, 68, 69]⟩
def rcodesW : Own4 := [([78, 79, 69, 82, 82, 79, 82], 0), ([70, 79, 82, 77, 69, 82, 82], 1), ([83, 69, 82, 86, 70, 65, 73, 76], 2), ([78, 88, 68, 79, 77, 65, 73, 78], 3), ([78, 79, 84, 73, 77, 80], 4), ([82, 69, 70, 85, 83, 69, 68], 5), ([89, 88, 68, 79, 77, 65, 73, 78], 6), ([89, 88, 82, 82, 83, 69, 84], 7), ([78, 88, 82, 82, 83, 69, 84], 8), ([78, 79, 84, 65, 85, 84, 72], 9), ([78, 79, 84, 90, 79, 78, 69], 10), ([66, 65, 68, 86, 69, 82, 83], 16)]
theorem rcodesOk : KOk rcodesB rcodesW := by
  refine ⟨by decide +kernel, ?_, ?_, by decide, by decide⟩
  · intro j b h
    have : ∀ x ∈ rcodesB.data.toList, x.toNat < 128 := by decide +kernel
    exact this b (List.mem_of_getElem? h)
  · have e : flat rcodesW = [[78, 79, 69, 82, 82, 79, 82], [48], [70, 79, 82, 77, 69, 82, 82], [49], [83, 69, 82, 86, 70, 65, 73, 76], [50], [78, 88, 68, 79, 77, 65, 73, 78], [51], [78, 79, 84, 73, 77, 80], [52], [82, 69, 70, 85, 83, 69, 68], [53], [89, 88, 68, 79, 77, 65, 73, 78], [54], [89, 88, 82, 82, 83, 69, 84], [55], [78, 88, 82, 82, 83, 69, 84], [56], [78, 79, 84, 65, 85, 84, 72], [57], [78, 79, 84, 90, 79, 78, 69], [49, 48], [66, 65, 68, 86, 69, 82, 83], [49, 54]] := by simp [flat, rcodesW, dec_small, dec_big]
    rw [e]
    decide +kernel
set_option maxRecDepth 100000 in
set_option maxHeartbeats 1000000 in
theorem rcodes_any (w : World) : Calls Tryd.prog 31 #[] w fun e w' => e = .returned (.agg #[.string rcodesB, .string rcodesP, .int .i64 (4095 : Nat)]) ∧ Hid (Below w.heap.size w w') := by
  go_enter Tryd.func31, Tryd.ntmps31
  go_wp2_with fail
  refine bodyPost_ret (v := .agg #[.string rcodesB, .string rcodesP, .int .i64 (4095 : Nat)]) (by simp [results, Tryd.results31, go_sem]; exact ⟨rfl, rfl⟩) rfl ⟨rfl, ?_⟩
  exact (Below.refl _ _).alloc (Nat.le_refl _) _
/-- The text of own words, the words with their numbers, the prefix. -/
def opcodesB : ByteArray := ⟨#[81, 85, 69, 82, 89, 32, 48, 32, 73, 81, 85, 69, 82, 89, 32, 49, 32, 83, 84, 65, 84, 85, 83, 32, 50, 32, 78, 79, 84, 73, 70, 89, 32, 52, 32, 85, 80, 68, 65, 84, 69, 32, 53]⟩
def opcodesP : ByteArray := ⟨#[79, 80, 67, 79, 68, 69]⟩
def opcodesW : Own4 := [([81, 85, 69, 82, 89], 0), ([73, 81, 85, 69, 82, 89], 1), ([83, 84, 65, 84, 85, 83], 2), ([78, 79, 84, 73, 70, 89], 4), ([85, 80, 68, 65, 84, 69], 5)]
theorem opcodesOk : KOk opcodesB opcodesW := by
  refine ⟨by decide +kernel, ?_, ?_, by decide, by decide⟩
  · intro j b h
    have : ∀ x ∈ opcodesB.data.toList, x.toNat < 128 := by decide +kernel
    exact this b (List.mem_of_getElem? h)
  · have e : flat opcodesW = [[81, 85, 69, 82, 89], [48], [73, 81, 85, 69, 82, 89], [49], [83, 84, 65, 84, 85, 83], [50], [78, 79, 84, 73, 70, 89], [52], [85, 80, 68, 65, 84, 69], [53]] := by simp [flat, opcodesW, dec_small, dec_big]
    rw [e]
    decide +kernel
set_option maxRecDepth 100000 in
set_option maxHeartbeats 1000000 in
theorem opcodes_any (w : World) : Calls Tryd.prog 35 #[] w fun e w' => e = .returned (.agg #[.string opcodesB, .string opcodesP, .int .i64 (15 : Nat)]) ∧ Hid (Below w.heap.size w w') := by
  go_enter Tryd.func35, Tryd.ntmps35
  go_wp2_with fail
  refine bodyPost_ret (v := .agg #[.string opcodesB, .string opcodesP, .int .i64 (15 : Nat)]) (by simp [results, Tryd.results35, go_sem]; exact ⟨rfl, rfl⟩) rfl ⟨rfl, ?_⟩
  exact (Below.refl _ _).alloc (Nat.le_refl _) _
end Go.Proofs.YtjfpkpblifbljaaDoor
