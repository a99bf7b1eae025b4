/- The ten variables that the row about reading back lists; a world that holds them. -/
import Derived.Test.YtjfpkpblifbljaaDoorLd
import Derived.Lay
namespace Go.Proofs.YtjfpkpblifbljaaDoor
open Go.ChangeShapes Go.WideShapes Go.ChangeAt Go.RowKit
set_option linter.unusedVariables false

abbrev laid10 : List (String × DataW Unit) := [("math/bits.deBruijn32tab", Rows.laid_math_bits_deBruijn32tab), ("math/bits.deBruijn64tab", Rows.laid_math_bits_deBruijn64tab), ("internal/strconv.uint64pow10", Rows.laid_internal_strconv_uint64pow10), ("unicode/utf8.acceptRanges", Rows.laid_unicode_utf8_acceptRanges), ("strconv.ErrRange", Rows.laid_strconv_ErrRange), ("strconv.ErrSyntax", Rows.laid_strconv_ErrSyntax), ("unicode.White_Space", Rows.laid_unicode_White_Space), ("strings.asciiSpace", Rows.laid_strings_asciiSpace), ("unicode.CaseRanges", Rows.laid_unicode_CaseRanges), ("unicode/utf8.first", Rows.laid_unicode_utf8_first)]
theorem plain10 : (laid10.all fun x => x.2.handleName?.isNone) = true := by kernel_rfl
theorem lay10 {W : World} (h : laidMetH Tryd.prog laid10 W) : LayT W ∧ LayE W := by
  rw [MakeChecks.laidMetH_plain _ _ _ plain10] at h
  exact ⟨⟨met_pow h.tail.tail, met_sp h.tail.tail.tail.tail.tail.tail.tail⟩, met_syn h.tail.tail.tail.tail.tail, met_rng h.tail.tail.tail.tail⟩
theorem all_met10 (os : Os) (args : Array Value) : laidMetH Tryd.prog laid10 ((World.laidAll Tryd.prog os laid10).forCall (fun _ _ => 0) ⟨#[], args, []⟩).memory := by
  rw [MakeChecks.laidMetH_plain _ _ _ plain10]
  exact laidMet_laidAll args (by kernel_rfl) (by kernel_rfl)
end Go.Proofs.YtjfpkpblifbljaaDoor
