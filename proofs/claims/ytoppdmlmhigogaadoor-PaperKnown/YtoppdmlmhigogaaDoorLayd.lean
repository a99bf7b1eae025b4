/- What the row's listed variables give the walks; a world that holds them. -/
import Derived.Test.YtoppdmlmhigogaaDoorKa
import Derived.Test.YtoppdmlmhigogaaDoorCards
import Derived.Test.YtoppdmlmhigogaaDoorTie
import Derived.ProofKit
import Derived.OpenShut
import Derived.LaidMore
import Derived.LaidOnce
import Derived.LaidSub
import Derived.MakeChecks
import Derived.Stop.LaidErr
import Derived.Deep.DeepHandedRow
import Derived.Deep.DeepWitnessRowRef
import Derived.Lay
namespace Go.Proofs.YtoppdmlmhigogaaDoor
open Go.ChangeShapes Go.WideShapes Go.ChangeAt Go.RowKit
set_option linter.unusedVariables false

theorem d_own : ownKnob Tryd.prog.godebug = none := by kernel_rfl
theorem tPow : (Tryd.prog.globals[0]?).map (·.type) = some 107 := by kernel_rfl
theorem tSp : (Tryd.prog.globals[1]?).map (·.type) = some 117 := by kernel_rfl
theorem gBru : Tryd.prog.globalNamed "math/bits.deBruijn64tab" = some 4 := by kernel_rfl
theorem tBru : (Tryd.prog.globals[4]?).map (·.type) = some 129 := by kernel_rfl
theorem c5 : Tryd.prog.cellsOf 5 = 1 := by kernel_rfl
theorem c117 : Tryd.prog.cellsOf 117 = 256 := by kernel_rfl
theorem c57 : Tryd.prog.cellsOf 57 = 1 := by kernel_rfl
theorem c107 : Tryd.prog.cellsOf 107 = 20 := by kernel_rfl
theorem c129 : Tryd.prog.cellsOf 129 = 64 := by kernel_rfl
theorem powD : (Rows.laid_internal_strconv_uint64pow10 : DataW Unit) = Lib.tabData .u64 Lib.pow10Tab := by kernel_rfl
theorem spD : (Rows.laid_strings_asciiSpace : DataW Unit) = Lib.tabData .u8 Lib.asciiSpaceTab := by kernel_rfl
abbrev bruTab : List Int := [0, 1, 56, 2, 57, 49, 28, 3, 61, 58, 42, 50, 38, 29, 17, 4, 62, 47, 59, 36, 45, 43, 51, 22, 53, 39, 33, 30, 24, 18, 12, 5, 63, 55, 48, 27, 60, 41, 37, 16, 46, 35, 44, 21, 52, 32, 23, 11, 54, 26, 40, 15, 34, 20, 31, 10, 25, 14, 19, 9, 13, 8, 7, 6]
theorem bruD : (Rows.laid_math_bits_deBruijn64tab : DataW Unit) = Lib.tabData .u8 bruTab := by kernel_rfl
theorem met_bru {r : List (String × DataW Unit)} {W : World} (h : laidMet Tryd.prog (("math/bits.deBruijn64tab", Rows.laid_math_bits_deBruijn64tab) :: r) W) : 4 < W.heap.size ∧ W.cell? ⟨4, 15, none⟩ = some (.int .u8 4) := by
  rw [bruD] at h
  have h1 := Lib.tabIs_of_head gBru tBru Tryd.underlying129 Tryd.underlying5 c5 c129 h
  unfold Lib.TabIs World.var? at h1
  rw [gBru] at h1
  simp only [Option.bind_some] at h1
  have key : ∃ cs t z, W.heap[4]? = some (.cells cs t z) ∧ cs = (bruTab.map fun z => Value.int .u8 z).toArray := by
    cases hh : W.heap[4]? with
    | none => rw [hh] at h1; cases h1
    | some o =>
      rw [hh] at h1
      cases o with
      | cells cs t z => exact ⟨cs, t, z, rfl, Option.some.inj h1⟩
      | _ => cases h1
  obtain ⟨cs, t, z, e1, e2⟩ := key
  refine ⟨(Array.getElem?_eq_some_iff.1 e1).1, ?_⟩
  unfold World.cell?
  rw [show W.heap[(⟨4, 15, none⟩ : Addr).block]? = _ from e1, e2]
  rfl
theorem met_pow {r : List (String × DataW Unit)} {W : World} (h : laidMet Tryd.prog (("internal/strconv.uint64pow10", Rows.laid_internal_strconv_uint64pow10) :: r) W) : Lib.TabIs Tryd.prog W "internal/strconv.uint64pow10" .u64 Lib.pow10Tab := by
  rw [powD] at h
  exact Lib.tabIs_of_head gPow tPow Tryd.underlying107 Tryd.underlying57 c57 c107 h
theorem met_sp {r : List (String × DataW Unit)} {W : World} (h : laidMet Tryd.prog (("strings.asciiSpace", Rows.laid_strings_asciiSpace) :: r) W) : Lib.TabIs Tryd.prog W "strings.asciiSpace" .u8 Lib.asciiSpaceTab := by
  rw [spD] at h
  exact Lib.tabIs_of_head gSp tSp Tryd.underlying117 Tryd.underlying5 c5 c117 h
abbrev laid5 : List (String × DataW Unit) := [("math/bits.deBruijn32tab", Rows.laid_math_bits_deBruijn32tab), ("math/bits.deBruijn64tab", Rows.laid_math_bits_deBruijn64tab), ("internal/strconv.uint64pow10", Rows.laid_internal_strconv_uint64pow10), ("unicode.White_Space", Rows.laid_unicode_White_Space), ("strings.asciiSpace", Rows.laid_strings_asciiSpace)]
theorem plain5 : (laid5.all fun x => x.2.handleName?.isNone) = true := by kernel_rfl
theorem lay5 {W : World} (h : laidMetH Tryd.prog laid5 W) (hs : W.ShapedOpen Tryd.prog) : LayT W := by
  rw [MakeChecks.laidMetH_plain _ _ _ plain5] at h
  exact ⟨met_pow h.tail.tail, met_sp h.tail.tail.tail.tail, met_bru h.tail⟩
theorem all_met5 (os : Os) (args : Array Value) : laidMetH Tryd.prog laid5 ((World.laidAll Tryd.prog os laid5).forCall (fun _ _ => 0) ⟨#[], args, []⟩).memory := by
  rw [MakeChecks.laidMetH_plain _ _ _ plain5]
  exact laidMet_laidAll args (by kernel_rfl) (by kernel_rfl)
end Go.Proofs.YtoppdmlmhigogaaDoor
