/- What the rows' listed variables give the walks; a world that holds them. -/
import Derived.Test.YtjfpkpblifbljaaDoorLy
import Derived.Test.YtjfpkpblifbljaaDoorCards
import Derived.Test.YtjfpkpblifbljaaDoorTie
import Derived.ProofKit
import Derived.OpenShut
import Derived.LaidMore
import Derived.LaidOnce
import Derived.LaidSub
import Derived.MakeChecks
import Derived.Stop.LaidErr
import Derived.Deep.DeepHandedRow
import Derived.Deep.DeepWitnessRowRef
namespace Go.Proofs.YtjfpkpblifbljaaDoor
open Go.ChangeShapes Go.WideShapes Go.ChangeAt Go.RowKit
set_option linter.unusedVariables false

theorem d_own : ownKnob Tryd.prog.godebug = none := by kernel_rfl
theorem tPow : (Tryd.prog.globals[8]?).map (·.type) = some 139 := by kernel_rfl
theorem tSp : (Tryd.prog.globals[0]?).map (·.type) = some 80 := by kernel_rfl
theorem tSyn : (Tryd.prog.globals[6]?).map (·.type) = some 62 := by kernel_rfl
theorem tRng : (Tryd.prog.globals[7]?).map (·.type) = some 62 := by kernel_rfl
theorem c5 : Tryd.prog.cellsOf 5 = 1 := by kernel_rfl
theorem c80 : Tryd.prog.cellsOf 80 = 256 := by kernel_rfl
theorem c113 : Tryd.prog.cellsOf 113 = 1 := by kernel_rfl
theorem c139 : Tryd.prog.cellsOf 139 = 20 := by kernel_rfl
theorem c148 : Tryd.prog.cellsOf 148 = 1 := by kernel_rfl
theorem c9 : Tryd.prog.cellsOf 9 = 1 := by kernel_rfl
theorem d_star : "*" ++ "errors.errorString" = "*errors.errorString" := by decide
theorem row146 (u : TypeId) (h : Tryd.prog.typeName? 3 u = some "*errors.errorString") : u = 146 :=
  typeName_ptr_named (nm := "errors.errorString") (by rw [d_star]; kernel_rfl) (by kernel_rfl) (by decide) u (by rw [d_star]; exact h)
theorem powD : (Rows.laid_internal_strconv_uint64pow10 : DataW Unit) = Lib.tabData .u64 Lib.pow10Tab := by kernel_rfl
theorem spD : (Rows.laid_strings_asciiSpace : DataW Unit) = Lib.tabData .u8 Lib.asciiSpaceTab := by kernel_rfl

theorem met_pow {r : List (String × DataW Unit)} {W : World} (h : laidMet Tryd.prog (("internal/strconv.uint64pow10", Rows.laid_internal_strconv_uint64pow10) :: r) W) : Lib.TabIs Tryd.prog W "internal/strconv.uint64pow10" .u64 Lib.pow10Tab := by
  rw [powD] at h
  exact Lib.tabIs_of_head gPow tPow Tryd.underlying139 Tryd.underlying113 c113 c139 h
theorem met_sp {r : List (String × DataW Unit)} {W : World} (h : laidMet Tryd.prog (("strings.asciiSpace", Rows.laid_strings_asciiSpace) :: r) W) : Lib.TabIs Tryd.prog W "strings.asciiSpace" .u8 Lib.asciiSpaceTab := by
  rw [spD] at h
  exact Lib.tabIs_of_head gSp tSp Tryd.underlying80 Tryd.underlying5 c5 c80 h
theorem met_rng {r : List (String × DataW Unit)} {W : World} (h : laidMet Tryd.prog (("strconv.ErrRange", Rows.laid_strconv_ErrRange) :: r) W) : ∃ tp p, W.var? Tryd.prog "strconv.ErrRange" = some #[.iface tp p] := by
  obtain ⟨a, s, hv, -, -, -⟩ := laid_sentinel h gRng tRng Tryd.underlying62 row146 Tryd.underlying146 Tryd.underlying148 rfl rfl Tryd.underlying9 c148 c9
  exact ⟨_, _, hv⟩
theorem met_syn {r : List (String × DataW Unit)} {W : World} (h : laidMet Tryd.prog (("strconv.ErrSyntax", Rows.laid_strconv_ErrSyntax) :: r) W) : ∃ tp p, W.var? Tryd.prog "strconv.ErrSyntax" = some #[.iface tp p] := by
  obtain ⟨a, s, hv, -, -, -⟩ := laid_sentinel h gSyn tSyn Tryd.underlying62 row146 Tryd.underlying146 Tryd.underlying148 rfl rfl Tryd.underlying9 c148 c9
  exact ⟨_, _, hv⟩
/-- The seven that most rows list. -/
abbrev laid7 : List (String × DataW Unit) := [("math/bits.deBruijn32tab", Rows.laid_math_bits_deBruijn32tab), ("math/bits.deBruijn64tab", Rows.laid_math_bits_deBruijn64tab), ("internal/strconv.uint64pow10", Rows.laid_internal_strconv_uint64pow10), ("strconv.ErrRange", Rows.laid_strconv_ErrRange), ("strconv.ErrSyntax", Rows.laid_strconv_ErrSyntax), ("unicode.White_Space", Rows.laid_unicode_White_Space), ("strings.asciiSpace", Rows.laid_strings_asciiSpace)]
/-- The five of the statement that reads no word. -/
abbrev laid5 : List (String × DataW Unit) := [("math/bits.deBruijn32tab", Rows.laid_math_bits_deBruijn32tab), ("math/bits.deBruijn64tab", Rows.laid_math_bits_deBruijn64tab), ("internal/strconv.uint64pow10", Rows.laid_internal_strconv_uint64pow10), ("unicode.White_Space", Rows.laid_unicode_White_Space), ("strings.asciiSpace", Rows.laid_strings_asciiSpace)]
theorem lay7 {W : World} (h : laidMetH Tryd.prog laid7 W) : LayT W ∧ LayE W := by
  rw [MakeChecks.laidMetH_plain _ _ _ (by kernel_rfl)] at h
  exact ⟨⟨met_pow h.tail.tail, met_sp h.tail.tail.tail.tail.tail.tail⟩, met_syn h.tail.tail.tail.tail, met_rng h.tail.tail.tail⟩
theorem lay5 {W : World} (h : laidMetH Tryd.prog laid5 W) : LayT W := by
  rw [MakeChecks.laidMetH_plain _ _ _ (by kernel_rfl)] at h
  exact ⟨met_pow h.tail.tail, met_sp h.tail.tail.tail.tail⟩

theorem met_of {P : Program} {w : World} {l : List (String × DataW Unit)} (fuel M : Nat) (h : ((DataW.laidRun P w fuel (l.map (·.1))).bind fun x => if nodupBits M x.2 0 && laidRowsB P w x.2 then some x.1 else none) = some l) : laidMet P l w := by
  simp only [Option.bind_eq_some_iff] at h
  obtain ⟨x, hx, d⟩ := h
  split at d
  · rename_i hb
    simp only [Bool.and_eq_true] at hb
    have e := Option.some.inj d
    exact laidMet_of_run (ps := x.2) fuel (by rw [hx, ← e]) (decide_eq_true (nodupBits_sound hb.1).1) hb.2
  · cases d

/-- The door's own heap holds the seven. -/
theorem door_met7 (os : Os) (args : Array Value) : laidMetH Tryd.prog laid7 ((World.doorLaid Tryd.prog 200 os).forCall (fun _ _ => 0) ⟨#[], args, []⟩).memory := by
  rw [MakeChecks.laidMetH_plain _ _ _ (by kernel_rfl)]
  exact met_of 8 257 (by kernel_rfl)
theorem door_met5 (os : Os) (args : Array Value) : laidMetH Tryd.prog laid5 ((World.doorLaid Tryd.prog 200 os).forCall (fun _ _ => 0) ⟨#[], args, []⟩).memory := by
  rw [MakeChecks.laidMetH_plain _ _ _ (by kernel_rfl)]
  exact met_of 8 257 (by kernel_rfl)
end Go.Proofs.YtjfpkpblifbljaaDoor
