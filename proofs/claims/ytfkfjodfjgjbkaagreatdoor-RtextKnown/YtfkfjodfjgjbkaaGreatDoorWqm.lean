/- Texts laid together: Lay6. -/
import Derived.Test.YtfkfjodfjgjbkaaGreatDoorWql
import Derived.Test.YtfkfjodfjgjbkaaGreatDoorCards
import Derived.Test.YtfkfjodfjgjbkaaGreatDoorTie
import Derived.ProofKit
import Derived.OpenShut
import Derived.LaidMore
import Derived.LaidOnce
import Derived.LaidSub
import Derived.MakeChecks
import Derived.Stop.LaidErr
import Derived.Deep.DeepHandedRow
import Derived.Deep.DeepWitnessRowRef
import Derived.Lay
/- What the rows' listed variables give the walks; a world that holds them. -/
namespace Go.Proofs.YtfkfjodfjgjbkaaGreatDoor
open Go.ChangeShapes Go.WideShapes Go.ChangeAt Go.RowKit
set_option linter.unusedVariables false

theorem d_own : ownKnob Tryz.prog.godebug = none := by kernel_rfl
theorem tPow : (Tryz.prog.globals[1]?).map (·.type) = some 192 := by kernel_rfl
theorem tSyn : (Tryz.prog.globals[2]?).map (·.type) = some 83 := by kernel_rfl
theorem tRng : (Tryz.prog.globals[3]?).map (·.type) = some 83 := by kernel_rfl
theorem gBru : Tryz.prog.globalNamed "math/bits.deBruijn64tab" = some 7 := by kernel_rfl
theorem tBru : (Tryz.prog.globals[7]?).map (·.type) = some 226 := by kernel_rfl
theorem c5 : Tryz.prog.cellsOf 5 = 1 := by kernel_rfl
theorem c226 : Tryz.prog.cellsOf 226 = 64 := by kernel_rfl
theorem c139 : Tryz.prog.cellsOf 139 = 1 := by kernel_rfl
theorem c192 : Tryz.prog.cellsOf 192 = 20 := by kernel_rfl
theorem c220 : Tryz.prog.cellsOf 220 = 1 := by kernel_rfl
theorem c9 : Tryz.prog.cellsOf 9 = 1 := by kernel_rfl
theorem d_star : "*" ++ "errors.errorString" = "*errors.errorString" := by decide
theorem row218 (u : TypeId) (h : Tryz.prog.typeName? 3 u = some "*errors.errorString") : u = 218 :=
  typeName_ptr_named (nm := "errors.errorString") (by rw [d_star]; kernel_rfl) (by kernel_rfl) (by decide) u (by rw [d_star]; exact h)
abbrev bruTab : List Int := [0, 1, 56, 2, 57, 49, 28, 3, 61, 58, 42, 50, 38, 29, 17, 4, 62, 47, 59, 36, 45, 43, 51, 22, 53, 39, 33, 30, 24, 18, 12, 5, 63, 55, 48, 27, 60, 41, 37, 16, 46, 35, 44, 21, 52, 32, 23, 11, 54, 26, 40, 15, 34, 20, 31, 10, 25, 14, 19, 9, 13, 8, 7, 6]
theorem powD : (Rows.laid_internal_strconv_uint64pow10 : DataW Unit) = Lib.tabData .u64 Lib.pow10Tab := by kernel_rfl
theorem bruD : (Rows.laid_math_bits_deBruijn64tab : DataW Unit) = Lib.tabData .u8 bruTab := by kernel_rfl
theorem met_pow {r : List (String × DataW Unit)} {W : World} (h : laidMet Tryz.prog (("internal/strconv.uint64pow10", Rows.laid_internal_strconv_uint64pow10) :: r) W) : Lib.TabIs Tryz.prog W "internal/strconv.uint64pow10" .u64 Lib.pow10Tab := by
  rw [powD] at h
  exact Lib.tabIs_of_head gPow tPow Tryz.underlying192 Tryz.underlying139 c139 c192 h
theorem met_bru {r : List (String × DataW Unit)} {W : World} (h : laidMet Tryz.prog (("math/bits.deBruijn64tab", Rows.laid_math_bits_deBruijn64tab) :: r) W) : 7 < W.heap.size ∧ W.cell? ⟨7, 15, none⟩ = some (.int .u8 4) := by
  rw [bruD] at h
  have h1 := Lib.tabIs_of_head gBru tBru Tryz.underlying226 Tryz.underlying5 c5 c226 h
  unfold Lib.TabIs World.var? at h1
  rw [gBru] at h1
  simp only [Option.bind_some] at h1
  have key : ∃ cs t z, W.heap[7]? = some (.cells cs t z) ∧ cs = (bruTab.map fun z => Value.int .u8 z).toArray := by
    cases hh : W.heap[7]? with
    | none => rw [hh] at h1; cases h1
    | some o =>
      rw [hh] at h1
      cases o with
      | cells cs t z => exact ⟨cs, t, z, rfl, Option.some.inj h1⟩
      | _ => cases h1
  obtain ⟨cs, t, z, e1, e2⟩ := key
  refine ⟨(Array.getElem?_eq_some_iff.1 e1).1, ?_⟩
  unfold World.cell?
  rw [show W.heap[(⟨7, 15, none⟩ : Addr).block]? = _ from e1, e2]
  rfl
theorem met_rng {r : List (String × DataW Unit)} {W : World} (h : laidMet Tryz.prog (("strconv.ErrRange", Rows.laid_strconv_ErrRange) :: r) W) : ∃ tp p, W.var? Tryz.prog "strconv.ErrRange" = some #[.iface tp p] := by
  obtain ⟨a, s, hv, -, -, -⟩ := laid_sentinel h gRng tRng Tryz.underlying83 row218 Tryz.underlying218 Tryz.underlying220 rfl rfl Tryz.underlying9 c220 c9
  exact ⟨_, _, hv⟩
theorem met_syn {r : List (String × DataW Unit)} {W : World} (h : laidMet Tryz.prog (("strconv.ErrSyntax", Rows.laid_strconv_ErrSyntax) :: r) W) : ∃ tp p, W.var? Tryz.prog "strconv.ErrSyntax" = some #[.iface tp p] := by
  obtain ⟨a, s, hv, -, -, -⟩ := laid_sentinel h gSyn tSyn Tryz.underlying83 row218 Tryz.underlying218 Tryz.underlying220 rfl rfl Tryz.underlying9 c220 c9
  exact ⟨_, _, hv⟩
set_option maxRecDepth 100000 in
theorem met_max {W : World} (h : W.ShapedOpen Tryz.prog) : 0 < W.heap.size ∧ ∃ m, W.cell? ⟨0, 0, none⟩ = some (.int .i64 m) := by
  have h0 : ((begin Tryz.prog (fun _ _ => 0) default).world.heap[0]?).bind Obj.row? = some (#[.int .i64 0], 3) := by kernel_rfl
  have hb : Tryz.prog.buildable 3 = true := by kernel_rfl
  have hc : Tryz.prog.cellTypes Tryz.prog.depth 3 = some [3] := by kernel_rfl
  have hg : 0 < Tryz.prog.globals.size := of_decide_eq_true (by kernel_rfl)
  obtain ⟨cs, hh, hs, hr⟩ := h.1 0 #[.int .i64 0] 3 hg h0
  refine ⟨(Array.getElem?_eq_some_iff.1 hh).1, ?_⟩
  obtain ⟨ts, hts, hlen, hall⟩ := hr hb
  rw [hc] at hts
  cases hts
  have h1 : 0 < cs.size := by rw [hs]; decide
  obtain ⟨u, hu', hok⟩ := hall 0 cs[0] (by simp [h1])
  have hu : u = 3 := (Option.some.inj hu').symm
  have hcell : W.cell? ⟨0, 0, none⟩ = some cs[0] := by simp [World.cell?, hh, h1]
  rw [hcell]
  unfold Cell.ok at hok
  rw [hu, Tryz.underlying3] at hok
  cases hv : cs[0] <;> rw [hv] at hok <;> first | simp at hok; done | skip
  all_goals (simp at hok; obtain ⟨rfl, _⟩ := hok; exact ⟨_, rfl⟩)
/-- The seven that four of the rows list. -/
abbrev laid7 : List (String × DataW Unit) := [("math/bits.deBruijn32tab", Rows.laid_math_bits_deBruijn32tab), ("math/bits.deBruijn64tab", Rows.laid_math_bits_deBruijn64tab), ("internal/strconv.uint64pow10", Rows.laid_internal_strconv_uint64pow10), ("unicode/utf8.acceptRanges", Rows.laid_unicode_utf8_acceptRanges), ("strconv.ErrRange", Rows.laid_strconv_ErrRange), ("strconv.ErrSyntax", Rows.laid_strconv_ErrSyntax), ("unicode/utf8.first", Rows.laid_unicode_utf8_first)]
abbrev laid3 : List (String × DataW Unit) := [("math/bits.deBruijn32tab", Rows.laid_math_bits_deBruijn32tab), ("math/bits.deBruijn64tab", Rows.laid_math_bits_deBruijn64tab), ("internal/strconv.uint64pow10", Rows.laid_internal_strconv_uint64pow10)]
theorem plain7 : (laid7.all fun x => x.2.handleName?.isNone) = true := by kernel_rfl
theorem plain3 : (laid3.all fun x => x.2.handleName?.isNone) = true := by kernel_rfl
theorem lay7 {W : World} (h : laidMetH Tryz.prog laid7 W) (hs : W.ShapedOpen Tryz.prog) : LayT W ∧ LayE W := by
  rw [MakeChecks.laidMetH_plain _ _ _ plain7] at h
  exact ⟨⟨met_pow h.tail.tail, met_bru h.tail⟩, met_syn h.tail.tail.tail.tail.tail, met_rng h.tail.tail.tail.tail, met_max hs⟩
theorem lay3 {W : World} (h : laidMetH Tryz.prog laid3 W) : LayT W := by
  rw [MakeChecks.laidMetH_plain _ _ _ plain3] at h
  exact ⟨met_pow h.tail.tail, met_bru h.tail⟩
theorem all_met7 (os : Os) (args : Array Value) : laidMetH Tryz.prog laid7 ((World.laidAll Tryz.prog os laid7).forCall (fun _ _ => 0) ⟨#[], args, []⟩).memory := by
  rw [MakeChecks.laidMetH_plain _ _ _ plain7]
  exact laidMet_laidAll args (by kernel_rfl) (by kernel_rfl)
theorem all_met3 (os : Os) (args : Array Value) : laidMetH Tryz.prog laid3 ((World.laidAll Tryz.prog os laid3).forCall (fun _ _ => 0) ⟨#[], args, []⟩).memory := by
  rw [MakeChecks.laidMetH_plain _ _ _ plain3]
  exact laidMet_laidAll args (by kernel_rfl) (by kernel_rfl)
end Go.Proofs.YtfkfjodfjgjbkaaGreatDoor
