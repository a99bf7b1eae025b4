/- What the library's tables hold, and that it lasts; the words of a kind, as its text has them. -/
import Derived.Test.YtjfpkpblifbljaaDoorGr
import Derived.Test.YtjfpkpblifbljaaDoorSp
import Derived.Test.YtjfpkpblifbljaaDoorShelf
import Derived.Lib.SmallJoins
import Derived.Lib.AppendIntMem
import Derived.Lib.AtoiAllMem
namespace Go.Proofs.YtjfpkpblifbljaaDoor
open Go.ChangeShapes Go.WideShapes Go.ChangeAt Go.RowKit
set_option linter.unusedVariables false
set_option linter.unusedSimpArgs false

theorem gPow : Tryd.prog.globalNamed "internal/strconv.uint64pow10" = some 8 := by kernel_rfl
theorem gSp : Tryd.prog.globalNamed "strings.asciiSpace" = some 0 := by kernel_rfl
theorem gSyn : Tryd.prog.globalNamed "strconv.ErrSyntax" = some 6 := by kernel_rfl
theorem gRng : Tryd.prog.globalNamed "strconv.ErrRange" = some 7 := by kernel_rfl
/-- The two tables. -/
def LayT (w : World) : Prop := Lib.TabIs Tryd.prog w "internal/strconv.uint64pow10" .u64 Lib.pow10Tab ∧ Lib.TabIs Tryd.prog w "strings.asciiSpace" .u8 Lib.asciiSpaceTab
/-- The two errors. -/
def LayE (w : World) : Prop := (∃ tp p, w.var? Tryd.prog "strconv.ErrSyntax" = some #[.iface tp p]) ∧ ∃ tp p, w.var? Tryd.prog "strconv.ErrRange" = some #[.iface tp p]
theorem LayT.below {w w' : World} (h : LayT w) (hb : Below w.heap.size w w') : LayT w' := ⟨Joins.tab_stays gPow h.1 hb (Nat.le_refl _), Joins.tab_stays gSp h.2 hb (Nat.le_refl _)⟩
theorem LayE.below {w w' : World} (h : LayE w) (hb : Below w.heap.size w w') : LayE w' := by
  obtain ⟨⟨tp, p, h1⟩, tq, q, h2⟩ := h
  exact ⟨⟨tp, p, Joins.var_stays gSyn h1 hb (Nat.le_refl _)⟩, tq, q, Joins.var_stays gRng h2 hb (Nat.le_refl _)⟩

/-- A text of own words with their numbers. -/
def KOk (s : ByteArray) (ps : Own4) : Prop := s.size < 4294967281 ∧ (∀ (j : Nat) b, s.data.toList[j]? = some b → b.toNat < 128) ∧ Lib.fields s.data.toList = flat ps ∧ ps.length ≤ 1000 ∧ ∀ p ∈ ps, p.2 < 65536

theorem itoa_any (n : Int) (h0 : -9223372036854775808 ≤ n) (h1 : n ≤ 9223372036854775807) (w : World) (hL : LayT w) :
    Calls Tryd.prog 49 #[.int .i64 n] w fun e w' => e = .returned (.string ⟨(Lib.itoa n).toArray⟩) ∧ Hid (Below w.heap.size w w') := by
  refine (Tryd.strconv_Itoa n h0 h1 w hL.1).mono ?_
  rintro e w' ⟨rfl, k, os, rfl⟩
  exact ⟨rfl, Lib.below_grow _ w (Nat.le_refl _) k os⟩
theorem itoa_nat (n : Nat) (h1 : n < 9223372036854775808) (w : World) (hL : LayT w) :
    Calls Tryd.prog 49 #[.int .i64 n] w fun e w' => e = .returned (.string ⟨(Lib.decDigits n).toArray⟩) ∧ Hid (Below w.heap.size w w') := by
  have := itoa_any n (by omega) (by omega) w hL
  rw [Lib.itoa_nonneg] at this
  exact this
theorem fields_any (s : ByteArray) (ps : Own4) (w : World) (hK : KOk s ps) (hL : LayT w) :
    Calls Tryd.prog 50 #[.string s] w fun e w' => e = .returned (.slice (some ⟨w.heap.size, 0, none⟩) (2 * ps.length) (2 * ps.length)) ∧
      Hid (Below w.heap.size w w' ∧ ∀ j p, ps[j]? = some p → w'.cell? ⟨w.heap.size, 2 * j, none⟩ = some (.string ⟨p.1.toArray⟩) ∧ w'.cell? ⟨w.heap.size, 2 * j + 1, none⟩ = some (.string ⟨(Lib.decDigits p.2).toArray⟩)) := by
  refine (Tryd.strings_Fields s w hK.1 hK.2.1 hL.2).mono ?_
  rintro e w' ⟨rfl, rfl⟩
  rw [hK.2.2.1, flat_len]
  refine ⟨rfl, (Below.refl _ _).alloc (Nat.le_refl _) _, fun j p hp => ?_⟩
  obtain ⟨h1, h2⟩ := flat_at ps j p hp
  constructor
  · unfold World.cell?; rw [heap_alloc_new]; simp [h1]
  · unfold World.cell?; rw [heap_alloc_new]; simp [h2]
end Go.Proofs.YtjfpkpblifbljaaDoor
