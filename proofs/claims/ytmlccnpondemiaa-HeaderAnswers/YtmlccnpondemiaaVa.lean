/- header.flagsOf: the flags' bits and where a message has them. -/
import Derived.Test.YtmlccnpondemiaaStr
import Derived.WalkSpells
import Derived.BigRegion
namespace Go.Proofs.Ytmlccnpondemiaa
open Go.ChangeShapes Go.WideShapes Go.ChangeAt Go.RowKit
set_option linter.unusedVariables false

set_option maxHeartbeats 1000000 in
theorem flags40 (b : Nat) (w : World) :
    Calls Try.prog 40 #[.pointer (some ⟨b, 0, none⟩)] w fun e w' => e = .returned (.agg #[.int .i64 32768, .pointer (some ⟨b, 1, none⟩), .int .i64 1024, .pointer (some ⟨b, 3, none⟩), .int .i64 512, .pointer (some ⟨b, 4, none⟩), .int .i64 256, .pointer (some ⟨b, 5, none⟩), .int .i64 128, .pointer (some ⟨b, 6, none⟩), .int .i64 32, .pointer (some ⟨b, 7, none⟩), .int .i64 16, .pointer (some ⟨b, 8, none⟩)]) ∧ Below w.heap.size w w' := by
  go_enter Try.func40, Try.ntmps40
  go_wp2
  go_region
  go_wp2
  refine bodyPost_ret (v := .agg #[.int .i64 32768, .pointer (some ⟨b, 1, none⟩), .int .i64 1024, .pointer (some ⟨b, 3, none⟩), .int .i64 512, .pointer (some ⟨b, 4, none⟩), .int .i64 256, .pointer (some ⟨b, 5, none⟩), .int .i64 128, .pointer (some ⟨b, 6, none⟩), .int .i64 32, .pointer (some ⟨b, 7, none⟩), .int .i64 16, .pointer (some ⟨b, 8, none⟩)]) ?_ rfl ⟨rfl, ?_⟩
  · simp [results, Try.results40, go_sem]
  exact ((Below.refl _ _).alloc (Nat.le_refl _) _).drew
end Go.Proofs.Ytmlccnpondemiaa
