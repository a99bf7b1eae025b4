/- The program's names: read out of octets, at any place. -/
import Derived.Test.YtkbpjaojgkpffaaNxm
namespace Go.Proofs.Ytkbpjaojgkpffaa
open Go.ChangeShapes Go.WideShapes Go.ChangeAt Go.RowKit
set_option linter.unusedVariables false
set_option linter.unusedSimpArgs false

set_option maxRecDepth 100000 in
theorem pread_any (a : Option Addr) (len cap : Nat) (zs : List Int) (d : Int) (w : World) (h : Rd w a zs) (hl : zs.length = len) (hm : len ≤ 140737488355328) (hc : len ≤ cap ∧ cap ≤ 9223372036854775807) : Calls Try.prog 45 #[.slice a len cap, .int .i64 d] w (RPost (nread zs d) w) := by
  by_cases hd : d < 0 ∨ (len : Int) ≤ d
  · have hp : nread zs d = ([], 0, 2) := by unfold nread; rw [if_pos (by rw [hl]; exact hd)]
    rw [hp]
    have hd' : d < 0 ∨ (¬ d < 0 ∧ (len : Int) ≤ d) := by omega
    clear h hl hp hd
    rcases hd' with hd | ⟨hd, hd2⟩
    all_goals
      go_enter Try.func45, Try.ntmps45
      go_wp2
      go_ret3
      exact rpost_none rfl (Below.refl _ _)
  · obtain ⟨p, rfl⟩ : ∃ p : Nat, d = (p : Int) := ⟨d.toNat, by omega⟩
    rcases h.1 with h1 | ⟨b, o, rfl, _, _⟩
    · subst h1; simp at hl; omega
    · exact pread_in b o len cap p _ zs w h hl hm hc (by omega) rfl
end Go.Proofs.Ytkbpjaojgkpffaa
