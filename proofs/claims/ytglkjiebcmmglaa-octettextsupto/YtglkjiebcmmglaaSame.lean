/- What SameBytes answers for lists that hold the same bytes. -/
import Derived.Test.YtglkjiebcmmglaaBase
import Derived.Test.YtglkjiebcmmglaaRows
import Derived.WalkSpells
import Derived.Laws.IdiomStrings
namespace Go.Proofs.Ytglkjiebcmmglaa
open Go.ChangeShapes Go.WideShapes Go.ChangeAt Go.RowKit
set_option linter.unusedVariables false

/-- The text of bytes. -/
def txt (zs : List Int) : List UInt8 := zs.map fun z => UInt8.ofNat z.toNat
theorem txt_len (zs : List Int) : (txt zs).length = zs.length := by simp [txt]

theorem conv_rd (a : Option Addr) (n c : Nat) (zs : List Int) (w : World) (hr : Rd w a zs) (hl : zs.length = n) :
    (convert 23 9 (.slice a n c)).run Try.prog w = .ok (.string ⟨(txt zs).toArray⟩) w := by
  cases a with
  | none =>
    rcases hr.1 with h1 | ⟨b, o, h, _⟩
    · subst h1; subst hl
      rw [run_convert_bytes_string w 23 9 5 none _ c Try.underlying23 Try.underlying5 Try.underlying9]
      simp [Conv.bytesToString, txt]
      rfl
    · cases h
  | some x =>
    have := run_convert_bytes_back (P := Try.prog) w 23 9 5 x c (txt zs) Try.underlying23 Try.underlying5 Try.underlying9 (fun j hj => by
      rcases hr.1 with h1 | ⟨b, o, h, _, h2⟩
      · subst h1; simp [txt] at hj
      · cases h
        have hj' : j < zs.length := by simpa [txt] using hj
        have e := h2 j hj'
        have hz := hr.2 (zs[j]) (List.getElem_mem hj')
        rw [Addr.add_lit, e]
        simp [txt, hj']
        omega)
    rw [txt_len, hl] at this
    exact this
set_option maxHeartbeats 400000 in
theorem same_yes (a b : Option Addr) (n c d : Nat) (zs : List Int) (w : World) (hr : Rd w a zs) (hr' : Rd w b zs) (hl : zs.length = n) :
    Calls Try.prog 16 #[.slice a n c, .slice b n d] w fun e w' => e = .returned (.bool true) ∧ w' = w := by
  have h1 := conv_rd a n c zs w hr hl
  have h2 := conv_rd b n d zs w hr' hl
  clear hr hr'
  generalize txt zs = t at *
  go_enter Try.func16, Try.ntmps16
  go_wp2
  go_ret
  exact ⟨rfl, rfl⟩
end Go.Proofs.Ytglkjiebcmmglaa
