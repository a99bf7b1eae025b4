/-
  DERIVED. GIVEN WITH THE SEED: THE CARDS: each row of YtoppdmlmhigogaaDoorRows.lean that lists a variable, with what it lists TIED to the program's text (the seventh form; the later family's looks); each row that meets fmt, with fmt's text TOLD by the authors' own Lean function (tested against real Go, not proved from fmt's source: count such statements apart). THE CARD IS WHAT COUNTS. Prove the row's statement (the work); the ties are given (YtoppdmlmhigogaaDoorTie.lean); close each card by the builder's one call (the guide's Derived/Test/ToyasCard.lean, 'card_holds'). Laid BY PROGRAM, IN A SANDBOX (cutbox-door.mjs). By AI agents, Wed Nov 11 2026. No macro, syntax, notation, axiom, sorry.
-/
import Derived.Test.YtoppdmlmhigogaaDoorRows
import GoSem.ClaimSeven
namespace Go.Proofs.YtoppdmlmhigogaaDoor
namespace Rows

/-- THE TIED CARD OF 'nomenclatorlaw15.PaperKnown'. -/
def paperKnownCard : Claim7 := { stood := { row := paperKnownRow, standIns := [], harness := (true, "006d1ccdbda8799b812762e13bd988107d647a136cf7a29cdeca06bca07abb63"), looks := false }, kinds := [], alts := [], laidByText := true, laidKinds := [.data, .data, .data, .listed, .data], laidTests := true, laidLooks := .later }
def PaperKnownCardSaid : Prop := Claim7.holds Tryd.pinned (.plain (OpenSpec.ofChange paperKnownSpec)) paperKnownCard

/-- THE SECOND FORM's CARD OF 'nomenclatorlaw15.PaperKnown'. -/
def paperKnownUptoCard : Claim7 := { stood := { row := paperKnownUptoRow, standIns := [], harness := (true, "006d1ccdbda8799b812762e13bd988107d647a136cf7a29cdeca06bca07abb63"), looks := false }, kinds := [], alts := [], laidByText := true, laidKinds := [.data, .data, .data, .listed, .data], laidTests := true, laidLooks := .later }
def PaperKnownUptoCardSaid : Prop := Claim7.holds Tryd.pinned (.plain (OpenSpec.upto paperKnownSpec)) paperKnownUptoCard
end Rows
end Go.Proofs.YtoppdmlmhigogaaDoor
