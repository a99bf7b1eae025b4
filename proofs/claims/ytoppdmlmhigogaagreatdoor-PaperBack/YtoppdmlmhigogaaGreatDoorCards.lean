/-
  DERIVED. GIVEN WITH THE SEED: THE CARDS: each row of YtoppdmlmhigogaaGreatDoorRows.lean that lists a variable, with what it lists TIED to the program's text (the seventh form; the later family's looks); each row that meets fmt, with fmt's text TOLD by the authors' own Lean function (tested against real Go, not proved from fmt's source: count such statements apart). THE CARD IS WHAT COUNTS. Prove the row's statement (the work); the ties are given (YtoppdmlmhigogaaGreatDoorTie.lean); close each card by the builder's one call (the guide's Derived/Test/ToyasCard.lean, 'card_holds'). Laid BY PROGRAM, IN A SANDBOX (cutbox-door.mjs). By AI agents, Wed Nov 11 2026. No macro, syntax, notation, axiom, sorry.
-/
import Derived.Test.YtoppdmlmhigogaaGreatDoorRows
import GoSem.ClaimSeven
namespace Go.Proofs.YtoppdmlmhigogaaGreatDoor
namespace Rows

/-- THE TIED CARD OF 'nomenclatorlaw15.PaperTells'. -/
def paperTellsCard : Claim7 := { stood := { row := paperTellsRow, standIns := [], harness := (true, "db5e299c5a8e90ffaa285d6c86cac7cde4a90e956632e7fb45526e3005844c3b"), looks := true }, kinds := [], alts := [], laidByText := true, laidKinds := [.data, .data, .data, .listed, .data], laidTests := true, laidLooks := .later }
def PaperTellsCardSaid : Prop := Claim7.holds Tryz.pinned (.plain (OpenSpec.ofChange paperTellsSpec)) paperTellsCard

/-- THE TIED CARD OF 'nomenclatorlaw15.PaperBack'. -/
def paperBackCard : Claim7 := { stood := { row := paperBackRow, standIns := [], harness := (true, "db5e299c5a8e90ffaa285d6c86cac7cde4a90e956632e7fb45526e3005844c3b"), looks := true }, kinds := [], alts := [], laidByText := true, laidKinds := [.data, .data, .data, .data, .sentinel, .sentinel, .listed, .data, .data, .pinned], laidTests := true, laidLooks := .later }
def PaperBackCardSaid : Prop := Claim7.holds Tryz.pinned (.plain (OpenSpec.ofChange paperBackSpec)) paperBackCard

/-- THE TIED CARD OF 'nomenclatorlaw15.PaperShort'. -/
def paperShortCard : Claim7 := { stood := { row := paperShortRow, standIns := [], harness := (true, "db5e299c5a8e90ffaa285d6c86cac7cde4a90e956632e7fb45526e3005844c3b"), looks := true }, kinds := [], alts := [], laidByText := true, laidKinds := [.data, .data, .data, .listed, .data], laidTests := true, laidLooks := .later }
def PaperShortCardSaid : Prop := Claim7.holds Tryz.pinned (.plain (OpenSpec.ofChange paperShortSpec)) paperShortCard

/-- THE SECOND FORM's CARD OF 'nomenclatorlaw15.PaperTells'. -/
def paperTellsUptoCard : Claim7 := { stood := { row := paperTellsUptoRow, standIns := [], harness := (true, "db5e299c5a8e90ffaa285d6c86cac7cde4a90e956632e7fb45526e3005844c3b"), looks := true }, kinds := [], alts := [], laidByText := true, laidKinds := [.data, .data, .data, .listed, .data], laidTests := true, laidLooks := .later }
def PaperTellsUptoCardSaid : Prop := Claim7.holds Tryz.pinned (.plain (OpenSpec.upto paperTellsSpec)) paperTellsUptoCard

/-- THE SECOND FORM's CARD OF 'nomenclatorlaw15.PaperBack'. -/
def paperBackUptoCard : Claim7 := { stood := { row := paperBackUptoRow, standIns := [], harness := (true, "db5e299c5a8e90ffaa285d6c86cac7cde4a90e956632e7fb45526e3005844c3b"), looks := true }, kinds := [], alts := [], laidByText := true, laidKinds := [.data, .data, .data, .data, .sentinel, .sentinel, .listed, .data, .data, .pinned], laidTests := true, laidLooks := .later }
def PaperBackUptoCardSaid : Prop := Claim7.holds Tryz.pinned (.plain (OpenSpec.upto paperBackSpec)) paperBackUptoCard

/-- THE SECOND FORM's CARD OF 'nomenclatorlaw15.PaperShort'. -/
def paperShortUptoCard : Claim7 := { stood := { row := paperShortUptoRow, standIns := [], harness := (true, "db5e299c5a8e90ffaa285d6c86cac7cde4a90e956632e7fb45526e3005844c3b"), looks := true }, kinds := [], alts := [], laidByText := true, laidKinds := [.data, .data, .data, .listed, .data], laidTests := true, laidLooks := .later }
def PaperShortUptoCardSaid : Prop := Claim7.holds Tryz.pinned (.plain (OpenSpec.upto paperShortSpec)) paperShortUptoCard
end Rows
end Go.Proofs.YtoppdmlmhigogaaGreatDoor
