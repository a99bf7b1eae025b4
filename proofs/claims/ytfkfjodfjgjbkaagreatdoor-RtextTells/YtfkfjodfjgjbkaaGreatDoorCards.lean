/-
  DERIVED. GIVEN WITH THE SEED: THE CARDS: each row of YtfkfjodfjgjbkaaGreatDoorRows.lean that lists a variable, with what it lists TIED to the program's text (the seventh form; the later family's looks); each row that meets fmt, with fmt's text TOLD by the authors' own Lean function (tested against real Go, not proved from fmt's source: count such statements apart). THE CARD IS WHAT COUNTS. Prove the row's statement (the work); the ties are given (YtfkfjodfjgjbkaaGreatDoorTie.lean); close each card by the builder's one call (the guide's Derived/Test/ToyasCard.lean, 'card_holds'). Laid BY PROGRAM, IN A SANDBOX (cutbox-door.mjs). By AI agents, Wed Nov 11 2026. No macro, syntax, notation, axiom, sorry.
-/
import Derived.Test.YtfkfjodfjgjbkaaGreatDoorRows
import GoSem.ClaimSeven
namespace Go.Proofs.YtfkfjodfjgjbkaaGreatDoor
namespace Rows

/-- THE TIED CARD OF 'nomenclatorlaw06.RtextTells'. -/
def rtextTellsCard : Claim7 := { stood := { row := rtextTellsRow, standIns := [], harness := (true, "44449567a0272c44bb1fca1600370f93eac019e815bea14129c4194d1a13dcc0"), looks := true }, kinds := [], alts := [], laidByText := true, laidKinds := [.data, .data, .data], laidTests := true, laidLooks := .later }
def RtextTellsCardSaid : Prop := Claim7.holds Tryz.pinned (.plain (OpenSpec.ofChange rtextTellsSpec)) rtextTellsCard

/-- THE TIED CARD OF 'nomenclatorlaw06.RtextBack'. -/
def rtextBackCard : Claim7 := { stood := { row := rtextBackRow, standIns := [], harness := (true, "44449567a0272c44bb1fca1600370f93eac019e815bea14129c4194d1a13dcc0"), looks := true }, kinds := [], alts := [], laidByText := true, laidKinds := [.data, .data, .data, .data, .sentinel, .sentinel, .pinned], laidTests := true, laidLooks := .later }
def RtextBackCardSaid : Prop := Claim7.holds Tryz.pinned (.plain (OpenSpec.ofChange rtextBackSpec)) rtextBackCard

/-- THE TIED CARD OF 'nomenclatorlaw06.RtextGeneric'. -/
def rtextGenericCard : Claim7 := { stood := { row := rtextGenericRow, standIns := [], harness := (true, "44449567a0272c44bb1fca1600370f93eac019e815bea14129c4194d1a13dcc0"), looks := true }, kinds := [], alts := [], laidByText := true, laidKinds := [.data, .data, .data, .data, .sentinel, .sentinel, .pinned], laidTests := true, laidLooks := .later }
def RtextGenericCardSaid : Prop := Claim7.holds Tryz.pinned (.plain (OpenSpec.ofChange rtextGenericSpec)) rtextGenericCard

/-- THE TIED CARD OF 'nomenclatorlaw06.RtextQuote'. -/
def rtextQuoteCard : Claim7 := { stood := { row := rtextQuoteRow, standIns := [], harness := (true, "44449567a0272c44bb1fca1600370f93eac019e815bea14129c4194d1a13dcc0"), looks := true }, kinds := [], alts := [], laidByText := true, laidKinds := [.data, .data, .data, .data, .sentinel, .sentinel, .pinned], laidTests := true, laidLooks := .later }
def RtextQuoteCardSaid : Prop := Claim7.holds Tryz.pinned (.plain (OpenSpec.ofChange rtextQuoteSpec)) rtextQuoteCard

/-- THE TIED CARD OF 'nomenclatorlaw06.RtextKnown'. -/
def rtextKnownCard : Claim7 := { stood := { row := rtextKnownRow, standIns := [], harness := (true, "44449567a0272c44bb1fca1600370f93eac019e815bea14129c4194d1a13dcc0"), looks := true }, kinds := [], alts := [], laidByText := true, laidKinds := [.data, .data, .data, .data, .sentinel, .sentinel, .pinned], laidTests := true, laidLooks := .later }
def RtextKnownCardSaid : Prop := Claim7.holds Tryz.pinned (.plain (OpenSpec.ofChange rtextKnownSpec)) rtextKnownCard

/-- THE SECOND FORM's CARD OF 'nomenclatorlaw06.RtextTells'. -/
def rtextTellsUptoCard : Claim7 := { stood := { row := rtextTellsUptoRow, standIns := [], harness := (true, "44449567a0272c44bb1fca1600370f93eac019e815bea14129c4194d1a13dcc0"), looks := true }, kinds := [], alts := [], laidByText := true, laidKinds := [.data, .data, .data], laidTests := true, laidLooks := .later }
def RtextTellsUptoCardSaid : Prop := Claim7.holds Tryz.pinned (.plain (OpenSpec.upto rtextTellsSpec)) rtextTellsUptoCard

/-- THE SECOND FORM's CARD OF 'nomenclatorlaw06.RtextBack'. -/
def rtextBackUptoCard : Claim7 := { stood := { row := rtextBackUptoRow, standIns := [], harness := (true, "44449567a0272c44bb1fca1600370f93eac019e815bea14129c4194d1a13dcc0"), looks := true }, kinds := [], alts := [], laidByText := true, laidKinds := [.data, .data, .data, .data, .sentinel, .sentinel, .pinned], laidTests := true, laidLooks := .later }
def RtextBackUptoCardSaid : Prop := Claim7.holds Tryz.pinned (.plain (OpenSpec.upto rtextBackSpec)) rtextBackUptoCard

/-- THE SECOND FORM's CARD OF 'nomenclatorlaw06.RtextGeneric'. -/
def rtextGenericUptoCard : Claim7 := { stood := { row := rtextGenericUptoRow, standIns := [], harness := (true, "44449567a0272c44bb1fca1600370f93eac019e815bea14129c4194d1a13dcc0"), looks := true }, kinds := [], alts := [], laidByText := true, laidKinds := [.data, .data, .data, .data, .sentinel, .sentinel, .pinned], laidTests := true, laidLooks := .later }
def RtextGenericUptoCardSaid : Prop := Claim7.holds Tryz.pinned (.plain (OpenSpec.upto rtextGenericSpec)) rtextGenericUptoCard

/-- THE SECOND FORM's CARD OF 'nomenclatorlaw06.RtextQuote'. -/
def rtextQuoteUptoCard : Claim7 := { stood := { row := rtextQuoteUptoRow, standIns := [], harness := (true, "44449567a0272c44bb1fca1600370f93eac019e815bea14129c4194d1a13dcc0"), looks := true }, kinds := [], alts := [], laidByText := true, laidKinds := [.data, .data, .data, .data, .sentinel, .sentinel, .pinned], laidTests := true, laidLooks := .later }
def RtextQuoteUptoCardSaid : Prop := Claim7.holds Tryz.pinned (.plain (OpenSpec.upto rtextQuoteSpec)) rtextQuoteUptoCard

/-- THE SECOND FORM's CARD OF 'nomenclatorlaw06.RtextKnown'. -/
def rtextKnownUptoCard : Claim7 := { stood := { row := rtextKnownUptoRow, standIns := [], harness := (true, "44449567a0272c44bb1fca1600370f93eac019e815bea14129c4194d1a13dcc0"), looks := true }, kinds := [], alts := [], laidByText := true, laidKinds := [.data, .data, .data, .data, .sentinel, .sentinel, .pinned], laidTests := true, laidLooks := .later }
def RtextKnownUptoCardSaid : Prop := Claim7.holds Tryz.pinned (.plain (OpenSpec.upto rtextKnownSpec)) rtextKnownUptoCard
end Rows
end Go.Proofs.YtfkfjodfjgjbkaaGreatDoor
