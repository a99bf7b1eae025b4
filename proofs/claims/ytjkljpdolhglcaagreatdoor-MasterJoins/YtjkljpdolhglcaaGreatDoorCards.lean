/-
  DERIVED. GIVEN WITH THE SEED: THE CARDS: each row of YtjkljpdolhglcaaGreatDoorRows.lean that lists a variable, with what it lists TIED to the program's text (the seventh form; the later family's looks); each row that meets fmt, with fmt's text TOLD by the authors' own Lean function (tested against real Go, not proved from fmt's source: count such statements apart). THE CARD IS WHAT COUNTS. Prove the row's statement (the work); the ties are given (YtjkljpdolhglcaaGreatDoorTie.lean); close each card by the builder's one call (the guide's Derived/Test/ToyasCard.lean, 'card_holds'). Laid BY PROGRAM, IN A SANDBOX (cutbox-door.mjs). By AI agents, Wed Nov 11 2026. No macro, syntax, notation, axiom, sorry.
-/
import Derived.Test.YtjkljpdolhglcaaGreatDoorRows
import GoSem.ClaimSeven
namespace Go.Proofs.YtjkljpdolhglcaaGreatDoor
namespace Rows

/-- THE TIED CARD OF 'nomenclatorlaw14.MasterJoins'. -/
def masterJoinsCard : Claim7 := { stood := { row := masterJoinsRow, standIns := [], harness := (true, "7eac781b3e043c1b31f897a3881a1f16c6ba67eb71b9b07da02a22e35b77d1b8"), looks := true }, kinds := [], alts := [], laidByText := true, laidKinds := [.data, .data, .data, .data, .sentinel, .sentinel, .listed, .data, .data, .pinned, .pinned], laidTests := true, laidLooks := .later }
def MasterJoinsCardSaid : Prop := Claim7.holds Tryz.pinned (.plain (OpenSpec.ofChange masterJoinsSpec)) masterJoinsCard

/-- THE TIED CARD OF 'nomenclatorlaw14.MasterNoise'. -/
def masterNoiseCard : Claim7 := { stood := { row := masterNoiseRow, standIns := [], harness := (true, "7eac781b3e043c1b31f897a3881a1f16c6ba67eb71b9b07da02a22e35b77d1b8"), looks := true }, kinds := [], alts := [], laidByText := true, laidKinds := [.data, .data, .data, .data, .sentinel, .sentinel, .listed, .data, .data, .pinned], laidTests := true, laidLooks := .later }
def MasterNoiseCardSaid : Prop := Claim7.holds Tryz.pinned (.plain (OpenSpec.ofChange masterNoiseSpec)) masterNoiseCard

/-- THE TIED CARD OF 'nomenclatorlaw14.MasterOrigin'. -/
def masterOriginCard : Claim7 := { stood := { row := masterOriginRow, standIns := [], harness := (true, "7eac781b3e043c1b31f897a3881a1f16c6ba67eb71b9b07da02a22e35b77d1b8"), looks := true }, kinds := [], alts := [], laidByText := true, laidKinds := [.data, .data, .data, .data, .sentinel, .sentinel, .listed, .data, .data, .pinned], laidTests := true, laidLooks := .later }
def MasterOriginCardSaid : Prop := Claim7.holds Tryz.pinned (.plain (OpenSpec.ofChange masterOriginSpec)) masterOriginCard

/-- THE TIED CARD OF 'nomenclatorlaw14.MasterKnown'. -/
def masterKnownCard : Claim7 := { stood := { row := masterKnownRow, standIns := [], harness := (true, "7eac781b3e043c1b31f897a3881a1f16c6ba67eb71b9b07da02a22e35b77d1b8"), looks := true }, kinds := [], alts := [], laidByText := true, laidKinds := [.data, .data, .data, .data, .sentinel, .sentinel, .listed, .data, .data, .pinned], laidTests := true, laidLooks := .later }
def MasterKnownCardSaid : Prop := Claim7.holds Tryz.pinned (.plain (OpenSpec.ofChange masterKnownSpec)) masterKnownCard

/-- THE SECOND FORM's CARD OF 'nomenclatorlaw14.MasterJoins'. -/
def masterJoinsUptoCard : Claim7 := { stood := { row := masterJoinsUptoRow, standIns := [], harness := (true, "7eac781b3e043c1b31f897a3881a1f16c6ba67eb71b9b07da02a22e35b77d1b8"), looks := true }, kinds := [], alts := [], laidByText := true, laidKinds := [.data, .data, .data, .data, .sentinel, .sentinel, .listed, .data, .data, .pinned, .pinned], laidTests := true, laidLooks := .later }
def MasterJoinsUptoCardSaid : Prop := Claim7.holds Tryz.pinned (.plain (OpenSpec.upto masterJoinsSpec)) masterJoinsUptoCard

/-- THE SECOND FORM's CARD OF 'nomenclatorlaw14.MasterNoise'. -/
def masterNoiseUptoCard : Claim7 := { stood := { row := masterNoiseUptoRow, standIns := [], harness := (true, "7eac781b3e043c1b31f897a3881a1f16c6ba67eb71b9b07da02a22e35b77d1b8"), looks := true }, kinds := [], alts := [], laidByText := true, laidKinds := [.data, .data, .data, .data, .sentinel, .sentinel, .listed, .data, .data, .pinned], laidTests := true, laidLooks := .later }
def MasterNoiseUptoCardSaid : Prop := Claim7.holds Tryz.pinned (.plain (OpenSpec.upto masterNoiseSpec)) masterNoiseUptoCard

/-- THE SECOND FORM's CARD OF 'nomenclatorlaw14.MasterOrigin'. -/
def masterOriginUptoCard : Claim7 := { stood := { row := masterOriginUptoRow, standIns := [], harness := (true, "7eac781b3e043c1b31f897a3881a1f16c6ba67eb71b9b07da02a22e35b77d1b8"), looks := true }, kinds := [], alts := [], laidByText := true, laidKinds := [.data, .data, .data, .data, .sentinel, .sentinel, .listed, .data, .data, .pinned], laidTests := true, laidLooks := .later }
def MasterOriginUptoCardSaid : Prop := Claim7.holds Tryz.pinned (.plain (OpenSpec.upto masterOriginSpec)) masterOriginUptoCard

/-- THE SECOND FORM's CARD OF 'nomenclatorlaw14.MasterKnown'. -/
def masterKnownUptoCard : Claim7 := { stood := { row := masterKnownUptoRow, standIns := [], harness := (true, "7eac781b3e043c1b31f897a3881a1f16c6ba67eb71b9b07da02a22e35b77d1b8"), looks := true }, kinds := [], alts := [], laidByText := true, laidKinds := [.data, .data, .data, .data, .sentinel, .sentinel, .listed, .data, .data, .pinned], laidTests := true, laidLooks := .later }
def MasterKnownUptoCardSaid : Prop := Claim7.holds Tryz.pinned (.plain (OpenSpec.upto masterKnownSpec)) masterKnownUptoCard
end Rows
end Go.Proofs.YtjkljpdolhglcaaGreatDoor
