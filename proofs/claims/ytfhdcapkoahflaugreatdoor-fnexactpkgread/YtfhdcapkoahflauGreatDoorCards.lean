/-
  DERIVED. GIVEN WITH THE SEED: THE CARDS: each row of YtfhdcapkoahflauGreatDoorRows.lean that lists a variable, with what it lists TIED to the program's text (the seventh form; the later family's looks); each row that meets fmt, with fmt's text TOLD by the authors' own Lean function (tested against real Go, not proved from fmt's source: count such statements apart). THE CARD IS WHAT COUNTS. Prove the row's statement (the work); the ties are given (YtfhdcapkoahflauGreatDoorTie.lean); close each card by the builder's one call (the guide's Derived/Test/ToyasCard.lean, 'card_holds'). Laid BY PROGRAM, IN A SANDBOX (cutbox-door.mjs). By AI agents, Wed Nov 11 2026. No macro, syntax, notation, axiom, sorry.
-/
import Derived.Test.YtfhdcapkoahflauGreatDoorRows
import GoSem.ClaimSeven
namespace Go.Proofs.YtfhdcapkoahflauGreatDoor
namespace Rows

/-- THE TIED CARD OF 'laws.FnExactPkgRead'. -/
def fnExactPkgReadCard : Claim7 := { stood := { row := fnExactPkgReadRow, standIns := [], harness := (true, "a48adf4e714689f0e98a65c786d88b522c7431f46297303e69edb7030bb8bce7"), looks := true }, kinds := [], alts := [], laidByText := true, laidKinds := [.data, .data, .data, .data, .sentinel, .sentinel, .sentinel, .pinned], laidTests := true, laidLooks := .later }
def FnExactPkgReadCardSaid : Prop := Claim7.holds Tryz.pinned (.plain (OpenSpec.ofChange fnExactPkgReadSpec)) fnExactPkgReadCard

/-- THE SECOND FORM's CARD OF 'laws.FnExactPkgRead'. -/
def fnExactPkgReadUptoCard : Claim7 := { stood := { row := fnExactPkgReadUptoRow, standIns := [], harness := (true, "a48adf4e714689f0e98a65c786d88b522c7431f46297303e69edb7030bb8bce7"), looks := true }, kinds := [], alts := [], laidByText := true, laidKinds := [.data, .data, .data, .data, .sentinel, .sentinel, .sentinel, .pinned], laidTests := true, laidLooks := .later }
def FnExactPkgReadUptoCardSaid : Prop := Claim7.holds Tryz.pinned (.plain (OpenSpec.upto fnExactPkgReadSpec)) fnExactPkgReadUptoCard
end Rows
end Go.Proofs.YtfhdcapkoahflauGreatDoor
