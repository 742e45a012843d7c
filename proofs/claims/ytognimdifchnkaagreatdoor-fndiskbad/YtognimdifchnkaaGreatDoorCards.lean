/-
  DERIVED. GIVEN WITH THE SEED: THE CARDS: each row of YtognimdifchnkaaGreatDoorRows.lean that lists a variable, with what it lists TIED to the program's text (the seventh form; the later family's looks); each row that meets fmt, with fmt's text TOLD by the authors' own Lean function (tested against real Go, not proved from fmt's source: count such statements apart). THE CARD IS WHAT COUNTS. Prove the row's statement (the work); the ties are given (YtognimdifchnkaaGreatDoorTie.lean); close each card by the builder's one call (the guide's Derived/Test/ToyasCard.lean, 'card_holds'). Laid BY PROGRAM, IN A SANDBOX (cutbox-door.mjs). By AI agents, Wed Nov 11 2026. No macro, syntax, notation, axiom, sorry.
-/
import Derived.Test.YtognimdifchnkaaGreatDoorRows
import GoSem.ClaimSeven
namespace Go.Proofs.YtognimdifchnkaaGreatDoor
namespace Rows

/-- THE TIED CARD OF 'laws.FnDiskTear'. -/
def fnDiskTearCard : Claim7 := { stood := { row := fnDiskTearRow, standIns := [], harness := (true, "57768c0cd9264c54e3cd2a264b96b9bc441ae2c38aed37b4aa0ae6e116342046"), looks := false }, kinds := [], alts := [], laidByText := true, laidKinds := [.data, .data, .data], laidTests := true, laidLooks := .later }
def FnDiskTearCardSaid : Prop := Claim7.holds Tryz.pinned (.plain (OpenSpec.ofChange fnDiskTearSpec)) fnDiskTearCard

/-- THE TIED CARD OF 'laws.FnDiskBad'. -/
def fnDiskBadCard : Claim7 := { stood := { row := fnDiskBadRow, standIns := [], harness := (true, "57768c0cd9264c54e3cd2a264b96b9bc441ae2c38aed37b4aa0ae6e116342046"), looks := false }, kinds := [], alts := [], laidByText := true, laidKinds := [.data, .data, .data], laidTests := true, laidLooks := .later }
def FnDiskBadCardSaid : Prop := Claim7.holds Tryz.pinned (.plain (OpenSpec.ofChange fnDiskBadSpec)) fnDiskBadCard

/-- THE SECOND FORM's CARD OF 'laws.FnDiskTear'. -/
def fnDiskTearUptoCard : Claim7 := { stood := { row := fnDiskTearUptoRow, standIns := [], harness := (true, "57768c0cd9264c54e3cd2a264b96b9bc441ae2c38aed37b4aa0ae6e116342046"), looks := false }, kinds := [], alts := [], laidByText := true, laidKinds := [.data, .data, .data], laidTests := true, laidLooks := .later }
def FnDiskTearUptoCardSaid : Prop := Claim7.holds Tryz.pinned (.plain (OpenSpec.upto fnDiskTearSpec)) fnDiskTearUptoCard

/-- THE SECOND FORM's CARD OF 'laws.FnDiskBad'. -/
def fnDiskBadUptoCard : Claim7 := { stood := { row := fnDiskBadUptoRow, standIns := [], harness := (true, "57768c0cd9264c54e3cd2a264b96b9bc441ae2c38aed37b4aa0ae6e116342046"), looks := false }, kinds := [], alts := [], laidByText := true, laidKinds := [.data, .data, .data], laidTests := true, laidLooks := .later }
def FnDiskBadUptoCardSaid : Prop := Claim7.holds Tryz.pinned (.plain (OpenSpec.upto fnDiskBadSpec)) fnDiskBadUptoCard
end Rows
end Go.Proofs.YtognimdifchnkaaGreatDoor
