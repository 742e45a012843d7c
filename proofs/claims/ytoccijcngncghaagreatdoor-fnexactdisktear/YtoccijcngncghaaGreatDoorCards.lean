/-
  DERIVED. GIVEN WITH THE SEED: THE CARDS: each row of YtoccijcngncghaaGreatDoorRows.lean that lists a variable, with what it lists TIED to the program's text (the seventh form; the later family's looks); each row that meets fmt, with fmt's text TOLD by the authors' own Lean function (tested against real Go, not proved from fmt's source: count such statements apart). THE CARD IS WHAT COUNTS. Prove the row's statement (the work); the ties are given (YtoccijcngncghaaGreatDoorTie.lean); close each card by the builder's one call (the guide's Derived/Test/ToyasCard.lean, 'card_holds'). Laid BY PROGRAM, IN A SANDBOX (cutbox-door.mjs). By AI agents, Wed Nov 11 2026. No macro, syntax, notation, axiom, sorry.
-/
import Derived.Test.YtoccijcngncghaaGreatDoorRows
import GoSem.ClaimSeven
namespace Go.Proofs.YtoccijcngncghaaGreatDoor
namespace Rows

/-- THE TIED CARD OF 'laws.FnDiskTear'. -/
def fnDiskTearCard : Claim7 := { stood := { row := fnDiskTearRow, standIns := [], harness := (true, "889b23231309f160769e62bb1a7e7b536d72bd6fa724a5347ae5708ec74c6ba2"), looks := false }, kinds := [], alts := [], laidByText := true, laidKinds := [.data, .data, .data], laidTests := true, laidLooks := .later }
def FnDiskTearCardSaid : Prop := Claim7.holds Tryz.pinned (.plain (OpenSpec.ofChange fnDiskTearSpec)) fnDiskTearCard

/-- THE TIED CARD OF 'laws.FnDiskBad'. -/
def fnDiskBadCard : Claim7 := { stood := { row := fnDiskBadRow, standIns := [], harness := (true, "889b23231309f160769e62bb1a7e7b536d72bd6fa724a5347ae5708ec74c6ba2"), looks := false }, kinds := [], alts := [], laidByText := true, laidKinds := [.data, .data, .data], laidTests := true, laidLooks := .later }
def FnDiskBadCardSaid : Prop := Claim7.holds Tryz.pinned (.plain (OpenSpec.ofChange fnDiskBadSpec)) fnDiskBadCard

/-- THE TIED CARD OF 'laws.FnExactDiskDo'. -/
def fnExactDiskDoCard : Claim7 := { stood := { row := fnExactDiskDoRow, standIns := [], harness := (true, "889b23231309f160769e62bb1a7e7b536d72bd6fa724a5347ae5708ec74c6ba2"), looks := false }, kinds := [], alts := [], laidByText := true, laidKinds := [.data, .data, .data], laidTests := true, laidLooks := .later }
def FnExactDiskDoCardSaid : Prop := Claim7.holds Tryz.pinned (.plain (OpenSpec.ofChange fnExactDiskDoSpec)) fnExactDiskDoCard

/-- THE TIED CARD OF 'laws.FnExactDiskTear'. -/
def fnExactDiskTearCard : Claim7 := { stood := { row := fnExactDiskTearRow, standIns := [], harness := (true, "889b23231309f160769e62bb1a7e7b536d72bd6fa724a5347ae5708ec74c6ba2"), looks := false }, kinds := [], alts := [], laidByText := true, laidKinds := [.data, .data, .data], laidTests := true, laidLooks := .later }
def FnExactDiskTearCardSaid : Prop := Claim7.holds Tryz.pinned (.plain (OpenSpec.ofChange fnExactDiskTearSpec)) fnExactDiskTearCard

/-- THE SECOND FORM's CARD OF 'laws.FnDiskTear'. -/
def fnDiskTearUptoCard : Claim7 := { stood := { row := fnDiskTearUptoRow, standIns := [], harness := (true, "889b23231309f160769e62bb1a7e7b536d72bd6fa724a5347ae5708ec74c6ba2"), looks := false }, kinds := [], alts := [], laidByText := true, laidKinds := [.data, .data, .data], laidTests := true, laidLooks := .later }
def FnDiskTearUptoCardSaid : Prop := Claim7.holds Tryz.pinned (.plain (OpenSpec.upto fnDiskTearSpec)) fnDiskTearUptoCard

/-- THE SECOND FORM's CARD OF 'laws.FnDiskBad'. -/
def fnDiskBadUptoCard : Claim7 := { stood := { row := fnDiskBadUptoRow, standIns := [], harness := (true, "889b23231309f160769e62bb1a7e7b536d72bd6fa724a5347ae5708ec74c6ba2"), looks := false }, kinds := [], alts := [], laidByText := true, laidKinds := [.data, .data, .data], laidTests := true, laidLooks := .later }
def FnDiskBadUptoCardSaid : Prop := Claim7.holds Tryz.pinned (.plain (OpenSpec.upto fnDiskBadSpec)) fnDiskBadUptoCard

/-- THE SECOND FORM's CARD OF 'laws.FnExactDiskDo'. -/
def fnExactDiskDoUptoCard : Claim7 := { stood := { row := fnExactDiskDoUptoRow, standIns := [], harness := (true, "889b23231309f160769e62bb1a7e7b536d72bd6fa724a5347ae5708ec74c6ba2"), looks := false }, kinds := [], alts := [], laidByText := true, laidKinds := [.data, .data, .data], laidTests := true, laidLooks := .later }
def FnExactDiskDoUptoCardSaid : Prop := Claim7.holds Tryz.pinned (.plain (OpenSpec.upto fnExactDiskDoSpec)) fnExactDiskDoUptoCard

/-- THE SECOND FORM's CARD OF 'laws.FnExactDiskTear'. -/
def fnExactDiskTearUptoCard : Claim7 := { stood := { row := fnExactDiskTearUptoRow, standIns := [], harness := (true, "889b23231309f160769e62bb1a7e7b536d72bd6fa724a5347ae5708ec74c6ba2"), looks := false }, kinds := [], alts := [], laidByText := true, laidKinds := [.data, .data, .data], laidTests := true, laidLooks := .later }
def FnExactDiskTearUptoCardSaid : Prop := Claim7.holds Tryz.pinned (.plain (OpenSpec.upto fnExactDiskTearSpec)) fnExactDiskTearUptoCard
end Rows
end Go.Proofs.YtoccijcngncghaaGreatDoor
