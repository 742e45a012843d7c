/-
  DERIVED. GIVEN WITH THE SEED: THE CARDS: each row of YtkhanndmbpemfaaGreatDoorRows.lean that lists a variable, with what it lists TIED to the program's text (the seventh form; the later family's looks); each row that meets fmt, with fmt's text TOLD by the authors' own Lean function (tested against real Go, not proved from fmt's source: count such statements apart). THE CARD IS WHAT COUNTS. Prove the row's statement (the work); the ties are given (YtkhanndmbpemfaaGreatDoorTie.lean); close each card by the builder's one call (the guide's Derived/Test/ToyasCard.lean, 'card_holds'). Laid BY PROGRAM, IN A SANDBOX (cutbox-door.mjs). By AI agents, Wed Nov 11 2026. No macro, syntax, notation, axiom, sorry.
-/
import Derived.Test.YtkhanndmbpemfaaGreatDoorRows
import GoSem.ClaimSeven
namespace Go.Proofs.YtkhanndmbpemfaaGreatDoor
namespace Rows

/-- THE TIED CARD OF 'laws.FnExactInstTo'. -/
def fnExactInstToCard : Claim7 := { stood := { row := fnExactInstToRow, standIns := [], harness := (true, "3dd7a4ea8df816d4b949d8a99d1a36c8f6cfcc7264177d1cdccd67ce97eda13b"), looks := false }, kinds := [], alts := [], laidByText := true, laidKinds := [.data, .data, .data], laidTests := true, laidLooks := .later }
def FnExactInstToCardSaid : Prop := Claim7.holds Tryz.pinned (.plain (OpenSpec.ofChange fnExactInstToSpec)) fnExactInstToCard

/-- THE TIED CARD OF 'laws.FnToSteps'. -/
def fnToStepsCard : Claim7 := { stood := { row := fnToStepsRow, standIns := [], harness := (true, "3dd7a4ea8df816d4b949d8a99d1a36c8f6cfcc7264177d1cdccd67ce97eda13b"), looks := false }, kinds := [], alts := [], laidByText := true, laidKinds := [.data, .data, .data], laidTests := true, laidLooks := .later }
def FnToStepsCardSaid : Prop := Claim7.holds Tryz.pinned (.plain (OpenSpec.ofChange fnToStepsSpec)) fnToStepsCard

/-- THE TIED CARD OF 'laws.FnToNone'. -/
def fnToNoneCard : Claim7 := { stood := { row := fnToNoneRow, standIns := [], harness := (true, "3dd7a4ea8df816d4b949d8a99d1a36c8f6cfcc7264177d1cdccd67ce97eda13b"), looks := false }, kinds := [], alts := [], laidByText := true, laidKinds := [.data, .data, .data], laidTests := true, laidLooks := .later }
def FnToNoneCardSaid : Prop := Claim7.holds Tryz.pinned (.plain (OpenSpec.ofChange fnToNoneSpec)) fnToNoneCard

/-- THE SECOND FORM's CARD OF 'laws.FnExactInstTo'. -/
def fnExactInstToUptoCard : Claim7 := { stood := { row := fnExactInstToUptoRow, standIns := [], harness := (true, "3dd7a4ea8df816d4b949d8a99d1a36c8f6cfcc7264177d1cdccd67ce97eda13b"), looks := false }, kinds := [], alts := [], laidByText := true, laidKinds := [.data, .data, .data], laidTests := true, laidLooks := .later }
def FnExactInstToUptoCardSaid : Prop := Claim7.holds Tryz.pinned (.plain (OpenSpec.upto fnExactInstToSpec)) fnExactInstToUptoCard

/-- THE SECOND FORM's CARD OF 'laws.FnToSteps'. -/
def fnToStepsUptoCard : Claim7 := { stood := { row := fnToStepsUptoRow, standIns := [], harness := (true, "3dd7a4ea8df816d4b949d8a99d1a36c8f6cfcc7264177d1cdccd67ce97eda13b"), looks := false }, kinds := [], alts := [], laidByText := true, laidKinds := [.data, .data, .data], laidTests := true, laidLooks := .later }
def FnToStepsUptoCardSaid : Prop := Claim7.holds Tryz.pinned (.plain (OpenSpec.upto fnToStepsSpec)) fnToStepsUptoCard

/-- THE SECOND FORM's CARD OF 'laws.FnToNone'. -/
def fnToNoneUptoCard : Claim7 := { stood := { row := fnToNoneUptoRow, standIns := [], harness := (true, "3dd7a4ea8df816d4b949d8a99d1a36c8f6cfcc7264177d1cdccd67ce97eda13b"), looks := false }, kinds := [], alts := [], laidByText := true, laidKinds := [.data, .data, .data], laidTests := true, laidLooks := .later }
def FnToNoneUptoCardSaid : Prop := Claim7.holds Tryz.pinned (.plain (OpenSpec.upto fnToNoneSpec)) fnToNoneUptoCard
end Rows
end Go.Proofs.YtkhanndmbpemfaaGreatDoor
