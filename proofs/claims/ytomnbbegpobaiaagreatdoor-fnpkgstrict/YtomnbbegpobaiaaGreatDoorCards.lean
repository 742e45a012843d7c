/-
  DERIVED. GIVEN WITH THE SEED: THE CARDS: each row of YtomnbbegpobaiaaGreatDoorRows.lean that lists a variable, with what it lists TIED to the program's text (the seventh form; the later family's looks); each row that meets fmt, with fmt's text TOLD by the authors' own Lean function (tested against real Go, not proved from fmt's source: count such statements apart). THE CARD IS WHAT COUNTS. Prove the row's statement (the work); the ties are given (YtomnbbegpobaiaaGreatDoorTie.lean); close each card by the builder's one call (the guide's Derived/Test/ToyasCard.lean, 'card_holds'). Laid BY PROGRAM, IN A SANDBOX (cutbox-door.mjs). By AI agents, Wed Nov 11 2026. No macro, syntax, notation, axiom, sorry.
-/
import Derived.Test.YtomnbbegpobaiaaGreatDoorRows
import GoSem.ClaimSeven
namespace Go.Proofs.YtomnbbegpobaiaaGreatDoor
namespace Rows

/-- THE TIED CARD OF 'laws.FnPkgBack'. -/
def fnPkgBackCard : Claim7 := { stood := { row := fnPkgBackRow, standIns := [], harness := (true, "375a402ea8a782044627915d2ebc87e7216d60b4d57479ddd8e59e1f7b1e7fb6"), looks := true }, kinds := [], alts := [], laidByText := true, laidKinds := [.data, .data, .data, .data, .sentinel, .sentinel, .sentinel, .pinned], laidTests := true, laidLooks := .later }
def FnPkgBackCardSaid : Prop := Claim7.holds Tryz.pinned (.plain (OpenSpec.ofChange fnPkgBackSpec)) fnPkgBackCard

/-- THE TIED CARD OF 'laws.FnPkgStrict'. -/
def fnPkgStrictCard : Claim7 := { stood := { row := fnPkgStrictRow, standIns := [], harness := (true, "375a402ea8a782044627915d2ebc87e7216d60b4d57479ddd8e59e1f7b1e7fb6"), looks := true }, kinds := [], alts := [], laidByText := true, laidKinds := [.data, .data, .data, .data, .sentinel, .sentinel, .sentinel, .pinned], laidTests := true, laidLooks := .later }
def FnPkgStrictCardSaid : Prop := Claim7.holds Tryz.pinned (.plain (OpenSpec.ofChange fnPkgStrictSpec)) fnPkgStrictCard

/-- THE TIED CARD OF 'laws.FnPkgCut'. -/
def fnPkgCutCard : Claim7 := { stood := { row := fnPkgCutRow, standIns := [], harness := (true, "375a402ea8a782044627915d2ebc87e7216d60b4d57479ddd8e59e1f7b1e7fb6"), looks := true }, kinds := [], alts := [], laidByText := true, laidKinds := [.data, .data, .data, .data, .sentinel, .sentinel, .sentinel, .pinned], laidTests := true, laidLooks := .later }
def FnPkgCutCardSaid : Prop := Claim7.holds Tryz.pinned (.plain (OpenSpec.ofChange fnPkgCutSpec)) fnPkgCutCard

/-- THE TIED CARD OF 'laws.FnExactPkgRead'. -/
def fnExactPkgReadCard : Claim7 := { stood := { row := fnExactPkgReadRow, standIns := [], harness := (true, "375a402ea8a782044627915d2ebc87e7216d60b4d57479ddd8e59e1f7b1e7fb6"), looks := true }, kinds := [], alts := [], laidByText := true, laidKinds := [.data, .data, .data, .data, .sentinel, .sentinel, .sentinel, .pinned], laidTests := true, laidLooks := .later }
def FnExactPkgReadCardSaid : Prop := Claim7.holds Tryz.pinned (.plain (OpenSpec.ofChange fnExactPkgReadSpec)) fnExactPkgReadCard

/-- THE SECOND FORM's CARD OF 'laws.FnPkgBack'. -/
def fnPkgBackUptoCard : Claim7 := { stood := { row := fnPkgBackUptoRow, standIns := [], harness := (true, "375a402ea8a782044627915d2ebc87e7216d60b4d57479ddd8e59e1f7b1e7fb6"), looks := true }, kinds := [], alts := [], laidByText := true, laidKinds := [.data, .data, .data, .data, .sentinel, .sentinel, .sentinel, .pinned], laidTests := true, laidLooks := .later }
def FnPkgBackUptoCardSaid : Prop := Claim7.holds Tryz.pinned (.plain (OpenSpec.upto fnPkgBackSpec)) fnPkgBackUptoCard

/-- THE SECOND FORM's CARD OF 'laws.FnPkgStrict'. -/
def fnPkgStrictUptoCard : Claim7 := { stood := { row := fnPkgStrictUptoRow, standIns := [], harness := (true, "375a402ea8a782044627915d2ebc87e7216d60b4d57479ddd8e59e1f7b1e7fb6"), looks := true }, kinds := [], alts := [], laidByText := true, laidKinds := [.data, .data, .data, .data, .sentinel, .sentinel, .sentinel, .pinned], laidTests := true, laidLooks := .later }
def FnPkgStrictUptoCardSaid : Prop := Claim7.holds Tryz.pinned (.plain (OpenSpec.upto fnPkgStrictSpec)) fnPkgStrictUptoCard

/-- THE SECOND FORM's CARD OF 'laws.FnPkgCut'. -/
def fnPkgCutUptoCard : Claim7 := { stood := { row := fnPkgCutUptoRow, standIns := [], harness := (true, "375a402ea8a782044627915d2ebc87e7216d60b4d57479ddd8e59e1f7b1e7fb6"), looks := true }, kinds := [], alts := [], laidByText := true, laidKinds := [.data, .data, .data, .data, .sentinel, .sentinel, .sentinel, .pinned], laidTests := true, laidLooks := .later }
def FnPkgCutUptoCardSaid : Prop := Claim7.holds Tryz.pinned (.plain (OpenSpec.upto fnPkgCutSpec)) fnPkgCutUptoCard

/-- THE SECOND FORM's CARD OF 'laws.FnExactPkgRead'. -/
def fnExactPkgReadUptoCard : Claim7 := { stood := { row := fnExactPkgReadUptoRow, standIns := [], harness := (true, "375a402ea8a782044627915d2ebc87e7216d60b4d57479ddd8e59e1f7b1e7fb6"), looks := true }, kinds := [], alts := [], laidByText := true, laidKinds := [.data, .data, .data, .data, .sentinel, .sentinel, .sentinel, .pinned], laidTests := true, laidLooks := .later }
def FnExactPkgReadUptoCardSaid : Prop := Claim7.holds Tryz.pinned (.plain (OpenSpec.upto fnExactPkgReadSpec)) fnExactPkgReadUptoCard
end Rows
end Go.Proofs.YtomnbbegpobaiaaGreatDoor
