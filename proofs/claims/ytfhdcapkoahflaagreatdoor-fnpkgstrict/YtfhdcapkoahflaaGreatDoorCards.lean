/-
  DERIVED. GIVEN WITH THE SEED: THE CARDS: each row of YtfhdcapkoahflaaGreatDoorRows.lean that lists a variable, with what it lists TIED to the program's text (the seventh form; the later family's looks); each row that meets fmt, with fmt's text TOLD by the authors' own Lean function (tested against real Go, not proved from fmt's source: count such statements apart). THE CARD IS WHAT COUNTS. Prove the row's statement (the work); the ties are given (YtfhdcapkoahflaaGreatDoorTie.lean); close each card by the builder's one call (the guide's Derived/Test/ToyasCard.lean, 'card_holds'). Laid BY PROGRAM, IN A SANDBOX (cutbox-door.mjs). By AI agents, Wed Nov 11 2026. No macro, syntax, notation, axiom, sorry.
-/
import Derived.Test.YtfhdcapkoahflaaGreatDoorRows
import GoSem.ClaimSeven
namespace Go.Proofs.YtfhdcapkoahflaaGreatDoor
namespace Rows

/-- THE TIED CARD OF 'laws.FnPkgBack'. -/
def fnPkgBackCard : Claim7 := { stood := { row := fnPkgBackRow, standIns := [], harness := (true, "b2a113f379a0a893c6ce813e7d4cc7ad349a22b7452ac0fd8937f06cc8932db8"), looks := true }, kinds := [], alts := [], laidByText := true, laidKinds := [.data, .data, .data, .data, .sentinel, .sentinel, .sentinel, .pinned], laidTests := true, laidLooks := .later }
def FnPkgBackCardSaid : Prop := Claim7.holds Tryz.pinned (.plain (OpenSpec.ofChange fnPkgBackSpec)) fnPkgBackCard

/-- THE TIED CARD OF 'laws.FnPkgStrict'. -/
def fnPkgStrictCard : Claim7 := { stood := { row := fnPkgStrictRow, standIns := [], harness := (true, "b2a113f379a0a893c6ce813e7d4cc7ad349a22b7452ac0fd8937f06cc8932db8"), looks := true }, kinds := [], alts := [], laidByText := true, laidKinds := [.data, .data, .data, .data, .sentinel, .sentinel, .sentinel, .pinned], laidTests := true, laidLooks := .later }
def FnPkgStrictCardSaid : Prop := Claim7.holds Tryz.pinned (.plain (OpenSpec.ofChange fnPkgStrictSpec)) fnPkgStrictCard

/-- THE TIED CARD OF 'laws.FnPkgCut'. -/
def fnPkgCutCard : Claim7 := { stood := { row := fnPkgCutRow, standIns := [], harness := (true, "b2a113f379a0a893c6ce813e7d4cc7ad349a22b7452ac0fd8937f06cc8932db8"), looks := true }, kinds := [], alts := [], laidByText := true, laidKinds := [.data, .data, .data, .data, .sentinel, .sentinel, .sentinel, .pinned], laidTests := true, laidLooks := .later }
def FnPkgCutCardSaid : Prop := Claim7.holds Tryz.pinned (.plain (OpenSpec.ofChange fnPkgCutSpec)) fnPkgCutCard

/-- THE SECOND FORM's CARD OF 'laws.FnPkgBack'. -/
def fnPkgBackUptoCard : Claim7 := { stood := { row := fnPkgBackUptoRow, standIns := [], harness := (true, "b2a113f379a0a893c6ce813e7d4cc7ad349a22b7452ac0fd8937f06cc8932db8"), looks := true }, kinds := [], alts := [], laidByText := true, laidKinds := [.data, .data, .data, .data, .sentinel, .sentinel, .sentinel, .pinned], laidTests := true, laidLooks := .later }
def FnPkgBackUptoCardSaid : Prop := Claim7.holds Tryz.pinned (.plain (OpenSpec.upto fnPkgBackSpec)) fnPkgBackUptoCard

/-- THE SECOND FORM's CARD OF 'laws.FnPkgStrict'. -/
def fnPkgStrictUptoCard : Claim7 := { stood := { row := fnPkgStrictUptoRow, standIns := [], harness := (true, "b2a113f379a0a893c6ce813e7d4cc7ad349a22b7452ac0fd8937f06cc8932db8"), looks := true }, kinds := [], alts := [], laidByText := true, laidKinds := [.data, .data, .data, .data, .sentinel, .sentinel, .sentinel, .pinned], laidTests := true, laidLooks := .later }
def FnPkgStrictUptoCardSaid : Prop := Claim7.holds Tryz.pinned (.plain (OpenSpec.upto fnPkgStrictSpec)) fnPkgStrictUptoCard

/-- THE SECOND FORM's CARD OF 'laws.FnPkgCut'. -/
def fnPkgCutUptoCard : Claim7 := { stood := { row := fnPkgCutUptoRow, standIns := [], harness := (true, "b2a113f379a0a893c6ce813e7d4cc7ad349a22b7452ac0fd8937f06cc8932db8"), looks := true }, kinds := [], alts := [], laidByText := true, laidKinds := [.data, .data, .data, .data, .sentinel, .sentinel, .sentinel, .pinned], laidTests := true, laidLooks := .later }
def FnPkgCutUptoCardSaid : Prop := Claim7.holds Tryz.pinned (.plain (OpenSpec.upto fnPkgCutSpec)) fnPkgCutUptoCard
end Rows
end Go.Proofs.YtfhdcapkoahflaaGreatDoor
