/-
  DERIVED. GIVEN WITH THE SEED: THE CARDS: each row of YtnoghnkhfgiloaaDoorRows.lean that lists a variable, with what it lists TIED to the program's text (the seventh form; the later family's looks); each row that meets fmt, with fmt's text TOLD by the authors' own Lean function (tested against real Go, not proved from fmt's source: count such statements apart). THE CARD IS WHAT COUNTS. Prove the row's statement (the work); the ties are given (YtnoghnkhfgiloaaDoorTie.lean); close each card by the builder's one call (the guide's Derived/Test/ToyasCard.lean, 'card_holds'). Laid BY PROGRAM, IN A SANDBOX (cutbox-door.mjs). By AI agents, Wed Nov 11 2026. No macro, syntax, notation, axiom, sorry.
-/
import Derived.Test.YtnoghnkhfgiloaaDoorRows
import GoSem.ClaimSeven
namespace Go.Proofs.YtnoghnkhfgiloaaDoor
namespace Rows

/-- THE TIED CARD OF 'laws.FnIndexBack'. -/
def fnIndexBackCard : Claim7 := { stood := { row := fnIndexBackRow, standIns := [], harness := (true, "0974144f6f051503f63b99e3fa52b01f1df43515994c4ee008fd369257b8c968"), looks := true }, kinds := [], alts := [], laidByText := true, laidKinds := [.data, .data, .data, .sentinel, .sentinel, .sentinel], laidTests := true, laidLooks := .later }
def FnIndexBackCardSaid : Prop := Claim7.holds Tryd.pinned (.plain (OpenSpec.ofChange fnIndexBackSpec)) fnIndexBackCard

/-- THE TIED CARD OF 'laws.FnIndexStrict'. -/
def fnIndexStrictCard : Claim7 := { stood := { row := fnIndexStrictRow, standIns := [], harness := (true, "0974144f6f051503f63b99e3fa52b01f1df43515994c4ee008fd369257b8c968"), looks := true }, kinds := [], alts := [], laidByText := true, laidKinds := [.data, .data, .data, .sentinel, .sentinel, .sentinel], laidTests := true, laidLooks := .later }
def FnIndexStrictCardSaid : Prop := Claim7.holds Tryd.pinned (.plain (OpenSpec.ofChange fnIndexStrictSpec)) fnIndexStrictCard

/-- THE TIED CARD OF 'laws.FnIndexOne'. -/
def fnIndexOneCard : Claim7 := { stood := { row := fnIndexOneRow, standIns := [], harness := (true, "0974144f6f051503f63b99e3fa52b01f1df43515994c4ee008fd369257b8c968"), looks := true }, kinds := [], alts := [], laidByText := true, laidKinds := [.data, .data, .data], laidTests := true, laidLooks := .later }
def FnIndexOneCardSaid : Prop := Claim7.holds Tryd.pinned (.plain (OpenSpec.ofChange fnIndexOneSpec)) fnIndexOneCard

/-- THE TIED CARD OF 'laws.FnIndexCut'. -/
def fnIndexCutCard : Claim7 := { stood := { row := fnIndexCutRow, standIns := [], harness := (true, "0974144f6f051503f63b99e3fa52b01f1df43515994c4ee008fd369257b8c968"), looks := true }, kinds := [], alts := [], laidByText := true, laidKinds := [.data, .data, .data, .sentinel, .sentinel, .sentinel], laidTests := true, laidLooks := .later }
def FnIndexCutCardSaid : Prop := Claim7.holds Tryd.pinned (.plain (OpenSpec.ofChange fnIndexCutSpec)) fnIndexCutCard

/-- THE TIED CARD OF 'laws.FnExactIndexRead'. -/
def fnExactIndexReadCard : Claim7 := { stood := { row := fnExactIndexReadRow, standIns := [], harness := (true, "0974144f6f051503f63b99e3fa52b01f1df43515994c4ee008fd369257b8c968"), looks := true }, kinds := [], alts := [], laidByText := true, laidKinds := [.data, .data, .data, .sentinel, .sentinel, .sentinel], laidTests := true, laidLooks := .later }
def FnExactIndexReadCardSaid : Prop := Claim7.holds Tryd.pinned (.plain (OpenSpec.ofChange fnExactIndexReadSpec)) fnExactIndexReadCard

/-- THE SECOND FORM's CARD OF 'laws.FnIndexBack'. -/
def fnIndexBackUptoCard : Claim7 := { stood := { row := fnIndexBackUptoRow, standIns := [], harness := (true, "0974144f6f051503f63b99e3fa52b01f1df43515994c4ee008fd369257b8c968"), looks := true }, kinds := [], alts := [], laidByText := true, laidKinds := [.data, .data, .data, .sentinel, .sentinel, .sentinel], laidTests := true, laidLooks := .later }
def FnIndexBackUptoCardSaid : Prop := Claim7.holds Tryd.pinned (.plain (OpenSpec.upto fnIndexBackSpec)) fnIndexBackUptoCard

/-- THE SECOND FORM's CARD OF 'laws.FnIndexStrict'. -/
def fnIndexStrictUptoCard : Claim7 := { stood := { row := fnIndexStrictUptoRow, standIns := [], harness := (true, "0974144f6f051503f63b99e3fa52b01f1df43515994c4ee008fd369257b8c968"), looks := true }, kinds := [], alts := [], laidByText := true, laidKinds := [.data, .data, .data, .sentinel, .sentinel, .sentinel], laidTests := true, laidLooks := .later }
def FnIndexStrictUptoCardSaid : Prop := Claim7.holds Tryd.pinned (.plain (OpenSpec.upto fnIndexStrictSpec)) fnIndexStrictUptoCard

/-- THE SECOND FORM's CARD OF 'laws.FnIndexOne'. -/
def fnIndexOneUptoCard : Claim7 := { stood := { row := fnIndexOneUptoRow, standIns := [], harness := (true, "0974144f6f051503f63b99e3fa52b01f1df43515994c4ee008fd369257b8c968"), looks := true }, kinds := [], alts := [], laidByText := true, laidKinds := [.data, .data, .data], laidTests := true, laidLooks := .later }
def FnIndexOneUptoCardSaid : Prop := Claim7.holds Tryd.pinned (.plain (OpenSpec.upto fnIndexOneSpec)) fnIndexOneUptoCard

/-- THE SECOND FORM's CARD OF 'laws.FnIndexCut'. -/
def fnIndexCutUptoCard : Claim7 := { stood := { row := fnIndexCutUptoRow, standIns := [], harness := (true, "0974144f6f051503f63b99e3fa52b01f1df43515994c4ee008fd369257b8c968"), looks := true }, kinds := [], alts := [], laidByText := true, laidKinds := [.data, .data, .data, .sentinel, .sentinel, .sentinel], laidTests := true, laidLooks := .later }
def FnIndexCutUptoCardSaid : Prop := Claim7.holds Tryd.pinned (.plain (OpenSpec.upto fnIndexCutSpec)) fnIndexCutUptoCard

/-- THE SECOND FORM's CARD OF 'laws.FnExactIndexRead'. -/
def fnExactIndexReadUptoCard : Claim7 := { stood := { row := fnExactIndexReadUptoRow, standIns := [], harness := (true, "0974144f6f051503f63b99e3fa52b01f1df43515994c4ee008fd369257b8c968"), looks := true }, kinds := [], alts := [], laidByText := true, laidKinds := [.data, .data, .data, .sentinel, .sentinel, .sentinel], laidTests := true, laidLooks := .later }
def FnExactIndexReadUptoCardSaid : Prop := Claim7.holds Tryd.pinned (.plain (OpenSpec.upto fnExactIndexReadSpec)) fnExactIndexReadUptoCard
end Rows
end Go.Proofs.YtnoghnkhfgiloaaDoor
