/-
  DERIVED. GIVEN WITH THE SEED: THE CARDS: each row of YtjehpeojdcaklaaGreatDoorRows.lean that lists a variable, with what it lists TIED to the program's text (the seventh form; the later family's looks); each row that meets fmt, with fmt's text TOLD by the authors' own Lean function (tested against real Go, not proved from fmt's source: count such statements apart). THE CARD IS WHAT COUNTS. Prove the row's statement (the work); the ties are given (YtjehpeojdcaklaaGreatDoorTie.lean); close each card by the builder's one call (the guide's Derived/Test/ToyasCard.lean, 'card_holds'). Laid BY PROGRAM, IN A SANDBOX (cutbox-door.mjs). By AI agents, Wed Nov 11 2026. No macro, syntax, notation, axiom, sorry.
-/
import Derived.Test.YtjehpeojdcaklaaGreatDoorRows
import GoSem.ClaimSeven
namespace Go.Proofs.YtjehpeojdcaklaaGreatDoor
namespace Rows

/-- THE TIED CARD OF 'laws.FnIndexAll'. -/
def fnIndexAllCard : Claim7 := { stood := { row := fnIndexAllRow, standIns := [], harness := (true, "1114d16159eb1865ff66468eb2206b876a7b0e7fa24ee4413d96b7345c2549c8"), looks := true }, kinds := [], alts := [], laidByText := true, laidKinds := [.data, .data, .data, .data, .sentinel, .sentinel, .sentinel, .pinned], laidTests := true, laidLooks := .later }
def FnIndexAllCardSaid : Prop := Claim7.holds Tryz.pinned (.plain (OpenSpec.ofChange fnIndexAllSpec)) fnIndexAllCard

/-- THE TIED CARD OF 'laws.FnIndexByte'. -/
def fnIndexByteCard : Claim7 := { stood := { row := fnIndexByteRow, standIns := [], harness := (true, "1114d16159eb1865ff66468eb2206b876a7b0e7fa24ee4413d96b7345c2549c8"), looks := true }, kinds := [], alts := [], laidByText := true, laidKinds := [.data, .data, .data, .data, .sentinel, .sentinel, .sentinel, .pinned], laidTests := true, laidLooks := .later }
def FnIndexByteCardSaid : Prop := Claim7.holds Tryz.pinned (.plain (OpenSpec.ofChange fnIndexByteSpec)) fnIndexByteCard

/-- THE TIED CARD OF 'laws.FnIndexTells'. -/
def fnIndexTellsCard : Claim7 := { stood := { row := fnIndexTellsRow, standIns := [], harness := (true, "1114d16159eb1865ff66468eb2206b876a7b0e7fa24ee4413d96b7345c2549c8"), looks := true }, kinds := [], alts := [], laidByText := true, laidKinds := [.data, .data, .data, .data, .sentinel, .sentinel, .sentinel, .pinned], laidTests := true, laidLooks := .later }
def FnIndexTellsCardSaid : Prop := Claim7.holds Tryz.pinned (.plain (OpenSpec.ofChange fnIndexTellsSpec)) fnIndexTellsCard

/-- THE TIED CARD OF 'laws.FnIndexOther'. -/
def fnIndexOtherCard : Claim7 := { stood := { row := fnIndexOtherRow, standIns := [], harness := (true, "1114d16159eb1865ff66468eb2206b876a7b0e7fa24ee4413d96b7345c2549c8"), looks := true }, kinds := [], alts := [], laidByText := true, laidKinds := [.data, .data, .data, .data, .sentinel, .sentinel, .sentinel, .pinned], laidTests := true, laidLooks := .later }
def FnIndexOtherCardSaid : Prop := Claim7.holds Tryz.pinned (.plain (OpenSpec.ofChange fnIndexOtherSpec)) fnIndexOtherCard

/-- THE TIED CARD OF 'laws.FnExactIndexHas'. -/
def fnExactIndexHasCard : Claim7 := { stood := { row := fnExactIndexHasRow, standIns := [], harness := (true, "1114d16159eb1865ff66468eb2206b876a7b0e7fa24ee4413d96b7345c2549c8"), looks := true }, kinds := [], alts := [], laidByText := true, laidKinds := [.data, .data, .data, .data, .sentinel, .sentinel, .sentinel, .pinned], laidTests := true, laidLooks := .later }
def FnExactIndexHasCardSaid : Prop := Claim7.holds Tryz.pinned (.plain (OpenSpec.ofChange fnExactIndexHasSpec)) fnExactIndexHasCard

/-- THE SECOND FORM's CARD OF 'laws.FnIndexAll'. -/
def fnIndexAllUptoCard : Claim7 := { stood := { row := fnIndexAllUptoRow, standIns := [], harness := (true, "1114d16159eb1865ff66468eb2206b876a7b0e7fa24ee4413d96b7345c2549c8"), looks := true }, kinds := [], alts := [], laidByText := true, laidKinds := [.data, .data, .data, .data, .sentinel, .sentinel, .sentinel, .pinned], laidTests := true, laidLooks := .later }
def FnIndexAllUptoCardSaid : Prop := Claim7.holds Tryz.pinned (.plain (OpenSpec.upto fnIndexAllSpec)) fnIndexAllUptoCard

/-- THE SECOND FORM's CARD OF 'laws.FnIndexByte'. -/
def fnIndexByteUptoCard : Claim7 := { stood := { row := fnIndexByteUptoRow, standIns := [], harness := (true, "1114d16159eb1865ff66468eb2206b876a7b0e7fa24ee4413d96b7345c2549c8"), looks := true }, kinds := [], alts := [], laidByText := true, laidKinds := [.data, .data, .data, .data, .sentinel, .sentinel, .sentinel, .pinned], laidTests := true, laidLooks := .later }
def FnIndexByteUptoCardSaid : Prop := Claim7.holds Tryz.pinned (.plain (OpenSpec.upto fnIndexByteSpec)) fnIndexByteUptoCard

/-- THE SECOND FORM's CARD OF 'laws.FnIndexTells'. -/
def fnIndexTellsUptoCard : Claim7 := { stood := { row := fnIndexTellsUptoRow, standIns := [], harness := (true, "1114d16159eb1865ff66468eb2206b876a7b0e7fa24ee4413d96b7345c2549c8"), looks := true }, kinds := [], alts := [], laidByText := true, laidKinds := [.data, .data, .data, .data, .sentinel, .sentinel, .sentinel, .pinned], laidTests := true, laidLooks := .later }
def FnIndexTellsUptoCardSaid : Prop := Claim7.holds Tryz.pinned (.plain (OpenSpec.upto fnIndexTellsSpec)) fnIndexTellsUptoCard

/-- THE SECOND FORM's CARD OF 'laws.FnIndexOther'. -/
def fnIndexOtherUptoCard : Claim7 := { stood := { row := fnIndexOtherUptoRow, standIns := [], harness := (true, "1114d16159eb1865ff66468eb2206b876a7b0e7fa24ee4413d96b7345c2549c8"), looks := true }, kinds := [], alts := [], laidByText := true, laidKinds := [.data, .data, .data, .data, .sentinel, .sentinel, .sentinel, .pinned], laidTests := true, laidLooks := .later }
def FnIndexOtherUptoCardSaid : Prop := Claim7.holds Tryz.pinned (.plain (OpenSpec.upto fnIndexOtherSpec)) fnIndexOtherUptoCard

/-- THE SECOND FORM's CARD OF 'laws.FnExactIndexHas'. -/
def fnExactIndexHasUptoCard : Claim7 := { stood := { row := fnExactIndexHasUptoRow, standIns := [], harness := (true, "1114d16159eb1865ff66468eb2206b876a7b0e7fa24ee4413d96b7345c2549c8"), looks := true }, kinds := [], alts := [], laidByText := true, laidKinds := [.data, .data, .data, .data, .sentinel, .sentinel, .sentinel, .pinned], laidTests := true, laidLooks := .later }
def FnExactIndexHasUptoCardSaid : Prop := Claim7.holds Tryz.pinned (.plain (OpenSpec.upto fnExactIndexHasSpec)) fnExactIndexHasUptoCard
end Rows
end Go.Proofs.YtjehpeojdcaklaaGreatDoor
