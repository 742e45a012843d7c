/-
  DERIVED. GIVEN WITH THE SEED: THE CARDS: each row of YtkkkookgpphpiaaDoorRows.lean that lists a variable, with what it lists TIED to the program's text (the seventh form; the later family's looks); each row that meets fmt, with fmt's text TOLD by the authors' own Lean function (tested against real Go, not proved from fmt's source: count such statements apart). THE CARD IS WHAT COUNTS. Prove the row's statement (the work); the ties are given (YtkkkookgpphpiaaDoorTie.lean); close each card by the builder's one call (the guide's Derived/Test/ToyasCard.lean, 'card_holds'). Laid BY PROGRAM, IN A SANDBOX (cutbox-door.mjs). By AI agents, Wed Nov 11 2026. No macro, syntax, notation, axiom, sorry.
-/
import Derived.Test.YtkkkookgpphpiaaDoorRows
import GoSem.ClaimSeven
namespace Go.Proofs.YtkkkookgpphpiaaDoor
namespace Rows

/-- THE TIED CARD OF 'laws.FnExactPlanFiles'. -/
def fnExactPlanFilesCard : Claim7 := { stood := { row := fnExactPlanFilesRow, standIns := [], harness := (true, "f9ab232e006f8433c035d2138562a8a79666e3993152cdbc62db9e87bda92012"), looks := false }, kinds := [], alts := [], laidByText := true, laidKinds := [.data, .data, .data], laidTests := true, laidLooks := .later }
def FnExactPlanFilesCardSaid : Prop := Claim7.holds Tryd.pinned (.plain (OpenSpec.ofChange fnExactPlanFilesSpec)) fnExactPlanFilesCard

/-- THE TIED CARD OF 'laws.FnPlanNeeds'. -/
def fnPlanNeedsCard : Claim7 := { stood := { row := fnPlanNeedsRow, standIns := [], harness := (true, "f9ab232e006f8433c035d2138562a8a79666e3993152cdbc62db9e87bda92012"), looks := false }, kinds := [], alts := [], laidByText := true, laidKinds := [.data, .data, .data], laidTests := true, laidLooks := .later }
def FnPlanNeedsCardSaid : Prop := Claim7.holds Tryd.pinned (.plain (OpenSpec.ofChange fnPlanNeedsSpec)) fnPlanNeedsCard

/-- THE TIED CARD OF 'laws.FnPlanLess'. -/
def fnPlanLessCard : Claim7 := { stood := { row := fnPlanLessRow, standIns := [], harness := (true, "f9ab232e006f8433c035d2138562a8a79666e3993152cdbc62db9e87bda92012"), looks := false }, kinds := [], alts := [], laidByText := true, laidKinds := [.data, .data, .data], laidTests := true, laidLooks := .later }
def FnPlanLessCardSaid : Prop := Claim7.holds Tryd.pinned (.plain (OpenSpec.ofChange fnPlanLessSpec)) fnPlanLessCard

/-- THE TIED CARD OF 'laws.FnFiles'. -/
def fnFilesCard : Claim7 := { stood := { row := fnFilesRow, standIns := [], harness := (true, "f9ab232e006f8433c035d2138562a8a79666e3993152cdbc62db9e87bda92012"), looks := false }, kinds := [], alts := [], laidByText := true, laidKinds := [.data, .data, .data], laidTests := true, laidLooks := .later }
def FnFilesCardSaid : Prop := Claim7.holds Tryd.pinned (.plain (OpenSpec.ofChange fnFilesSpec)) fnFilesCard

/-- THE TIED CARD OF 'laws.FnFilesLess'. -/
def fnFilesLessCard : Claim7 := { stood := { row := fnFilesLessRow, standIns := [], harness := (true, "f9ab232e006f8433c035d2138562a8a79666e3993152cdbc62db9e87bda92012"), looks := false }, kinds := [], alts := [], laidByText := true, laidKinds := [.data, .data, .data], laidTests := true, laidLooks := .later }
def FnFilesLessCardSaid : Prop := Claim7.holds Tryd.pinned (.plain (OpenSpec.ofChange fnFilesLessSpec)) fnFilesLessCard

/-- THE SECOND FORM's CARD OF 'laws.FnExactPlanFiles'. -/
def fnExactPlanFilesUptoCard : Claim7 := { stood := { row := fnExactPlanFilesUptoRow, standIns := [], harness := (true, "f9ab232e006f8433c035d2138562a8a79666e3993152cdbc62db9e87bda92012"), looks := false }, kinds := [], alts := [], laidByText := true, laidKinds := [.data, .data, .data], laidTests := true, laidLooks := .later }
def FnExactPlanFilesUptoCardSaid : Prop := Claim7.holds Tryd.pinned (.plain (OpenSpec.upto fnExactPlanFilesSpec)) fnExactPlanFilesUptoCard

/-- THE SECOND FORM's CARD OF 'laws.FnPlanNeeds'. -/
def fnPlanNeedsUptoCard : Claim7 := { stood := { row := fnPlanNeedsUptoRow, standIns := [], harness := (true, "f9ab232e006f8433c035d2138562a8a79666e3993152cdbc62db9e87bda92012"), looks := false }, kinds := [], alts := [], laidByText := true, laidKinds := [.data, .data, .data], laidTests := true, laidLooks := .later }
def FnPlanNeedsUptoCardSaid : Prop := Claim7.holds Tryd.pinned (.plain (OpenSpec.upto fnPlanNeedsSpec)) fnPlanNeedsUptoCard

/-- THE SECOND FORM's CARD OF 'laws.FnPlanLess'. -/
def fnPlanLessUptoCard : Claim7 := { stood := { row := fnPlanLessUptoRow, standIns := [], harness := (true, "f9ab232e006f8433c035d2138562a8a79666e3993152cdbc62db9e87bda92012"), looks := false }, kinds := [], alts := [], laidByText := true, laidKinds := [.data, .data, .data], laidTests := true, laidLooks := .later }
def FnPlanLessUptoCardSaid : Prop := Claim7.holds Tryd.pinned (.plain (OpenSpec.upto fnPlanLessSpec)) fnPlanLessUptoCard

/-- THE SECOND FORM's CARD OF 'laws.FnFiles'. -/
def fnFilesUptoCard : Claim7 := { stood := { row := fnFilesUptoRow, standIns := [], harness := (true, "f9ab232e006f8433c035d2138562a8a79666e3993152cdbc62db9e87bda92012"), looks := false }, kinds := [], alts := [], laidByText := true, laidKinds := [.data, .data, .data], laidTests := true, laidLooks := .later }
def FnFilesUptoCardSaid : Prop := Claim7.holds Tryd.pinned (.plain (OpenSpec.upto fnFilesSpec)) fnFilesUptoCard

/-- THE SECOND FORM's CARD OF 'laws.FnFilesLess'. -/
def fnFilesLessUptoCard : Claim7 := { stood := { row := fnFilesLessUptoRow, standIns := [], harness := (true, "f9ab232e006f8433c035d2138562a8a79666e3993152cdbc62db9e87bda92012"), looks := false }, kinds := [], alts := [], laidByText := true, laidKinds := [.data, .data, .data], laidTests := true, laidLooks := .later }
def FnFilesLessUptoCardSaid : Prop := Claim7.holds Tryd.pinned (.plain (OpenSpec.upto fnFilesLessSpec)) fnFilesLessUptoCard
end Rows
end Go.Proofs.YtkkkookgpphpiaaDoor
