/-
  DERIVED. GIVEN WITH THE SEED: THE CARDS: each row of YtlidgoomlllonaaDoorRows.lean that lists a variable, with what it lists TIED to the program's text (the seventh form; the later family's looks); each row that meets fmt, with fmt's text TOLD by the authors' own Lean function (tested against real Go, not proved from fmt's source: count such statements apart). THE CARD IS WHAT COUNTS. Prove the row's statement (the work); the ties are given (YtlidgoomlllonaaDoorTie.lean); close each card by the builder's one call (the guide's Derived/Test/ToyasCard.lean, 'card_holds'). Laid BY PROGRAM, IN A SANDBOX (cutbox-door.mjs). By AI agents, Wed Nov 11 2026. No macro, syntax, notation, axiom, sorry.
-/
import Derived.Test.YtlidgoomlllonaaDoorRows
import GoSem.ClaimSeven
namespace Go.Proofs.YtlidgoomlllonaaDoor
namespace Rows

/-- THE TIED CARD OF 'laws.FnPlanNeeds'. -/
def fnPlanNeedsCard : Claim7 := { stood := { row := fnPlanNeedsRow, standIns := [], harness := (true, "dcc666502516f89785b62aec90669d53951ce8ec6b4d59d07a11dd1a7912e538"), looks := false }, kinds := [], alts := [], laidByText := true, laidKinds := [.data, .data, .data], laidTests := true, laidLooks := .later }
def FnPlanNeedsCardSaid : Prop := Claim7.holds Tryd.pinned (.plain (OpenSpec.ofChange fnPlanNeedsSpec)) fnPlanNeedsCard

/-- THE TIED CARD OF 'laws.FnPlanLess'. -/
def fnPlanLessCard : Claim7 := { stood := { row := fnPlanLessRow, standIns := [], harness := (true, "dcc666502516f89785b62aec90669d53951ce8ec6b4d59d07a11dd1a7912e538"), looks := false }, kinds := [], alts := [], laidByText := true, laidKinds := [.data, .data, .data], laidTests := true, laidLooks := .later }
def FnPlanLessCardSaid : Prop := Claim7.holds Tryd.pinned (.plain (OpenSpec.ofChange fnPlanLessSpec)) fnPlanLessCard

/-- THE TIED CARD OF 'laws.FnFiles'. -/
def fnFilesCard : Claim7 := { stood := { row := fnFilesRow, standIns := [], harness := (true, "dcc666502516f89785b62aec90669d53951ce8ec6b4d59d07a11dd1a7912e538"), looks := false }, kinds := [], alts := [], laidByText := true, laidKinds := [.data, .data, .data], laidTests := true, laidLooks := .later }
def FnFilesCardSaid : Prop := Claim7.holds Tryd.pinned (.plain (OpenSpec.ofChange fnFilesSpec)) fnFilesCard

/-- THE TIED CARD OF 'laws.FnFilesLess'. -/
def fnFilesLessCard : Claim7 := { stood := { row := fnFilesLessRow, standIns := [], harness := (true, "dcc666502516f89785b62aec90669d53951ce8ec6b4d59d07a11dd1a7912e538"), looks := false }, kinds := [], alts := [], laidByText := true, laidKinds := [.data, .data, .data], laidTests := true, laidLooks := .later }
def FnFilesLessCardSaid : Prop := Claim7.holds Tryd.pinned (.plain (OpenSpec.ofChange fnFilesLessSpec)) fnFilesLessCard

/-- THE SECOND FORM's CARD OF 'laws.FnPlanNeeds'. -/
def fnPlanNeedsUptoCard : Claim7 := { stood := { row := fnPlanNeedsUptoRow, standIns := [], harness := (true, "dcc666502516f89785b62aec90669d53951ce8ec6b4d59d07a11dd1a7912e538"), looks := false }, kinds := [], alts := [], laidByText := true, laidKinds := [.data, .data, .data], laidTests := true, laidLooks := .later }
def FnPlanNeedsUptoCardSaid : Prop := Claim7.holds Tryd.pinned (.plain (OpenSpec.upto fnPlanNeedsSpec)) fnPlanNeedsUptoCard

/-- THE SECOND FORM's CARD OF 'laws.FnPlanLess'. -/
def fnPlanLessUptoCard : Claim7 := { stood := { row := fnPlanLessUptoRow, standIns := [], harness := (true, "dcc666502516f89785b62aec90669d53951ce8ec6b4d59d07a11dd1a7912e538"), looks := false }, kinds := [], alts := [], laidByText := true, laidKinds := [.data, .data, .data], laidTests := true, laidLooks := .later }
def FnPlanLessUptoCardSaid : Prop := Claim7.holds Tryd.pinned (.plain (OpenSpec.upto fnPlanLessSpec)) fnPlanLessUptoCard

/-- THE SECOND FORM's CARD OF 'laws.FnFiles'. -/
def fnFilesUptoCard : Claim7 := { stood := { row := fnFilesUptoRow, standIns := [], harness := (true, "dcc666502516f89785b62aec90669d53951ce8ec6b4d59d07a11dd1a7912e538"), looks := false }, kinds := [], alts := [], laidByText := true, laidKinds := [.data, .data, .data], laidTests := true, laidLooks := .later }
def FnFilesUptoCardSaid : Prop := Claim7.holds Tryd.pinned (.plain (OpenSpec.upto fnFilesSpec)) fnFilesUptoCard

/-- THE SECOND FORM's CARD OF 'laws.FnFilesLess'. -/
def fnFilesLessUptoCard : Claim7 := { stood := { row := fnFilesLessUptoRow, standIns := [], harness := (true, "dcc666502516f89785b62aec90669d53951ce8ec6b4d59d07a11dd1a7912e538"), looks := false }, kinds := [], alts := [], laidByText := true, laidKinds := [.data, .data, .data], laidTests := true, laidLooks := .later }
def FnFilesLessUptoCardSaid : Prop := Claim7.holds Tryd.pinned (.plain (OpenSpec.upto fnFilesLessSpec)) fnFilesLessUptoCard
end Rows
end Go.Proofs.YtlidgoomlllonaaDoor
