/-
  DERIVED. GIVEN WITH THE SEED: THE CARDS: each row of YtgjdomgcnpjnlaaDoorRows.lean that lists a variable, with what it lists TIED to the program's text (the seventh form; the later family's looks); each row that meets fmt, with fmt's text TOLD by the authors' own Lean function (tested against real Go, not proved from fmt's source: count such statements apart). THE CARD IS WHAT COUNTS. Prove the row's statement (the work); the ties are given (YtgjdomgcnpjnlaaDoorTie.lean); close each card by the builder's one call (the guide's Derived/Test/ToyasCard.lean, 'card_holds'). Laid BY PROGRAM, IN A SANDBOX (cutbox-door.mjs). By AI agents, Wed Nov 11 2026. No macro, syntax, notation, axiom, sorry.
-/
import Derived.Test.YtgjdomgcnpjnlaaDoorRows
import GoSem.ClaimSeven
namespace Go.Proofs.YtgjdomgcnpjnlaaDoor
namespace Rows

/-- THE TIED CARD OF 'laws.FnExactPlanWhy'. -/
def fnExactPlanWhyCard : Claim7 := { stood := { row := fnExactPlanWhyRow, standIns := [], harness := (true, "01ba5d6cd3a9809c4684fc10f9e9f7ec30741646646e8ee1471ef7fa7522ada1"), looks := false }, kinds := [], alts := [], laidByText := true, laidKinds := [.data, .data, .data], laidTests := true, laidLooks := .later }
def FnExactPlanWhyCardSaid : Prop := Claim7.holds Tryd.pinned (.plain (OpenSpec.ofChange fnExactPlanWhySpec)) fnExactPlanWhyCard

/-- THE TIED CARD OF 'laws.FnPlanWhy'. -/
def fnPlanWhyCard : Claim7 := { stood := { row := fnPlanWhyRow, standIns := [], harness := (true, "01ba5d6cd3a9809c4684fc10f9e9f7ec30741646646e8ee1471ef7fa7522ada1"), looks := false }, kinds := [], alts := [], laidByText := true, laidKinds := [.data, .data, .data], laidTests := true, laidLooks := .later }
def FnPlanWhyCardSaid : Prop := Claim7.holds Tryd.pinned (.plain (OpenSpec.ofChange fnPlanWhySpec)) fnPlanWhyCard

/-- THE TIED CARD OF 'laws.FnWhyLines'. -/
def fnWhyLinesCard : Claim7 := { stood := { row := fnWhyLinesRow, standIns := [], harness := (true, "01ba5d6cd3a9809c4684fc10f9e9f7ec30741646646e8ee1471ef7fa7522ada1"), looks := false }, kinds := [], alts := [], laidByText := true, laidKinds := [.data, .data, .data], laidTests := true, laidLooks := .later }
def FnWhyLinesCardSaid : Prop := Claim7.holds Tryd.pinned (.plain (OpenSpec.ofChange fnWhyLinesSpec)) fnWhyLinesCard

/-- THE SECOND FORM's CARD OF 'laws.FnExactPlanWhy'. -/
def fnExactPlanWhyUptoCard : Claim7 := { stood := { row := fnExactPlanWhyUptoRow, standIns := [], harness := (true, "01ba5d6cd3a9809c4684fc10f9e9f7ec30741646646e8ee1471ef7fa7522ada1"), looks := false }, kinds := [], alts := [], laidByText := true, laidKinds := [.data, .data, .data], laidTests := true, laidLooks := .later }
def FnExactPlanWhyUptoCardSaid : Prop := Claim7.holds Tryd.pinned (.plain (OpenSpec.upto fnExactPlanWhySpec)) fnExactPlanWhyUptoCard

/-- THE SECOND FORM's CARD OF 'laws.FnPlanWhy'. -/
def fnPlanWhyUptoCard : Claim7 := { stood := { row := fnPlanWhyUptoRow, standIns := [], harness := (true, "01ba5d6cd3a9809c4684fc10f9e9f7ec30741646646e8ee1471ef7fa7522ada1"), looks := false }, kinds := [], alts := [], laidByText := true, laidKinds := [.data, .data, .data], laidTests := true, laidLooks := .later }
def FnPlanWhyUptoCardSaid : Prop := Claim7.holds Tryd.pinned (.plain (OpenSpec.upto fnPlanWhySpec)) fnPlanWhyUptoCard

/-- THE SECOND FORM's CARD OF 'laws.FnWhyLines'. -/
def fnWhyLinesUptoCard : Claim7 := { stood := { row := fnWhyLinesUptoRow, standIns := [], harness := (true, "01ba5d6cd3a9809c4684fc10f9e9f7ec30741646646e8ee1471ef7fa7522ada1"), looks := false }, kinds := [], alts := [], laidByText := true, laidKinds := [.data, .data, .data], laidTests := true, laidLooks := .later }
def FnWhyLinesUptoCardSaid : Prop := Claim7.holds Tryd.pinned (.plain (OpenSpec.upto fnWhyLinesSpec)) fnWhyLinesUptoCard
end Rows
end Go.Proofs.YtgjdomgcnpjnlaaDoor
