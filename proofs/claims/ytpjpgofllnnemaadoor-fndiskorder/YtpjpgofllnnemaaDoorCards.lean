/-
  DERIVED. GIVEN WITH THE SEED: THE CARDS: each row of YtpjpgofllnnemaaDoorRows.lean that lists a variable, with what it lists TIED to the program's text (the seventh form; the later family's looks); each row that meets fmt, with fmt's text TOLD by the authors' own Lean function (tested against real Go, not proved from fmt's source: count such statements apart). THE CARD IS WHAT COUNTS. Prove the row's statement (the work); the ties are given (YtpjpgofllnnemaaDoorTie.lean); close each card by the builder's one call (the guide's Derived/Test/ToyasCard.lean, 'card_holds'). Laid BY PROGRAM, IN A SANDBOX (cutbox-door.mjs). By AI agents, Wed Nov 11 2026. No macro, syntax, notation, axiom, sorry.
-/
import Derived.Test.YtpjpgofllnnemaaDoorRows
import GoSem.ClaimSeven
namespace Go.Proofs.YtpjpgofllnnemaaDoor
namespace Rows

/-- THE TIED CARD OF 'laws.FnDiskTrue'. -/
def fnDiskTrueCard : Claim7 := { stood := { row := fnDiskTrueRow, standIns := [], harness := (true, "dc720305a16938ef3c5593d1ac0e10447ed8c24ef9e3e4983a6d8f57b06b5bd8"), looks := false }, kinds := [], alts := [], laidByText := true, laidKinds := [.data, .data, .data], laidTests := true, laidLooks := .later }
def FnDiskTrueCardSaid : Prop := Claim7.holds Tryd.pinned (.plain (OpenSpec.ofChange fnDiskTrueSpec)) fnDiskTrueCard

/-- THE TIED CARD OF 'laws.FnDiskDo'. -/
def fnDiskDoCard : Claim7 := { stood := { row := fnDiskDoRow, standIns := [], harness := (true, "dc720305a16938ef3c5593d1ac0e10447ed8c24ef9e3e4983a6d8f57b06b5bd8"), looks := false }, kinds := [], alts := [], laidByText := true, laidKinds := [.data, .data, .data], laidTests := true, laidLooks := .later }
def FnDiskDoCardSaid : Prop := Claim7.holds Tryd.pinned (.plain (OpenSpec.ofChange fnDiskDoSpec)) fnDiskDoCard

/-- THE TIED CARD OF 'laws.FnDiskOrder'. -/
def fnDiskOrderCard : Claim7 := { stood := { row := fnDiskOrderRow, standIns := [], harness := (true, "dc720305a16938ef3c5593d1ac0e10447ed8c24ef9e3e4983a6d8f57b06b5bd8"), looks := false }, kinds := [], alts := [], laidByText := true, laidKinds := [.data, .data, .data], laidTests := true, laidLooks := .later }
def FnDiskOrderCardSaid : Prop := Claim7.holds Tryd.pinned (.plain (OpenSpec.ofChange fnDiskOrderSpec)) fnDiskOrderCard

/-- THE SECOND FORM's CARD OF 'laws.FnDiskTrue'. -/
def fnDiskTrueUptoCard : Claim7 := { stood := { row := fnDiskTrueUptoRow, standIns := [], harness := (true, "dc720305a16938ef3c5593d1ac0e10447ed8c24ef9e3e4983a6d8f57b06b5bd8"), looks := false }, kinds := [], alts := [], laidByText := true, laidKinds := [.data, .data, .data], laidTests := true, laidLooks := .later }
def FnDiskTrueUptoCardSaid : Prop := Claim7.holds Tryd.pinned (.plain (OpenSpec.upto fnDiskTrueSpec)) fnDiskTrueUptoCard

/-- THE SECOND FORM's CARD OF 'laws.FnDiskDo'. -/
def fnDiskDoUptoCard : Claim7 := { stood := { row := fnDiskDoUptoRow, standIns := [], harness := (true, "dc720305a16938ef3c5593d1ac0e10447ed8c24ef9e3e4983a6d8f57b06b5bd8"), looks := false }, kinds := [], alts := [], laidByText := true, laidKinds := [.data, .data, .data], laidTests := true, laidLooks := .later }
def FnDiskDoUptoCardSaid : Prop := Claim7.holds Tryd.pinned (.plain (OpenSpec.upto fnDiskDoSpec)) fnDiskDoUptoCard

/-- THE SECOND FORM's CARD OF 'laws.FnDiskOrder'. -/
def fnDiskOrderUptoCard : Claim7 := { stood := { row := fnDiskOrderUptoRow, standIns := [], harness := (true, "dc720305a16938ef3c5593d1ac0e10447ed8c24ef9e3e4983a6d8f57b06b5bd8"), looks := false }, kinds := [], alts := [], laidByText := true, laidKinds := [.data, .data, .data], laidTests := true, laidLooks := .later }
def FnDiskOrderUptoCardSaid : Prop := Claim7.holds Tryd.pinned (.plain (OpenSpec.upto fnDiskOrderSpec)) fnDiskOrderUptoCard
end Rows
end Go.Proofs.YtpjpgofllnnemaaDoor
