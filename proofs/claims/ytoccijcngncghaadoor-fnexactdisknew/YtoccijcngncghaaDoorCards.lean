/-
  DERIVED. GIVEN WITH THE SEED: THE CARDS: each row of YtoccijcngncghaaDoorRows.lean that lists a variable, with what it lists TIED to the program's text (the seventh form; the later family's looks); each row that meets fmt, with fmt's text TOLD by the authors' own Lean function (tested against real Go, not proved from fmt's source: count such statements apart). THE CARD IS WHAT COUNTS. Prove the row's statement (the work); the ties are given (YtoccijcngncghaaDoorTie.lean); close each card by the builder's one call (the guide's Derived/Test/ToyasCard.lean, 'card_holds'). Laid BY PROGRAM, IN A SANDBOX (cutbox-door.mjs). By AI agents, Wed Nov 11 2026. No macro, syntax, notation, axiom, sorry.
-/
import Derived.Test.YtoccijcngncghaaDoorRows
import GoSem.ClaimSeven
namespace Go.Proofs.YtoccijcngncghaaDoor
namespace Rows

/-- THE TIED CARD OF 'laws.FnDiskTrue'. -/
def fnDiskTrueCard : Claim7 := { stood := { row := fnDiskTrueRow, standIns := [], harness := (true, "9ab2581b5b14c0bcbe513721836d98142999d5810274d768f23cc7fb3957b0ec"), looks := false }, kinds := [], alts := [], laidByText := true, laidKinds := [.data, .data, .data], laidTests := true, laidLooks := .later }
def FnDiskTrueCardSaid : Prop := Claim7.holds Tryd.pinned (.plain (OpenSpec.ofChange fnDiskTrueSpec)) fnDiskTrueCard

/-- THE TIED CARD OF 'laws.FnDiskDo'. -/
def fnDiskDoCard : Claim7 := { stood := { row := fnDiskDoRow, standIns := [], harness := (true, "9ab2581b5b14c0bcbe513721836d98142999d5810274d768f23cc7fb3957b0ec"), looks := false }, kinds := [], alts := [], laidByText := true, laidKinds := [.data, .data, .data], laidTests := true, laidLooks := .later }
def FnDiskDoCardSaid : Prop := Claim7.holds Tryd.pinned (.plain (OpenSpec.ofChange fnDiskDoSpec)) fnDiskDoCard

/-- THE TIED CARD OF 'laws.FnDiskOrder'. -/
def fnDiskOrderCard : Claim7 := { stood := { row := fnDiskOrderRow, standIns := [], harness := (true, "9ab2581b5b14c0bcbe513721836d98142999d5810274d768f23cc7fb3957b0ec"), looks := false }, kinds := [], alts := [], laidByText := true, laidKinds := [.data, .data, .data], laidTests := true, laidLooks := .later }
def FnDiskOrderCardSaid : Prop := Claim7.holds Tryd.pinned (.plain (OpenSpec.ofChange fnDiskOrderSpec)) fnDiskOrderCard

/-- THE TIED CARD OF 'laws.FnExactDiskNew'. -/
def fnExactDiskNewCard : Claim7 := { stood := { row := fnExactDiskNewRow, standIns := [], harness := (true, "9ab2581b5b14c0bcbe513721836d98142999d5810274d768f23cc7fb3957b0ec"), looks := false }, kinds := [], alts := [], laidByText := true, laidKinds := [.data, .data, .data], laidTests := true, laidLooks := .later }
def FnExactDiskNewCardSaid : Prop := Claim7.holds Tryd.pinned (.plain (OpenSpec.ofChange fnExactDiskNewSpec)) fnExactDiskNewCard

/-- THE TIED CARD OF 'laws.FnExactDiskOk'. -/
def fnExactDiskOkCard : Claim7 := { stood := { row := fnExactDiskOkRow, standIns := [], harness := (true, "9ab2581b5b14c0bcbe513721836d98142999d5810274d768f23cc7fb3957b0ec"), looks := false }, kinds := [], alts := [], laidByText := true, laidKinds := [.data, .data, .data], laidTests := true, laidLooks := .later }
def FnExactDiskOkCardSaid : Prop := Claim7.holds Tryd.pinned (.plain (OpenSpec.ofChange fnExactDiskOkSpec)) fnExactDiskOkCard

/-- THE TIED CARD OF 'laws.FnExactDiskTrue'. -/
def fnExactDiskTrueCard : Claim7 := { stood := { row := fnExactDiskTrueRow, standIns := [], harness := (true, "9ab2581b5b14c0bcbe513721836d98142999d5810274d768f23cc7fb3957b0ec"), looks := false }, kinds := [], alts := [], laidByText := true, laidKinds := [.data, .data, .data], laidTests := true, laidLooks := .later }
def FnExactDiskTrueCardSaid : Prop := Claim7.holds Tryd.pinned (.plain (OpenSpec.ofChange fnExactDiskTrueSpec)) fnExactDiskTrueCard

/-- THE SECOND FORM's CARD OF 'laws.FnDiskTrue'. -/
def fnDiskTrueUptoCard : Claim7 := { stood := { row := fnDiskTrueUptoRow, standIns := [], harness := (true, "9ab2581b5b14c0bcbe513721836d98142999d5810274d768f23cc7fb3957b0ec"), looks := false }, kinds := [], alts := [], laidByText := true, laidKinds := [.data, .data, .data], laidTests := true, laidLooks := .later }
def FnDiskTrueUptoCardSaid : Prop := Claim7.holds Tryd.pinned (.plain (OpenSpec.upto fnDiskTrueSpec)) fnDiskTrueUptoCard

/-- THE SECOND FORM's CARD OF 'laws.FnDiskDo'. -/
def fnDiskDoUptoCard : Claim7 := { stood := { row := fnDiskDoUptoRow, standIns := [], harness := (true, "9ab2581b5b14c0bcbe513721836d98142999d5810274d768f23cc7fb3957b0ec"), looks := false }, kinds := [], alts := [], laidByText := true, laidKinds := [.data, .data, .data], laidTests := true, laidLooks := .later }
def FnDiskDoUptoCardSaid : Prop := Claim7.holds Tryd.pinned (.plain (OpenSpec.upto fnDiskDoSpec)) fnDiskDoUptoCard

/-- THE SECOND FORM's CARD OF 'laws.FnDiskOrder'. -/
def fnDiskOrderUptoCard : Claim7 := { stood := { row := fnDiskOrderUptoRow, standIns := [], harness := (true, "9ab2581b5b14c0bcbe513721836d98142999d5810274d768f23cc7fb3957b0ec"), looks := false }, kinds := [], alts := [], laidByText := true, laidKinds := [.data, .data, .data], laidTests := true, laidLooks := .later }
def FnDiskOrderUptoCardSaid : Prop := Claim7.holds Tryd.pinned (.plain (OpenSpec.upto fnDiskOrderSpec)) fnDiskOrderUptoCard

/-- THE SECOND FORM's CARD OF 'laws.FnExactDiskNew'. -/
def fnExactDiskNewUptoCard : Claim7 := { stood := { row := fnExactDiskNewUptoRow, standIns := [], harness := (true, "9ab2581b5b14c0bcbe513721836d98142999d5810274d768f23cc7fb3957b0ec"), looks := false }, kinds := [], alts := [], laidByText := true, laidKinds := [.data, .data, .data], laidTests := true, laidLooks := .later }
def FnExactDiskNewUptoCardSaid : Prop := Claim7.holds Tryd.pinned (.plain (OpenSpec.upto fnExactDiskNewSpec)) fnExactDiskNewUptoCard

/-- THE SECOND FORM's CARD OF 'laws.FnExactDiskOk'. -/
def fnExactDiskOkUptoCard : Claim7 := { stood := { row := fnExactDiskOkUptoRow, standIns := [], harness := (true, "9ab2581b5b14c0bcbe513721836d98142999d5810274d768f23cc7fb3957b0ec"), looks := false }, kinds := [], alts := [], laidByText := true, laidKinds := [.data, .data, .data], laidTests := true, laidLooks := .later }
def FnExactDiskOkUptoCardSaid : Prop := Claim7.holds Tryd.pinned (.plain (OpenSpec.upto fnExactDiskOkSpec)) fnExactDiskOkUptoCard

/-- THE SECOND FORM's CARD OF 'laws.FnExactDiskTrue'. -/
def fnExactDiskTrueUptoCard : Claim7 := { stood := { row := fnExactDiskTrueUptoRow, standIns := [], harness := (true, "9ab2581b5b14c0bcbe513721836d98142999d5810274d768f23cc7fb3957b0ec"), looks := false }, kinds := [], alts := [], laidByText := true, laidKinds := [.data, .data, .data], laidTests := true, laidLooks := .later }
def FnExactDiskTrueUptoCardSaid : Prop := Claim7.holds Tryd.pinned (.plain (OpenSpec.upto fnExactDiskTrueSpec)) fnExactDiskTrueUptoCard
end Rows
end Go.Proofs.YtoccijcngncghaaDoor
