/- What errors.Is answers of nothing, and of the one error itself: no, and yes. -/
import Derived.Test.YtnoghnkhfgiloaaDoorPkgOkW
import Derived.LaidEql
import Derived.Stop.Asserts
import Derived.RowKitTokens
namespace Go.Proofs.YtnoghnkhfgiloaaDoor
open Go.RowKit Go.Extern.Stop Go.Stop Go.Extern

def cmpX := Extern.ReflectliteType.method fun t => do Extern.Rtype.noPackHeld "Comparable" t; pure (.bool (← typeInfo t).comparable)
theorem isComparable (w : World) : (cmpX #[.agg #[.pointer (some ⟨7, 128, none⟩)]]).run Tryd.prog w = .ok (.bool true) w := by kernel_rfl
theorem isComp : (Tryd.prog.info? 128).map (·.comparable) = some true := by kernel_rfl
theorem isSize : (Tryd.prog.info? 130).map (·.size) = some 1 := by kernel_rfl

end Go.Proofs.YtnoghnkhfgiloaaDoor
