/- How what came in is read: a root, a signed root. -/
import Derived.Test.YtlnieobmhofkdaaGreatDoorOpenIntW
import Derived.Lib.SmallJoins
namespace Go.Proofs.YtlnieobmhofkdaaGreatDoor
open Go.RowKit Go.ChangeShapes Go.WideShapes Go.Joins Go.Deep

set_option maxRecDepth 100000 in
theorem open_root {H : Type} {enc : TypeId × Value → H} {W : World} {base b0 : Nat} {r : Reach} {spare : Nat → Bool} {held : Bool} {v : Value} {d : DataW H} {p : List MemPlace} (hv : Value.okWide Tryz.prog W r b0 58 v)
    (h : DataW.Trod enc Tryz.prog W base spare held 58 v d p) : ∃ x a n c y, v = .agg #[.int .i64 x, .slice a n c, .int .i64 y] ∧ RowIn W a n c := by
  obtain ⟨c0, c1, c2, y0, y1, y2, m, rfl, _, _, g0, g1, g2⟩ := open_agg3 Tryz.underlying58 (by kernel_rfl) (by kernel_rfl) hv h
  obtain ⟨x, e0, _, _⟩ := DataW.trod_int Tryz.underlying3 g0
  obtain ⟨y, e2, _, _⟩ := DataW.trod_int Tryz.underlying3 g2
  injection e0 with e0 _
  injection e2 with e2 _
  obtain ⟨a, n, c, e1, hR⟩ := open_cell g1
  exact ⟨x, a, n, c, y, by rw [e0, e1, e2], hR⟩

end Go.Proofs.YtlnieobmhofkdaaGreatDoor
