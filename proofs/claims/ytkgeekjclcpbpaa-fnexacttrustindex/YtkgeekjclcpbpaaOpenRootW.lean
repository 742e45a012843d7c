/- How what came in is read: a root, a signed root. -/
import Derived.Test.YtkgeekjclcpbpaaOpenIntW
import Derived.Lib.SmallJoins
namespace Go.Proofs.Ytkgeekjclcpbpaa
open Go.RowKit Go.ChangeShapes Go.WideShapes Go.Joins Go.Deep

set_option maxRecDepth 100000 in
theorem open_root {H : Type} {enc : TypeId × Value → H} {W : World} {base b0 : Nat} {r : Reach} {spare : Nat → Bool} {held : Bool} {v : Value} {d : DataW H} {p : List MemPlace} (hv : Value.okWide Try.prog W r b0 48 v)
    (h : DataW.Trod enc Try.prog W base spare held 48 v d p) : ∃ x a n c y, v = .agg #[.int .i64 x, .slice a n c, .int .i64 y] ∧ RowIn W a n c := by
  obtain ⟨c0, c1, c2, y0, y1, y2, m, rfl, _, _, g0, g1, g2⟩ := open_agg3 Try.underlying48 (by kernel_rfl) (by kernel_rfl) hv h
  obtain ⟨x, e0, _, _⟩ := DataW.trod_int Try.underlying3 g0
  obtain ⟨y, e2, _, _⟩ := DataW.trod_int Try.underlying3 g2
  injection e0 with e0 _
  injection e2 with e2 _
  obtain ⟨a, n, c, e1, hR⟩ := open_cell g1
  exact ⟨x, a, n, c, y, by rw [e0, e1, e2], hR⟩

set_option maxRecDepth 100000 in
theorem open_sig {H : Type} {enc : TypeId × Value → H} {W : World} {base b0 : Nat} {r : Reach} {spare : Nat → Bool} {held : Bool} {v : Value} {d : DataW H} {p : List MemPlace} (hv : Value.okWide Try.prog W r b0 61 v)
    (h : DataW.Trod enc Try.prog W base spare held 61 v d p) : ∃ x a n c y b m e, v = .agg #[.int .i64 x, .slice a n c, .int .i64 y, .slice b m e] ∧ RowIn W a n c ∧ RowIn W b m e := by
  obtain ⟨cs, rfl, hsz⟩ := okWide_struct Try.underlying61 hv
  obtain ⟨c0, c1, c2, c3, rfl⟩ := array4 (hsz.trans (by kernel_rfl))
  obtain ⟨fuel, hf⟩ := h
  obtain ⟨y0, y1, m, _, _, h0, h1⟩ := trod_struct2 Try.underlying61 hf
  have h0' : DataW.trod enc Try.prog W base spare held m 48 [c0, c1, c2] = some y0 := h0
  have h1' : DataW.trod enc Try.prog W base spare held m 23 [c3] = some y1 := h1
  obtain ⟨z0, z1, z2, k, _, _, g0, g1, g2⟩ := trod_struct3 Try.underlying48 h0'
  have g0' : DataW.trod enc Try.prog W base spare held k 3 [c0] = some z0 := g0
  have g1' : DataW.trod enc Try.prog W base spare held k 23 [c1] = some z1 := g1
  have g2' : DataW.trod enc Try.prog W base spare held k 3 [c2] = some z2 := g2
  obtain ⟨x, e0, _, _⟩ := DataW.trod_int Try.underlying3 g0'
  obtain ⟨y, e2, _, _⟩ := DataW.trod_int Try.underlying3 g2'
  injection e0 with e0 _
  injection e2 with e2 _
  obtain ⟨a, n, c, e1, hR⟩ := open_cell g1'
  obtain ⟨b, m', e, e3, hR'⟩ := open_cell h1'
  exact ⟨x, a, n, c, y, b, m', e, by rw [e0, e1, e2, e3], hR, hR'⟩
end Go.Proofs.Ytkgeekjclcpbpaa
