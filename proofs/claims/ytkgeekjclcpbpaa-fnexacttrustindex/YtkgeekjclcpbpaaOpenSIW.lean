/- How what came in is read: a signed index. -/
import Derived.Test.YtkgeekjclcpbpaaOpenRootW
import Derived.Test.YtkgeekjclcpbpaaOpenIndexW
namespace Go.Proofs.Ytkgeekjclcpbpaa
open Go.RowKit Go.ChangeShapes Go.WideShapes Go.Joins Go.Deep

set_option maxRecDepth 100000 in
theorem open_sigidx {H : Type} {enc : TypeId × Value → H} {W : World} {base b0 : Nat} {r : Reach} {spare : Nat → Bool} {held : Bool} {v : Value} {d : DataW H} {p : List MemPlace} (hv : Value.okWide Try.prog W r b0 70 v)
    (h : DataW.Trod enc Try.prog W base spare held 70 v d p) : ∃ x y a n c b m e, v = .agg #[.int .i64 x, .int .i64 y, .slice a n c, .slice b m e] ∧ MetasIn W a n c ∧ RowIn W b m e := by
  obtain ⟨cs, rfl, hsz⟩ := okWide_struct Try.underlying70 hv
  obtain ⟨c0, c1, c2, c3, rfl⟩ := array4 (hsz.trans (by kernel_rfl))
  obtain ⟨fuel, hf⟩ := h
  obtain ⟨y0, y1, m, _, _, h0, h1⟩ := trod_struct2 Try.underlying70 hf
  have h0' : DataW.trod enc Try.prog W base spare held m 57 [c0, c1, c2] = some y0 := h0
  have h1' : DataW.trod enc Try.prog W base spare held m 23 [c3] = some y1 := h1
  obtain ⟨z0, z1, z2, k, _, _, g0, g1, g2⟩ := trod_struct3 Try.underlying57 h0'
  have g0' : DataW.trod enc Try.prog W base spare held k 3 [c0] = some z0 := g0
  have g1' : DataW.trod enc Try.prog W base spare held k 3 [c1] = some z1 := g1
  have g2' : DataW.trod enc Try.prog W base spare held k 55 [c2] = some z2 := g2
  obtain ⟨x, e0, _, _⟩ := DataW.trod_int Try.underlying3 g0'
  obtain ⟨y, e1, _, _⟩ := DataW.trod_int Try.underlying3 g1'
  injection e0 with e0 _
  injection e1 with e1 _
  obtain ⟨a, n, c, e2, hR⟩ := open_metas g2'
  obtain ⟨b, mm, e, e3, hR'⟩ := open_cell h1'
  exact ⟨x, y, a, n, c, b, mm, e, by rw [e0, e1, e2, e3], hR, hR'⟩
end Go.Proofs.Ytkgeekjclcpbpaa
