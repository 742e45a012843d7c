import Derived.Test.YtlnieobmhofkdaaGreatMix20
import Derived.Lib.SmallJoins
/- How what came in is read: a root, a signed root. -/
namespace Go.Proofs.YtlnieobmhofkdaaGreat
open Go.RowKit Go.ChangeShapes Go.WideShapes Go.Joins Go.Deep

set_option maxRecDepth 100000 in
theorem open_root {H : Type} {enc : TypeId × Value → H} {W : World} {base b0 : Nat} {r : Reach} {spare : Nat → Bool} {held : Bool} {v : Value} {d : DataW H} {p : List MemPlace} (hv : Value.okWide Tryz.prog W r b0 24 v)
    (h : DataW.Trod enc Tryz.prog W base spare held 24 v d p) : ∃ x a n c y, v = .agg #[.int .i64 x, .slice a n c, .int .i64 y] ∧ RowIn W a n c := by
  obtain ⟨c0, c1, c2, y0, y1, y2, m, rfl, _, _, g0, g1, g2⟩ := open_agg3 Tryz.underlying24 (by kernel_rfl) (by kernel_rfl) hv h
  obtain ⟨x, e0, _, _⟩ := DataW.trod_int Tryz.underlying3 g0
  obtain ⟨y, e2, _, _⟩ := DataW.trod_int Tryz.underlying3 g2
  injection e0 with e0 _
  injection e2 with e2 _
  obtain ⟨a, n, c, e1, hR⟩ := open_cell g1
  exact ⟨x, a, n, c, y, by rw [e0, e1, e2], hR⟩

end Go.Proofs.YtlnieobmhofkdaaGreat

/- How what came in is read: trust. -/
namespace Go.Proofs.YtlnieobmhofkdaaGreat
open Go.RowKit Go.ChangeShapes Go.WideShapes Go.Joins Go.Deep

theorem array7 {cs : Array Value} (h : cs.size = 7) : ∃ a b c d e f g, cs = #[a, b, c, d, e, f, g] := by
  obtain ⟨l⟩ := cs
  match l, h with
  | [a, b, c, d, e, f, g], _ => exact ⟨a, b, c, d, e, f, g, rfl⟩
set_option maxRecDepth 100000 in
theorem open_trust {H : Type} {enc : TypeId × Value → H} {W : World} {base b0 : Nat} {r : Reach} {spare : Nat → Bool} {held : Bool} {v : Value} {d : DataW H} {p : List MemPlace} (hv : Value.okWide Tryz.prog W r b0 29 v)
    (h : DataW.Trod enc Tryz.prog W base spare held 29 v d p) : ∃ x a n c y has z t b m e, v = .agg #[.int .i64 x, .slice a n c, .int .i64 y, .bool has, .int .i64 z, .int .i64 t, .slice b m e] ∧ RowIn W a n c ∧ MetasIn W b m e := by
  obtain ⟨cs, rfl, hsz⟩ := okWide_struct Tryz.underlying29 hv
  obtain ⟨c0, c1, c2, c3, c4, c5, c6, rfl⟩ := array7 (hsz.trans (by kernel_rfl))
  obtain ⟨fuel, hf⟩ := h
  obtain ⟨y0, y1, y2, k, _, _, h0, h1, h2⟩ := trod_struct3 Tryz.underlying29 hf
  have h0' : DataW.trod enc Tryz.prog W base spare held k 24 [c0, c1, c2] = some y0 := h0
  have h1' : DataW.trod enc Tryz.prog W base spare held k 4 [c3] = some y1 := h1
  have h2' : DataW.trod enc Tryz.prog W base spare held k 27 [c4, c5, c6] = some y2 := h2
  obtain ⟨z0, z1, z2, k1, _, _, g0, g1, g2⟩ := trod_struct3 Tryz.underlying24 h0'
  have g0' : DataW.trod enc Tryz.prog W base spare held k1 3 [c0] = some z0 := g0
  have g1' : DataW.trod enc Tryz.prog W base spare held k1 22 [c1] = some z1 := g1
  have g2' : DataW.trod enc Tryz.prog W base spare held k1 3 [c2] = some z2 := g2
  obtain ⟨u0, u1, u2, k2, _, _, f0, f1, f2⟩ := trod_struct3 Tryz.underlying27 h2'
  have f0' : DataW.trod enc Tryz.prog W base spare held k2 3 [c4] = some u0 := f0
  have f1' : DataW.trod enc Tryz.prog W base spare held k2 3 [c5] = some u1 := f1
  have f2' : DataW.trod enc Tryz.prog W base spare held k2 25 [c6] = some u2 := f2
  obtain ⟨x, e0, _, _⟩ := DataW.trod_int Tryz.underlying3 g0'
  obtain ⟨y, e2, _, _⟩ := DataW.trod_int Tryz.underlying3 g2'
  obtain ⟨z, e4, _, _⟩ := DataW.trod_int Tryz.underlying3 f0'
  obtain ⟨t, e5, _, _⟩ := DataW.trod_int Tryz.underlying3 f1'
  obtain ⟨bb, e3, _⟩ := DataW.trod_bool Tryz.underlying4 h1'
  injection e0 with e0 _
  injection e2 with e2 _
  injection e4 with e4 _
  injection e5 with e5 _
  injection e3 with e3 _
  obtain ⟨a, n, c, e1, hR⟩ := open_cell g1'
  obtain ⟨b, m, e, e6, hR'⟩ := open_metas f2'
  exact ⟨x, a, n, c, y, bb, z, t, b, m, e, by rw [e0, e1, e2, e3, e4, e5, e6], hR, hR'⟩
end Go.Proofs.YtlnieobmhofkdaaGreat
