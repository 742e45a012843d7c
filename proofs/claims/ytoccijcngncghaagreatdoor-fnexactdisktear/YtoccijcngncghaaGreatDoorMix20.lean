import Derived.Test.YtoccijcngncghaaGreatDoorCopyDkW
import Derived.Test.YtoccijcngncghaaGreatDoorMix15
import Derived.Lib.SmallJoins
/- What a disk that came in is. -/
namespace Go.Proofs.YtoccijcngncghaaGreatDoor
open Go.RowKit Go.ChangeShapes Go.WideShapes Go.Joins Go.Deep

theorem array4d {cs : Array Value} (h : cs.size = 4) : ∃ a b c d, cs = #[a, b, c, d] := by
  rcases cs with ⟨l⟩
  match l, h with
  | [a, b, c, d], _ => exact ⟨a, b, c, d, rfl⟩
set_option maxRecDepth 100000 in
theorem open_disk {H : Type} {enc : TypeId × Value → H} {W : World} {base b0 : Nat} {r : Reach} {spare : Nat → Bool} {held : Bool} {v : Value} {d : DataW H} {p : List MemPlace} (hv : Value.okWide Tryz.prog W r b0 45 v)
    (h : DataW.Trod enc Tryz.prog W base spare held 45 v d p) : ∃ a1 n1 c1 af nf cf has a2 n2 c2, v = .agg #[.slice a1 n1 c1, .slice af nf cf, .bool has, .slice a2 n2 c2] ∧ DiskIn W a1 n1 c1 af nf cf a2 n2 c2 := by
  obtain ⟨cs, rfl, hsz⟩ := okWide_struct Tryz.underlying45 hv
  obtain ⟨c0, c1, c2, c3, rfl⟩ := array4d (hsz.trans (by kernel_rfl))
  obtain ⟨fuel, hf⟩ := h
  obtain ⟨y0, y1, y2, y3, k, _, _, h0, h1, h2, h3⟩ := trod_struct4 Tryz.underlying45 hf
  have h0' : DataW.trod enc Tryz.prog W base spare held k 43 [c0] = some y0 := h0
  have h1' : DataW.trod enc Tryz.prog W base spare held k 24 [c1] = some y1 := h1
  have h2' : DataW.trod enc Tryz.prog W base spare held k 4 [c2] = some y2 := h2
  have h3' : DataW.trod enc Tryz.prog W base spare held k 43 [c3] = some y3 := h3
  obtain ⟨bb, e2, _⟩ := DataW.trod_bool Tryz.underlying4 h2'
  injection e2 with e2 _
  obtain ⟨a1, n1, k1, e0, hP⟩ := open_pkgs' h0'
  obtain ⟨af, nf, kf, e1, hR⟩ := open_cell h1'
  obtain ⟨a2, n2, k2, e3, hQ⟩ := open_pkgs' h3'
  exact ⟨a1, n1, k1, af, nf, kf, bb, a2, n2, k2, by rw [e0, e1, e2, e3], hP, hR, hQ⟩
end Go.Proofs.YtoccijcngncghaaGreatDoor

/- What a step that came in is. -/
namespace Go.Proofs.YtoccijcngncghaaGreatDoor
open Go.RowKit Go.ChangeShapes Go.WideShapes Go.Joins Go.Deep

set_option maxRecDepth 100000 in
theorem open_step {H : Type} {enc : TypeId × Value → H} {W : World} {base b0 : Nat} {r : Reach} {spare : Nat → Bool} {held : Bool} {v : Value} {d : DataW H} {p : List MemPlace} (hv : Value.okWide Tryz.prog W r b0 47 v)
    (h : DataW.Trod enc Tryz.prog W base spare held 47 v d p) : ∃ x y z a n c, v = .agg #[.int .i64 x, .int .i64 y, .int .i64 z, .slice a n c] ∧ PkgsIn W a n c := by
  obtain ⟨cs, rfl, hsz⟩ := okWide_struct Tryz.underlying47 hv
  obtain ⟨c0, c1, c2, c3, rfl⟩ := array4d (hsz.trans (by kernel_rfl))
  obtain ⟨fuel, hf⟩ := h
  obtain ⟨y0, y1, y2, y3, k, _, _, h0, h1, h2, h3⟩ := trod_struct4 Tryz.underlying47 hf
  have h0' : DataW.trod enc Tryz.prog W base spare held k 3 [c0] = some y0 := h0
  have h1' : DataW.trod enc Tryz.prog W base spare held k 3 [c1] = some y1 := h1
  have h2' : DataW.trod enc Tryz.prog W base spare held k 3 [c2] = some y2 := h2
  have h3' : DataW.trod enc Tryz.prog W base spare held k 43 [c3] = some y3 := h3
  obtain ⟨x, e0, _, _⟩ := DataW.trod_int Tryz.underlying3 h0'
  obtain ⟨y, e1, _, _⟩ := DataW.trod_int Tryz.underlying3 h1'
  obtain ⟨z, e2, _, _⟩ := DataW.trod_int Tryz.underlying3 h2'
  injection e0 with e0 _
  injection e1 with e1 _
  injection e2 with e2 _
  obtain ⟨a, n, c, e3, hP⟩ := open_pkgs' h3'
  exact ⟨x, y, z, a, n, c, by rw [e0, e1, e2, e3], hP⟩
end Go.Proofs.YtoccijcngncghaaGreatDoor
