/- What the listed variables give a walk: the one error, and the library's two; that the library's own number is one. A row of a law that reads them, from its walk. -/
import Derived.Test.YtnoghnkhfgiloaaDoorRows
import Derived.Test.YtnoghnkhfgiloaaDoorReadW
import Derived.Test.YtnoghnkhfgiloaaDoorWrapW
import Derived.ProofKit
import Derived.Handed
import Derived.LaidLaws
import Derived.Lay
import Derived.MakeChecks
import Derived.Shelf.Vars
import Derived.Stop.LaidErr
import Derived.Stop.Joined
namespace Go.Proofs.YtnoghnkhfgiloaaDoor
open Go.ChangeShapes Go.WideShapes Go.ChangeAt Go.RowKit

def laidL : List (String × DataW Unit) := [("math/bits.deBruijn32tab", Rows.laid_math_bits_deBruijn32tab), ("math/bits.deBruijn64tab", Rows.laid_math_bits_deBruijn64tab), ("internal/strconv.uint64pow10", Rows.laid_internal_strconv_uint64pow10), ("strconv.ErrRange", Rows.laid_strconv_ErrRange), ("strconv.ErrSyntax", Rows.laid_strconv_ErrSyntax), ("loop.example/purser/impl.errNoWord", Rows.laid_loop_example_purser_impl_errNoWord)]

theorem star : "*" ++ "errors.errorString" = "*errors.errorString" := by decide
theorem rowErr (u : TypeId) (h : Tryd.prog.typeName? 3 u = some "*errors.errorString") : u = 128 :=
  typeName_ptr_named (nm := "errors.errorString") (by rw [star]; kernel_rfl) (by kernel_rfl) (by decide) u (by rw [star]; exact h)
theorem cellsE : Tryd.prog.cellsOf 130 = 1 := by kernel_rfl
theorem cellsS : Tryd.prog.cellsOf 9 = 1 := by kernel_rfl
theorem gNo : Tryd.prog.globalNamed "loop.example/purser/impl.errNoWord" = some 0 := by kernel_rfl
theorem gSy : Tryd.prog.globalNamed "strconv.ErrSyntax" = some 5 := by kernel_rfl
theorem gRa : Tryd.prog.globalNamed "strconv.ErrRange" = some 6 := by kernel_rfl
theorem tNo : (Tryd.prog.globals[0]?).map (·.type) = some 48 := by kernel_rfl
theorem tSy : (Tryd.prog.globals[5]?).map (·.type) = some 48 := by kernel_rfl
theorem tRa : (Tryd.prog.globals[6]?).map (·.type) = some 48 := by kernel_rfl

/-- What the list gives. -/
theorem gl_of_laid {W : World} (hsh : W.ShapedOpen Tryd.prog) (h : laidMetH Tryd.prog laidL W) : ∃ ev, Gl W ev ∧ W.var? Tryd.prog "loop.example/purser/impl.errNoWord" = some #[.iface 128 (.pointer (some ev))] := by
  rw [MakeChecks.laidMetH_plain _ _ _ (by kernel_rfl)] at h
  have h4 := h.tail.tail.tail
  obtain ⟨ar, _, hr, _⟩ := laid_sentinel h4 gRa tRa Tryd.underlying48 rowErr Tryd.underlying128 Tryd.underlying130 rfl rfl Tryd.underlying9 cellsE cellsS
  obtain ⟨ay, _, hs, _⟩ := laid_sentinel h4.tail gSy tSy Tryd.underlying48 rowErr Tryd.underlying128 Tryd.underlying130 rfl rfl Tryd.underlying9 cellsE cellsS
  obtain ⟨an, _, hn, _⟩ := laid_sentinel h4.tail.tail gNo tNo Tryd.underlying48 rowErr Tryd.underlying128 Tryd.underlying130 rfl rfl Tryd.underlying9 cellsE cellsS
  obtain ⟨m, hm⟩ := cell_of_shapedOpen_int (g := 2) (t := 3) (k := .i64) hsh (of_decide_eq_true (by kernel_rfl)) (zero := #[.int .i64 0]) (by kernel_rfl) rfl (by kernel_rfl) (by kernel_rfl) Tryd.underlying3
  have e1 : W.cell? ⟨0, 0, none⟩ = some (.iface 128 (.pointer (some an))) := by simpa using World.var?_cell gNo hn 0
  have e2 : W.cell? ⟨5, 0, none⟩ = some (.iface 128 (.pointer (some ay))) := by simpa using World.var?_cell gSy hs 0
  have e3 : W.cell? ⟨6, 0, none⟩ = some (.iface 128 (.pointer (some ar))) := by simpa using World.var?_cell gRa hr 0
  exact ⟨an, ⟨e1, ⟨_, e2, .inr ⟨_, _, rfl⟩⟩, ⟨_, e3, .inr ⟨_, _, rfl⟩⟩, ⟨m, hm⟩⟩, hn⟩
end Go.Proofs.YtnoghnkhfgiloaaDoor
