import Derived.Test.YtjehpeojdcaklaaGreatDoorRows
import Derived.ProofKit
import Derived.Handed
import Derived.LaidLaws
import Derived.Lay
import Derived.MakeChecks
import Derived.Shelf.Vars
import Derived.Stop.LaidErr
import Derived.Stop.Joined
import Derived.Below
import Derived.Test.YtjehpeojdcaklaaGreatDoorReadW
/- A variable holds behind a call what it held. A row of a law that reads listed variables, from its walk. -/
namespace Go.Proofs.YtjehpeojdcaklaaGreatDoor
open Go.ChangeShapes Go.WideShapes Go.ChangeAt Go.RowKit

/-- A variable holds behind a call what it held. -/
theorem var_below {W W' : World} {n : String} {g : Nat} {cs : Array Value} (bel : Below W.heap.size W W') (hg : Tryz.prog.globalNamed n = some g) (h : W.var? Tryz.prog n = some cs) : W'.var? Tryz.prog n = some cs := by
  unfold World.var? at h ⊢
  simp only [hg, Option.bind_some] at h ⊢
  have hlt : g < W.heap.size := by
    rcases Nat.lt_or_ge g W.heap.size with h' | h'
    · exact h'
    · simp [Array.getElem?_eq_none h'] at h
  rw [bel.block g hlt]
  exact h

/-- A row of a law that lists variables, from its walk; the walk is told the world's shape. -/
theorem wrap {H : Type} {enc : TypeId × Value → H} {a : Assume} {C : Checked} {os : Os} {f : FuncId} {fn : Func} {s : ChangeSpec} {conds : List PathCond} {apart fresh handsOn again : Bool} {X : World → Array Value → Prop}
    (hX : ∀ (w w' : World) (args : Array Value), w.heap = w'.heap → X w args → X w' args)
    (own : ownKnob C.prog.godebug = none) (started : os.Started) (noInit : C.prog.inits.idxOf? f = none) (hfn : C.prog.funcs[f]? = some fn)
    (wit : ∃ (w : World) (tape : Tape) (i : Input), w.os = os ∧ (w.forCall tape i).Shaped C.prog ∧ i.vars = [] ∧ Input.okWide C.prog (w.forCall tape i) .any w.heap.size f i ∧
      ((s.pre enc C.prog fn conds apart (w.forCall tape i).memory i.args ∧ X (w.forCall tape i).memory i.args) ∧ sizedMet enc C.prog fn (OpenSpec.ofChange s) apart (w.forCall tape i).memory i.args) ∧ a.holds C.prog (lone (Frame.enter C.prog f i.args .normal) [] (w.forCall tape i)))
    (walk : ∀ (W : World) (base : Nat) (args : Array Value) (ds gs : List (DataW H)) (before : List MemPlace),
      (∀ (j : Nat) t v, fn.params[j]? = some t → args[j]? = some v → Value.okWide C.prog W .any base t v) →
      DataW.Whole enc C.prog fn.params.toList s.vars apart W args.toList ds gs before → W.ShapedOpen C.prog → X W args →
      Calls C.prog f args W fun e W' => ∃ v, e = .returned v ∧ s.post enc C.prog fn apart fresh handsOn again W args v W') :
    ReturnsInHanded a C os f .any (fun w args => (s.pre enc C.prog fn conds apart w args ∧ X w args) ∧ sizedMet enc C.prog fn (OpenSpec.ofChange s) apart w args) (s.post enc C.prog fn apart fresh handsOn again) := by
  refine returnsInHanded_of_calls own started noInit wit ?_
  rintro w tape i - hsh - ⟨_, _, _, fn', hfn', _, _, _, _, hval⟩ ⟨⟨⟨ds, gs, before, hw, _⟩, hx⟩, _⟩ -
  obtain rfl : fn' = fn := Option.some.inj (hfn'.symm.trans hfn)
  refine (walk (w.forCall tape i) w.heap.size i.args ds gs before hval (DataW.Whole.of_heap (w' := w.forCall tape i) (by rfl) hw) hsh (hX _ _ _ (by rfl) hx)).mono fun e W' ⟨v, he, hp⟩ => ?_
  rw [he]
  exact ChangeSpec.post_blind hp
end Go.Proofs.YtjehpeojdcaklaaGreatDoor

/- What the listed variables give a walk: the one error, and the library's two; that the library's own number is one. A row of a law that reads them, from its walk. -/
namespace Go.Proofs.YtjehpeojdcaklaaGreatDoor
open Go.ChangeShapes Go.WideShapes Go.ChangeAt Go.RowKit

def laidL : List (String × DataW Unit) := [("math/bits.deBruijn32tab", Rows.laid_math_bits_deBruijn32tab), ("math/bits.deBruijn64tab", Rows.laid_math_bits_deBruijn64tab), ("internal/strconv.uint64pow10", Rows.laid_internal_strconv_uint64pow10), ("unicode/utf8.acceptRanges", Rows.laid_unicode_utf8_acceptRanges), ("strconv.ErrRange", Rows.laid_strconv_ErrRange), ("strconv.ErrSyntax", Rows.laid_strconv_ErrSyntax), ("loop.example/purser/impl.errNoWord", Rows.laid_loop_example_purser_impl_errNoWord), ("unicode/utf8.first", Rows.laid_unicode_utf8_first)]

theorem star : "*" ++ "errors.errorString" = "*errors.errorString" := by decide
theorem rowErr (u : TypeId) (h : Tryz.prog.typeName? 3 u = some "*errors.errorString") : u = 183 :=
  typeName_ptr_named (nm := "errors.errorString") (by rw [star]; kernel_rfl) (by kernel_rfl) (by decide) u (by rw [star]; exact h)
theorem cellsE : Tryz.prog.cellsOf 185 = 1 := by kernel_rfl
theorem cellsS : Tryz.prog.cellsOf 9 = 1 := by kernel_rfl
theorem gNo : Tryz.prog.globalNamed "loop.example/purser/impl.errNoWord" = some 0 := by kernel_rfl
theorem gSy : Tryz.prog.globalNamed "strconv.ErrSyntax" = some 4 := by kernel_rfl
theorem gRa : Tryz.prog.globalNamed "strconv.ErrRange" = some 5 := by kernel_rfl
theorem tNo : (Tryz.prog.globals[0]?).map (·.type) = some 83 := by kernel_rfl
theorem tSy : (Tryz.prog.globals[4]?).map (·.type) = some 83 := by kernel_rfl
theorem tRa : (Tryz.prog.globals[5]?).map (·.type) = some 83 := by kernel_rfl

/-- What the list gives. -/
theorem gl_of_laid {W : World} (hsh : W.ShapedOpen Tryz.prog) (h : laidMetH Tryz.prog laidL W) : ∃ ev, Gl W ev ∧ W.var? Tryz.prog "loop.example/purser/impl.errNoWord" = some #[.iface 183 (.pointer (some ev))] := by
  rw [MakeChecks.laidMetH_plain _ _ _ (by kernel_rfl)] at h
  have h4 := h.tail.tail.tail.tail
  obtain ⟨ar, _, hr, _⟩ := laid_sentinel h4 gRa tRa Tryz.underlying83 rowErr Tryz.underlying183 Tryz.underlying185 rfl rfl Tryz.underlying9 cellsE cellsS
  obtain ⟨ay, _, hs, _⟩ := laid_sentinel h4.tail gSy tSy Tryz.underlying83 rowErr Tryz.underlying183 Tryz.underlying185 rfl rfl Tryz.underlying9 cellsE cellsS
  obtain ⟨an, _, hn, _⟩ := laid_sentinel h4.tail.tail gNo tNo Tryz.underlying83 rowErr Tryz.underlying183 Tryz.underlying185 rfl rfl Tryz.underlying9 cellsE cellsS
  obtain ⟨m, hm⟩ := cell_of_shapedOpen_int (g := 1) (t := 3) (k := .i64) hsh (of_decide_eq_true (by kernel_rfl)) (zero := #[.int .i64 0]) (by kernel_rfl) rfl (by kernel_rfl) (by kernel_rfl) Tryz.underlying3
  have e1 : W.cell? ⟨0, 0, none⟩ = some (.iface 183 (.pointer (some an))) := by simpa using World.var?_cell gNo hn 0
  have e2 : W.cell? ⟨4, 0, none⟩ = some (.iface 183 (.pointer (some ay))) := by simpa using World.var?_cell gSy hs 0
  have e3 : W.cell? ⟨5, 0, none⟩ = some (.iface 183 (.pointer (some ar))) := by simpa using World.var?_cell gRa hr 0
  exact ⟨an, ⟨e1, ⟨_, e2, .inr ⟨_, _, rfl⟩⟩, ⟨_, e3, .inr ⟨_, _, rfl⟩⟩, ⟨m, hm⟩⟩, hn⟩
end Go.Proofs.YtjehpeojdcaklaaGreatDoor
