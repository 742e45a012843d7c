/-
  No cell of these rows narrows 'for every input' (looked for: loops, veiled, ifaces, maps, wideKeys, modest, calm, conditions, laid).
  DERIVED. THE GIVEN ROWS OF THIS SEAT. 4 by the template 'for every input the law returns true; each argument reads behind the call as it read before'; 0 by the template 'total and deterministic' (their statements: YtmbnkgoolgcjlaaTotals.lean).
  GIVEN WITH THE SEED: the statements are not yours to turn. If you find one false, say at which input.
  Laid BY PROGRAM, IN A SANDBOX (cutbox-rows.mjs): the forced cells as the released guide's own fill.sh prints them over the translation dea3e22f1d949ee1… (all of the seat's roots in one cut). By AI agents, Wed Nov 11 2026. No macro, syntax, notation, axiom, sorry.
-/
import Derived.Test.YtmbnkgoolgcjlaaChecked
import GoSem.Claim
import GoSem.ClaimJoined
import GoSem.ClaimMapViews
import Derived.JoinedTies
import Derived.KernelRfl
namespace Go.Proofs.Ytmbnkgoolgcjlaa
/- THE CELL 'sum', in the pinned program and in every row, IS THE sha256 OF THE DUMP (.gsa) THAT YtmbnkgoolgcjlaaProg.lean LOADS. Nothing in Lean hashes anything: it is a label: what it is worth is what the hold of that sum in a sandbox is worth. -/
noncomputable def Try.pinned : Pinned := { name := "ytmbnkgoolgcjlaa", sum := "dea3e22f1d949ee140b2d4d50620dc9ee98bbbb29e99c0b78baed00c53345159", checked := Try.checked }
namespace Rows
def none {H : Type} : Left H := { results := [], args := [] }

/-- 'laws.FnStoreLess': WHATEVER THE INPUT: true; the input reads as it did. -/
def fnStoreLessSpec : ChangeSpec := { name := "fnStoreLess", fn := fun _ => fun
  | [d1, d2] => { results := [.lit (.bool true)], args := [d1, d2] }
  | _ => none }
def fnStoreLessRow : OpenClaim := { program := "ytmbnkgoolgcjlaa", sum := "dea3e22f1d949ee140b2d4d50620dc9ee98bbbb29e99c0b78baed00c53345159", func := "loop.example/purser/laws.FnStoreLess", spec := "fnStoreLess", apart := false }
def FnStoreLessSaid : Prop := fnStoreLessRow.holds Try.pinned (OpenSpec.ofChange fnStoreLessSpec)

/-- ITS FALSE NEIGHBOUR: 'it returns false'. Refute it at one input. -/
def fnStoreLessWrong : ChangeSpec := { name := "fnStoreLess", fn := fun _ => fun
  | [d1, d2] => { results := [.lit (.bool false)], args := [d1, d2] }
  | _ => none }
def FnStoreLessWrongFalsely : Prop := fnStoreLessRow.holds Try.pinned (OpenSpec.ofChange fnStoreLessWrong)

/-- 'laws.FnNewest': WHATEVER THE INPUT: true; the input reads as it did. -/
def fnNewestSpec : ChangeSpec := { name := "fnNewest", fn := fun _ => fun
  | [d] => { results := [.lit (.bool true)], args := [d] }
  | _ => none }
def fnNewestRow : OpenClaim := { program := "ytmbnkgoolgcjlaa", sum := "dea3e22f1d949ee140b2d4d50620dc9ee98bbbb29e99c0b78baed00c53345159", func := "loop.example/purser/laws.FnNewest", spec := "fnNewest", apart := false }
def FnNewestSaid : Prop := fnNewestRow.holds Try.pinned (OpenSpec.ofChange fnNewestSpec)

/-- ITS FALSE NEIGHBOUR: 'it returns false'. Refute it at one input. -/
def fnNewestWrong : ChangeSpec := { name := "fnNewest", fn := fun _ => fun
  | [d] => { results := [.lit (.bool false)], args := [d] }
  | _ => none }
def FnNewestWrongFalsely : Prop := fnNewestRow.holds Try.pinned (OpenSpec.ofChange fnNewestWrong)

/-- 'laws.FnNewestMore': WHATEVER THE INPUT: true; the input reads as it did. -/
def fnNewestMoreSpec : ChangeSpec := { name := "fnNewestMore", fn := fun _ => fun
  | [d] => { results := [.lit (.bool true)], args := [d] }
  | _ => none }
def fnNewestMoreRow : OpenClaim := { program := "ytmbnkgoolgcjlaa", sum := "dea3e22f1d949ee140b2d4d50620dc9ee98bbbb29e99c0b78baed00c53345159", func := "loop.example/purser/laws.FnNewestMore", spec := "fnNewestMore", apart := false }
def FnNewestMoreSaid : Prop := fnNewestMoreRow.holds Try.pinned (OpenSpec.ofChange fnNewestMoreSpec)

/-- ITS FALSE NEIGHBOUR: 'it returns false'. Refute it at one input. -/
def fnNewestMoreWrong : ChangeSpec := { name := "fnNewestMore", fn := fun _ => fun
  | [d] => { results := [.lit (.bool false)], args := [d] }
  | _ => none }
def FnNewestMoreWrongFalsely : Prop := fnNewestMoreRow.holds Try.pinned (OpenSpec.ofChange fnNewestMoreWrong)

/-- 'laws.FnExactStoreNewest': WHATEVER THE INPUT: true; the input reads as it did. -/
def fnExactStoreNewestSpec : ChangeSpec := { name := "fnExactStoreNewest", fn := fun _ => fun
  | [d1, d2] => { results := [.lit (.bool true)], args := [d1, d2] }
  | _ => none }
def fnExactStoreNewestRow : OpenClaim := { program := "ytmbnkgoolgcjlaa", sum := "dea3e22f1d949ee140b2d4d50620dc9ee98bbbb29e99c0b78baed00c53345159", func := "loop.example/purser/laws.FnExactStoreNewest", spec := "fnExactStoreNewest", apart := false }
def FnExactStoreNewestSaid : Prop := fnExactStoreNewestRow.holds Try.pinned (OpenSpec.ofChange fnExactStoreNewestSpec)

/-- ITS FALSE NEIGHBOUR: 'it returns false'. Refute it at one input. -/
def fnExactStoreNewestWrong : ChangeSpec := { name := "fnExactStoreNewest", fn := fun _ => fun
  | [d1, d2] => { results := [.lit (.bool false)], args := [d1, d2] }
  | _ => none }
def FnExactStoreNewestWrongFalsely : Prop := fnExactStoreNewestRow.holds Try.pinned (OpenSpec.ofChange fnExactStoreNewestWrong)

/- THE SECOND FORM. 'bulk': how many values and letters a reading holds, each counted each time it is reached (what is shared counts as often as it is met; a slice's spare places count too). A statement '..UptoSaid' is the law's where the arguments, and the package variables that the reading takes, are together of bulk at most 1048576: NARROWER than '..Said'. Prove '..Said' where nothing that the law and all that it calls make is longer than what came in: it says more and counts as full. Else prove '..UptoSaid'. A law counts once. -/
mutual
def uptoBulk {H : Type} : DataW H → Nat
  | .lit (.string bytes) => bytes.length + 1
  | .lit _ => 1
  | .nil => 1
  | .ptr d => uptoBulk d + 1
  | .slice elems spare => uptoBulkAll elems + uptoBulkAll spare + 1
  | .agg parts => uptoBulkAll parts + 1
  | .iface _ d => uptoBulk d + 1
  | .map entries => uptoBulkEntries entries + 1
  | .held _ => 1
def uptoBulkAll {H : Type} : List (DataW H) → Nat
  | [] => 0
  | d :: r => uptoBulk d + uptoBulkAll r
def uptoBulkEntries {H : Type} : List (Lit × DataW H) → Nat
  | [] => 0
  | x :: r => uptoBulkEntry x + uptoBulkEntries r
def uptoBulkEntry {H : Type} : Lit × DataW H → Nat
  | (.string bytes, d) => bytes.length + uptoBulk d + 1
  | (_, d) => uptoBulk d + 1
 end
def uptoSmall : (H : Type) → List (DataW H) → Bool := fun _ ds => decide (uptoBulkAll ds ≤ 1048576)
def OpenSpec.upto (s : _root_.Go.ChangeSpec) : _root_.Go.OpenSpec := { _root_.Go.OpenSpec.ofChange s with cond := some uptoSmall }

/-- 'laws.FnStoreLess', WHERE WHAT IT READS IS OF BULK AT MOST 1048576: true; the input reads as it did. -/
def fnStoreLessUptoRow : OpenClaim := { program := "ytmbnkgoolgcjlaa", sum := "dea3e22f1d949ee140b2d4d50620dc9ee98bbbb29e99c0b78baed00c53345159", func := "loop.example/purser/laws.FnStoreLess", spec := "fnStoreLess", apart := false, narrowed := true }
def FnStoreLessUptoSaid : Prop := fnStoreLessUptoRow.holds Try.pinned (OpenSpec.upto fnStoreLessSpec)

/-- 'laws.FnNewest', WHERE WHAT IT READS IS OF BULK AT MOST 1048576: true; the input reads as it did. -/
def fnNewestUptoRow : OpenClaim := { program := "ytmbnkgoolgcjlaa", sum := "dea3e22f1d949ee140b2d4d50620dc9ee98bbbb29e99c0b78baed00c53345159", func := "loop.example/purser/laws.FnNewest", spec := "fnNewest", apart := false, narrowed := true }
def FnNewestUptoSaid : Prop := fnNewestUptoRow.holds Try.pinned (OpenSpec.upto fnNewestSpec)

/-- 'laws.FnNewestMore', WHERE WHAT IT READS IS OF BULK AT MOST 1048576: true; the input reads as it did. -/
def fnNewestMoreUptoRow : OpenClaim := { program := "ytmbnkgoolgcjlaa", sum := "dea3e22f1d949ee140b2d4d50620dc9ee98bbbb29e99c0b78baed00c53345159", func := "loop.example/purser/laws.FnNewestMore", spec := "fnNewestMore", apart := false, narrowed := true }
def FnNewestMoreUptoSaid : Prop := fnNewestMoreUptoRow.holds Try.pinned (OpenSpec.upto fnNewestMoreSpec)

/-- 'laws.FnExactStoreNewest', WHERE WHAT IT READS IS OF BULK AT MOST 1048576: true; the input reads as it did. -/
def fnExactStoreNewestUptoRow : OpenClaim := { program := "ytmbnkgoolgcjlaa", sum := "dea3e22f1d949ee140b2d4d50620dc9ee98bbbb29e99c0b78baed00c53345159", func := "loop.example/purser/laws.FnExactStoreNewest", spec := "fnExactStoreNewest", apart := false, narrowed := true }
def FnExactStoreNewestUptoSaid : Prop := fnExactStoreNewestUptoRow.holds Try.pinned (OpenSpec.upto fnExactStoreNewestSpec)

end Rows
end Go.Proofs.Ytmbnkgoolgcjlaa
