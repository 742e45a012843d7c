/-
  No cell of these rows narrows 'for every input' (looked for: loops, veiled, ifaces, maps, wideKeys, modest, calm, conditions, laid).
  DERIVED. THE GIVEN ROWS OF THIS SEAT. 3 by the template 'for every input the law returns true; each argument reads behind the call as it read before'; 0 by the template 'total and deterministic' (their statements: YtfhdcapkoahflaaTotals.lean).
  GIVEN WITH THE SEED: the statements are not yours to turn. If you find one false, say at which input.
  Laid BY PROGRAM, IN A SANDBOX (cutbox-rows.mjs): the forced cells as the released guide's own fill.sh prints them over the translation 4b6d60fd41becddd… (all of the seat's roots in one cut). By AI agents, Wed Nov 11 2026. No macro, syntax, notation, axiom, sorry.
-/
import Derived.Test.YtfhdcapkoahflaaChecked
import GoSem.Claim
import GoSem.ClaimJoined
import GoSem.ClaimMapViews
import Derived.JoinedTies
import Derived.KernelRfl
namespace Go.Proofs.Ytfhdcapkoahflaa
/- THE CELL 'sum', in the pinned program and in every row, IS THE sha256 OF THE DUMP (.gsa) THAT YtfhdcapkoahflaaProg.lean LOADS. Nothing in Lean hashes anything: it is a label: what it is worth is what the hold of that sum in a sandbox is worth. -/
noncomputable def Try.pinned : Pinned := { name := "ytfhdcapkoahflaa", sum := "4b6d60fd41becdddb1916ce7a8080050a57f932cfc2dd7bdad0da86202fde877", checked := Try.checked }
namespace Rows
def none {H : Type} : Left H := { results := [], args := [] }

/-- 'laws.FnPkgOne': WHATEVER THE INPUT: true; the input reads as it did. -/
def fnPkgOneSpec : ChangeSpec := { name := "fnPkgOne", fn := fun _ => fun
  | [d1, d2] => { results := [.lit (.bool true)], args := [d1, d2] }
  | _ => none }
def fnPkgOneRow : OpenClaim := { program := "ytfhdcapkoahflaa", sum := "4b6d60fd41becdddb1916ce7a8080050a57f932cfc2dd7bdad0da86202fde877", func := "loop.example/purser/laws.FnPkgOne", spec := "fnPkgOne", inPlace := ["internal/abi.NoEscape", "internal/bytealg.MakeNoZero"], unfollowed := true, recurses := true, apart := false }
def FnPkgOneSaid : Prop := fnPkgOneRow.holds Try.pinned (OpenSpec.ofChange fnPkgOneSpec)

/-- ITS FALSE NEIGHBOUR: 'it returns false'. Refute it at one input. -/
def fnPkgOneWrong : ChangeSpec := { name := "fnPkgOne", fn := fun _ => fun
  | [d1, d2] => { results := [.lit (.bool false)], args := [d1, d2] }
  | _ => none }
def FnPkgOneWrongFalsely : Prop := fnPkgOneRow.holds Try.pinned (OpenSpec.ofChange fnPkgOneWrong)

/-- 'laws.FnPkgLess': WHATEVER THE INPUT: true; the input reads as it did. -/
def fnPkgLessSpec : ChangeSpec := { name := "fnPkgLess", fn := fun _ => fun
  | [d1, d2] => { results := [.lit (.bool true)], args := [d1, d2] }
  | _ => none }
def fnPkgLessRow : OpenClaim := { program := "ytfhdcapkoahflaa", sum := "4b6d60fd41becdddb1916ce7a8080050a57f932cfc2dd7bdad0da86202fde877", func := "loop.example/purser/laws.FnPkgLess", spec := "fnPkgLess", apart := false }
def FnPkgLessSaid : Prop := fnPkgLessRow.holds Try.pinned (OpenSpec.ofChange fnPkgLessSpec)

/-- ITS FALSE NEIGHBOUR: 'it returns false'. Refute it at one input. -/
def fnPkgLessWrong : ChangeSpec := { name := "fnPkgLess", fn := fun _ => fun
  | [d1, d2] => { results := [.lit (.bool false)], args := [d1, d2] }
  | _ => none }
def FnPkgLessWrongFalsely : Prop := fnPkgLessRow.holds Try.pinned (OpenSpec.ofChange fnPkgLessWrong)

/-- 'laws.FnSumStep': WHATEVER THE INPUT: true; the input reads as it did. -/
def fnSumStepSpec : ChangeSpec := { name := "fnSumStep", fn := fun _ => fun
  | [d1, d2] => { results := [.lit (.bool true)], args := [d1, d2] }
  | _ => none }
def fnSumStepRow : OpenClaim := { program := "ytfhdcapkoahflaa", sum := "4b6d60fd41becdddb1916ce7a8080050a57f932cfc2dd7bdad0da86202fde877", func := "loop.example/purser/laws.FnSumStep", spec := "fnSumStep", recurses := true, apart := false }
def FnSumStepSaid : Prop := fnSumStepRow.holds Try.pinned (OpenSpec.ofChange fnSumStepSpec)

/-- ITS FALSE NEIGHBOUR: 'it returns false'. Refute it at one input. -/
def fnSumStepWrong : ChangeSpec := { name := "fnSumStep", fn := fun _ => fun
  | [d1, d2] => { results := [.lit (.bool false)], args := [d1, d2] }
  | _ => none }
def FnSumStepWrongFalsely : Prop := fnSumStepRow.holds Try.pinned (OpenSpec.ofChange fnSumStepWrong)

/- THE SECOND FORM. 'bulk': how many values and letters a reading holds, each counted each time it is reached (what is shared counts as often as it is met; a slice's spare places count too). A statement '..UptoSaid' is the law's where the arguments, and the package variables that the reading takes, are together of bulk at most 1048576: NARROWER than '..Said'. Prove '..Said' where nothing that the law and all that it calls make is longer than what came in: it says more and counts as full. Else prove '..UptoSaid'. A law counts once. -/
mutual
def uptoBulk {H : Type} : DataW H → Nat
  | .lit (.string bytes) => bytes.length + 1
  | .lit _ => 1
  | .nil => 1
  | .ptr d => uptoBulk d + 1
  | .slice elems spare => uptoBulkAll elems + uptoBulkAll spare + 1
  | .agg parts => uptoBulkAll parts + 1
  | .iface _ d => uptoBulk d + 1
  | .map entries => uptoBulkEntries entries + 1
  | .held _ => 1
def uptoBulkAll {H : Type} : List (DataW H) → Nat
  | [] => 0
  | d :: r => uptoBulk d + uptoBulkAll r
def uptoBulkEntries {H : Type} : List (Lit × DataW H) → Nat
  | [] => 0
  | x :: r => uptoBulkEntry x + uptoBulkEntries r
def uptoBulkEntry {H : Type} : Lit × DataW H → Nat
  | (.string bytes, d) => bytes.length + uptoBulk d + 1
  | (_, d) => uptoBulk d + 1
 end
def uptoSmall : (H : Type) → List (DataW H) → Bool := fun _ ds => decide (uptoBulkAll ds ≤ 1048576)
def OpenSpec.upto (s : _root_.Go.ChangeSpec) : _root_.Go.OpenSpec := { _root_.Go.OpenSpec.ofChange s with cond := some uptoSmall }

/-- 'laws.FnPkgOne', WHERE WHAT IT READS IS OF BULK AT MOST 1048576: true; the input reads as it did. -/
def fnPkgOneUptoRow : OpenClaim := { program := "ytfhdcapkoahflaa", sum := "4b6d60fd41becdddb1916ce7a8080050a57f932cfc2dd7bdad0da86202fde877", func := "loop.example/purser/laws.FnPkgOne", spec := "fnPkgOne", inPlace := ["internal/abi.NoEscape", "internal/bytealg.MakeNoZero"], unfollowed := true, recurses := true, apart := false, narrowed := true }
def FnPkgOneUptoSaid : Prop := fnPkgOneUptoRow.holds Try.pinned (OpenSpec.upto fnPkgOneSpec)

/-- 'laws.FnPkgLess', WHERE WHAT IT READS IS OF BULK AT MOST 1048576: true; the input reads as it did. -/
def fnPkgLessUptoRow : OpenClaim := { program := "ytfhdcapkoahflaa", sum := "4b6d60fd41becdddb1916ce7a8080050a57f932cfc2dd7bdad0da86202fde877", func := "loop.example/purser/laws.FnPkgLess", spec := "fnPkgLess", apart := false, narrowed := true }
def FnPkgLessUptoSaid : Prop := fnPkgLessUptoRow.holds Try.pinned (OpenSpec.upto fnPkgLessSpec)

/-- 'laws.FnSumStep', WHERE WHAT IT READS IS OF BULK AT MOST 1048576: true; the input reads as it did. -/
def fnSumStepUptoRow : OpenClaim := { program := "ytfhdcapkoahflaa", sum := "4b6d60fd41becdddb1916ce7a8080050a57f932cfc2dd7bdad0da86202fde877", func := "loop.example/purser/laws.FnSumStep", spec := "fnSumStep", recurses := true, apart := false, narrowed := true }
def FnSumStepUptoSaid : Prop := fnSumStepUptoRow.holds Try.pinned (OpenSpec.upto fnSumStepSpec)

end Rows
end Go.Proofs.Ytfhdcapkoahflaa
