/-
  No cell of these rows narrows 'for every input' (looked for: loops, veiled, ifaces, maps, wideKeys, modest, calm, conditions, laid).
  DERIVED. THE GIVEN ROWS OF THIS SEAT. 4 by the template 'for every input the law returns true; each argument reads behind the call as it read before'; 0 by the template 'total and deterministic' (their statements: YtfhdcapkoahflauTotals.lean).
  GIVEN WITH THE SEED: the statements are not yours to turn. If you find one false, say at which input.
  Laid BY PROGRAM, IN A SANDBOX (cutbox-rows.mjs): the forced cells as the released guide's own fill.sh prints them over the translation 59b8cbd93ad6fc99… (all of the seat's roots in one cut). By AI agents, Wed Nov 11 2026. No macro, syntax, notation, axiom, sorry.
-/
import Derived.Test.YtfhdcapkoahflauChecked
import GoSem.Claim
import GoSem.ClaimJoined
import GoSem.ClaimMapViews
import Derived.JoinedTies
import Derived.KernelRfl
namespace Go.Proofs.Ytfhdcapkoahflau
/- THE CELL 'sum', in the pinned program and in every row, IS THE sha256 OF THE DUMP (.gsa) THAT YtfhdcapkoahflauProg.lean LOADS. Nothing in Lean hashes anything: it is a label: what it is worth is what the hold of that sum in a sandbox is worth. -/
noncomputable def Try.pinned : Pinned := { name := "ytfhdcapkoahflau", sum := "59b8cbd93ad6fc9998f5e9ef6db350967db5c284147e21c50a03ba75dcbc2130", checked := Try.checked }
namespace Rows
def none {H : Type} : Left H := { results := [], args := [] }

/-- 'laws.FnExactPkgText': WHATEVER THE INPUT: true; the input reads as it did. -/
def fnExactPkgTextSpec : ChangeSpec := { name := "fnExactPkgText", fn := fun _ => fun
  | [d] => { results := [.lit (.bool true)], args := [d] }
  | _ => none }
def fnExactPkgTextRow : OpenClaim := { program := "ytfhdcapkoahflau", sum := "59b8cbd93ad6fc9998f5e9ef6db350967db5c284147e21c50a03ba75dcbc2130", func := "loop.example/purser/laws.FnExactPkgText", spec := "fnExactPkgText", inPlace := ["internal/abi.NoEscape", "internal/bytealg.MakeNoZero"], unfollowed := true, recurses := true, apart := false }
def FnExactPkgTextSaid : Prop := fnExactPkgTextRow.holds Try.pinned (OpenSpec.ofChange fnExactPkgTextSpec)

/-- ITS FALSE NEIGHBOUR: 'it returns false'. Refute it at one input. -/
def fnExactPkgTextWrong : ChangeSpec := { name := "fnExactPkgText", fn := fun _ => fun
  | [d] => { results := [.lit (.bool false)], args := [d] }
  | _ => none }
def FnExactPkgTextWrongFalsely : Prop := fnExactPkgTextRow.holds Try.pinned (OpenSpec.ofChange fnExactPkgTextWrong)

/-- 'laws.FnExactSumOf': WHATEVER THE INPUT: true; the input reads as it did. -/
def fnExactSumOfSpec : ChangeSpec := { name := "fnExactSumOf", fn := fun _ => fun
  | [d] => { results := [.lit (.bool true)], args := [d] }
  | _ => none }
def fnExactSumOfRow : OpenClaim := { program := "ytfhdcapkoahflau", sum := "59b8cbd93ad6fc9998f5e9ef6db350967db5c284147e21c50a03ba75dcbc2130", func := "loop.example/purser/laws.FnExactSumOf", spec := "fnExactSumOf", apart := false }
def FnExactSumOfSaid : Prop := fnExactSumOfRow.holds Try.pinned (OpenSpec.ofChange fnExactSumOfSpec)

/-- ITS FALSE NEIGHBOUR: 'it returns false'. Refute it at one input. -/
def fnExactSumOfWrong : ChangeSpec := { name := "fnExactSumOf", fn := fun _ => fun
  | [d] => { results := [.lit (.bool false)], args := [d] }
  | _ => none }
def FnExactSumOfWrongFalsely : Prop := fnExactSumOfRow.holds Try.pinned (OpenSpec.ofChange fnExactSumOfWrong)

/-- 'laws.FnExactDiskOk': WHATEVER THE INPUT: true; the input reads as it did. -/
def fnExactDiskOkSpec : ChangeSpec := { name := "fnExactDiskOk", fn := fun _ => fun
  | [d] => { results := [.lit (.bool true)], args := [d] }
  | _ => none }
def fnExactDiskOkRow : OpenClaim := { program := "ytfhdcapkoahflau", sum := "59b8cbd93ad6fc9998f5e9ef6db350967db5c284147e21c50a03ba75dcbc2130", func := "loop.example/purser/laws.FnExactDiskOk", spec := "fnExactDiskOk", apart := false }
def FnExactDiskOkSaid : Prop := fnExactDiskOkRow.holds Try.pinned (OpenSpec.ofChange fnExactDiskOkSpec)

/-- ITS FALSE NEIGHBOUR: 'it returns false'. Refute it at one input. -/
def fnExactDiskOkWrong : ChangeSpec := { name := "fnExactDiskOk", fn := fun _ => fun
  | [d] => { results := [.lit (.bool false)], args := [d] }
  | _ => none }
def FnExactDiskOkWrongFalsely : Prop := fnExactDiskOkRow.holds Try.pinned (OpenSpec.ofChange fnExactDiskOkWrong)

/-- 'laws.FnExactDiskTrue': WHATEVER THE INPUT: true; the input reads as it did. -/
def fnExactDiskTrueSpec : ChangeSpec := { name := "fnExactDiskTrue", fn := fun _ => fun
  | [d] => { results := [.lit (.bool true)], args := [d] }
  | _ => none }
def fnExactDiskTrueRow : OpenClaim := { program := "ytfhdcapkoahflau", sum := "59b8cbd93ad6fc9998f5e9ef6db350967db5c284147e21c50a03ba75dcbc2130", func := "loop.example/purser/laws.FnExactDiskTrue", spec := "fnExactDiskTrue", apart := false }
def FnExactDiskTrueSaid : Prop := fnExactDiskTrueRow.holds Try.pinned (OpenSpec.ofChange fnExactDiskTrueSpec)

/-- ITS FALSE NEIGHBOUR: 'it returns false'. Refute it at one input. -/
def fnExactDiskTrueWrong : ChangeSpec := { name := "fnExactDiskTrue", fn := fun _ => fun
  | [d] => { results := [.lit (.bool false)], args := [d] }
  | _ => none }
def FnExactDiskTrueWrongFalsely : Prop := fnExactDiskTrueRow.holds Try.pinned (OpenSpec.ofChange fnExactDiskTrueWrong)

/- THE SECOND FORM. 'bulk': how many values and letters a reading holds, each counted each time it is reached (what is shared counts as often as it is met; a slice's spare places count too). A statement '..UptoSaid' is the law's where the arguments, and the package variables that the reading takes, are together of bulk at most 1048576: NARROWER than '..Said'. Prove '..Said' where nothing that the law and all that it calls make is longer than what came in: it says more and counts as full. Else prove '..UptoSaid'. A law counts once. -/
mutual
def uptoBulk {H : Type} : DataW H → Nat
  | .lit (.string bytes) => bytes.length + 1
  | .lit _ => 1
  | .nil => 1
  | .ptr d => uptoBulk d + 1
  | .slice elems spare => uptoBulkAll elems + uptoBulkAll spare + 1
  | .agg parts => uptoBulkAll parts + 1
  | .iface _ d => uptoBulk d + 1
  | .map entries => uptoBulkEntries entries + 1
  | .held _ => 1
def uptoBulkAll {H : Type} : List (DataW H) → Nat
  | [] => 0
  | d :: r => uptoBulk d + uptoBulkAll r
def uptoBulkEntries {H : Type} : List (Lit × DataW H) → Nat
  | [] => 0
  | x :: r => uptoBulkEntry x + uptoBulkEntries r
def uptoBulkEntry {H : Type} : Lit × DataW H → Nat
  | (.string bytes, d) => bytes.length + uptoBulk d + 1
  | (_, d) => uptoBulk d + 1
 end
def uptoSmall : (H : Type) → List (DataW H) → Bool := fun _ ds => decide (uptoBulkAll ds ≤ 1048576)
def OpenSpec.upto (s : _root_.Go.ChangeSpec) : _root_.Go.OpenSpec := { _root_.Go.OpenSpec.ofChange s with cond := some uptoSmall }

/-- 'laws.FnExactPkgText', WHERE WHAT IT READS IS OF BULK AT MOST 1048576: true; the input reads as it did. -/
def fnExactPkgTextUptoRow : OpenClaim := { program := "ytfhdcapkoahflau", sum := "59b8cbd93ad6fc9998f5e9ef6db350967db5c284147e21c50a03ba75dcbc2130", func := "loop.example/purser/laws.FnExactPkgText", spec := "fnExactPkgText", inPlace := ["internal/abi.NoEscape", "internal/bytealg.MakeNoZero"], unfollowed := true, recurses := true, apart := false, narrowed := true }
def FnExactPkgTextUptoSaid : Prop := fnExactPkgTextUptoRow.holds Try.pinned (OpenSpec.upto fnExactPkgTextSpec)

/-- 'laws.FnExactSumOf', WHERE WHAT IT READS IS OF BULK AT MOST 1048576: true; the input reads as it did. -/
def fnExactSumOfUptoRow : OpenClaim := { program := "ytfhdcapkoahflau", sum := "59b8cbd93ad6fc9998f5e9ef6db350967db5c284147e21c50a03ba75dcbc2130", func := "loop.example/purser/laws.FnExactSumOf", spec := "fnExactSumOf", apart := false, narrowed := true }
def FnExactSumOfUptoSaid : Prop := fnExactSumOfUptoRow.holds Try.pinned (OpenSpec.upto fnExactSumOfSpec)

/-- 'laws.FnExactDiskOk', WHERE WHAT IT READS IS OF BULK AT MOST 1048576: true; the input reads as it did. -/
def fnExactDiskOkUptoRow : OpenClaim := { program := "ytfhdcapkoahflau", sum := "59b8cbd93ad6fc9998f5e9ef6db350967db5c284147e21c50a03ba75dcbc2130", func := "loop.example/purser/laws.FnExactDiskOk", spec := "fnExactDiskOk", apart := false, narrowed := true }
def FnExactDiskOkUptoSaid : Prop := fnExactDiskOkUptoRow.holds Try.pinned (OpenSpec.upto fnExactDiskOkSpec)

/-- 'laws.FnExactDiskTrue', WHERE WHAT IT READS IS OF BULK AT MOST 1048576: true; the input reads as it did. -/
def fnExactDiskTrueUptoRow : OpenClaim := { program := "ytfhdcapkoahflau", sum := "59b8cbd93ad6fc9998f5e9ef6db350967db5c284147e21c50a03ba75dcbc2130", func := "loop.example/purser/laws.FnExactDiskTrue", spec := "fnExactDiskTrue", apart := false, narrowed := true }
def FnExactDiskTrueUptoSaid : Prop := fnExactDiskTrueUptoRow.holds Try.pinned (OpenSpec.upto fnExactDiskTrueSpec)

end Rows
end Go.Proofs.Ytfhdcapkoahflau
