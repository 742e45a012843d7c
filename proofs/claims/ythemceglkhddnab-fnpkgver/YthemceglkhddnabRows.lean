/-
  No cell of these rows narrows 'for every input' (looked for: loops, veiled, ifaces, maps, wideKeys, modest, calm, conditions, laid).
  DERIVED. THE GIVEN ROWS OF THIS SEAT. 6 by the template 'for every input the law returns true; each argument reads behind the call as it read before'; 0 by the template 'total and deterministic' (their statements: YthemceglkhddnabTotals.lean).
  GIVEN WITH THE SEED: the statements are not yours to turn. If you find one false, say at which input.
  Laid BY PROGRAM, IN A SANDBOX (cutbox-rows.mjs): the forced cells as the released guide's own fill.sh prints them over the translation 5e419f0cdb42c28e… (all of the seat's roots in one cut). By AI agents, Wed Nov 11 2026. No macro, syntax, notation, axiom, sorry.
-/
import Derived.Test.YthemceglkhddnabChecked
import GoSem.Claim
import GoSem.ClaimJoined
import GoSem.ClaimMapViews
import Derived.JoinedTies
import Derived.KernelRfl
namespace Go.Proofs.Ythemceglkhddnab
/- THE CELL 'sum', in the pinned program and in every row, IS THE sha256 OF THE DUMP (.gsa) THAT YthemceglkhddnabProg.lean LOADS. Nothing in Lean hashes anything: it is a label: what it is worth is what the hold of that sum in a sandbox is worth. -/
noncomputable def Try.pinned : Pinned := { name := "ythemceglkhddnab", sum := "5e419f0cdb42c28e42b7712b4259c623f72937c48d4b60246ace94636a62e17d", checked := Try.checked }
namespace Rows
def none {H : Type} : Left H := { results := [], args := [] }

/-- 'laws.FnSumByte': WHATEVER THE INPUT: true; the input reads as it did. -/
def fnSumByteSpec : ChangeSpec := { name := "fnSumByte", fn := fun _ => fun
  | [d1, d2] => { results := [.lit (.bool true)], args := [d1, d2] }
  | _ => none }
def fnSumByteRow : OpenClaim := { program := "ythemceglkhddnab", sum := "5e419f0cdb42c28e42b7712b4259c623f72937c48d4b60246ace94636a62e17d", func := "loop.example/purser/laws.FnSumByte", spec := "fnSumByte", recurses := true, apart := false }
def FnSumByteSaid : Prop := fnSumByteRow.holds Try.pinned (OpenSpec.ofChange fnSumByteSpec)

/-- ITS FALSE NEIGHBOUR: 'it returns false'. Refute it at one input. -/
def fnSumByteWrong : ChangeSpec := { name := "fnSumByte", fn := fun _ => fun
  | [d1, d2] => { results := [.lit (.bool false)], args := [d1, d2] }
  | _ => none }
def FnSumByteWrongFalsely : Prop := fnSumByteRow.holds Try.pinned (OpenSpec.ofChange fnSumByteWrong)

/-- 'laws.FnPkgVer': WHATEVER THE INPUT: true; the input reads as it did. -/
def fnPkgVerSpec : ChangeSpec := { name := "fnPkgVer", fn := fun _ => fun
  | [d1, d2] => { results := [.lit (.bool true)], args := [d1, d2] }
  | _ => none }
def fnPkgVerRow : OpenClaim := { program := "ythemceglkhddnab", sum := "5e419f0cdb42c28e42b7712b4259c623f72937c48d4b60246ace94636a62e17d", func := "loop.example/purser/laws.FnPkgVer", spec := "fnPkgVer", inPlace := ["internal/abi.NoEscape", "internal/bytealg.MakeNoZero"], unfollowed := true, recurses := true, apart := false }
def FnPkgVerSaid : Prop := fnPkgVerRow.holds Try.pinned (OpenSpec.ofChange fnPkgVerSpec)

/-- ITS FALSE NEIGHBOUR: 'it returns false'. Refute it at one input. -/
def fnPkgVerWrong : ChangeSpec := { name := "fnPkgVer", fn := fun _ => fun
  | [d1, d2] => { results := [.lit (.bool false)], args := [d1, d2] }
  | _ => none }
def FnPkgVerWrongFalsely : Prop := fnPkgVerRow.holds Try.pinned (OpenSpec.ofChange fnPkgVerWrong)

/-- 'laws.FnSumTwo': WHATEVER THE INPUT: true; the input reads as it did. -/
def fnSumTwoSpec : ChangeSpec := { name := "fnSumTwo", fn := fun _ => fun
  | [d1, d2] => { results := [.lit (.bool true)], args := [d1, d2] }
  | _ => none }
def fnSumTwoRow : OpenClaim := { program := "ythemceglkhddnab", sum := "5e419f0cdb42c28e42b7712b4259c623f72937c48d4b60246ace94636a62e17d", func := "loop.example/purser/laws.FnSumTwo", spec := "fnSumTwo", recurses := true, apart := false }
def FnSumTwoSaid : Prop := fnSumTwoRow.holds Try.pinned (OpenSpec.ofChange fnSumTwoSpec)

/-- ITS FALSE NEIGHBOUR: 'it returns false'. Refute it at one input. -/
def fnSumTwoWrong : ChangeSpec := { name := "fnSumTwo", fn := fun _ => fun
  | [d1, d2] => { results := [.lit (.bool false)], args := [d1, d2] }
  | _ => none }
def FnSumTwoWrongFalsely : Prop := fnSumTwoRow.holds Try.pinned (OpenSpec.ofChange fnSumTwoWrong)

/-- 'laws.FnKeysBoth': WHATEVER THE INPUT: true; the input reads as it did. -/
def fnKeysBothSpec : ChangeSpec := { name := "fnKeysBoth", fn := fun _ => fun
  | [d] => { results := [.lit (.bool true)], args := [d] }
  | _ => none }
def fnKeysBothRow : OpenClaim := { program := "ythemceglkhddnab", sum := "5e419f0cdb42c28e42b7712b4259c623f72937c48d4b60246ace94636a62e17d", func := "loop.example/purser/laws.FnKeysBoth", spec := "fnKeysBoth", apart := false }
def FnKeysBothSaid : Prop := fnKeysBothRow.holds Try.pinned (OpenSpec.ofChange fnKeysBothSpec)

/-- ITS FALSE NEIGHBOUR: 'it returns false'. Refute it at one input. -/
def fnKeysBothWrong : ChangeSpec := { name := "fnKeysBoth", fn := fun _ => fun
  | [d] => { results := [.lit (.bool false)], args := [d] }
  | _ => none }
def FnKeysBothWrongFalsely : Prop := fnKeysBothRow.holds Try.pinned (OpenSpec.ofChange fnKeysBothWrong)

/-- 'laws.FnKeysLess': WHATEVER THE INPUT: true; the input reads as it did. -/
def fnKeysLessSpec : ChangeSpec := { name := "fnKeysLess", fn := fun _ => fun
  | [d1, d2] => { results := [.lit (.bool true)], args := [d1, d2] }
  | _ => none }
def fnKeysLessRow : OpenClaim := { program := "ythemceglkhddnab", sum := "5e419f0cdb42c28e42b7712b4259c623f72937c48d4b60246ace94636a62e17d", func := "loop.example/purser/laws.FnKeysLess", spec := "fnKeysLess", apart := false }
def FnKeysLessSaid : Prop := fnKeysLessRow.holds Try.pinned (OpenSpec.ofChange fnKeysLessSpec)

/-- ITS FALSE NEIGHBOUR: 'it returns false'. Refute it at one input. -/
def fnKeysLessWrong : ChangeSpec := { name := "fnKeysLess", fn := fun _ => fun
  | [d1, d2] => { results := [.lit (.bool false)], args := [d1, d2] }
  | _ => none }
def FnKeysLessWrongFalsely : Prop := fnKeysLessRow.holds Try.pinned (OpenSpec.ofChange fnKeysLessWrong)

/-- 'laws.FnRootNeed': WHATEVER THE INPUT: true; the input reads as it did. -/
def fnRootNeedSpec : ChangeSpec := { name := "fnRootNeed", fn := fun _ => fun
  | [d] => { results := [.lit (.bool true)], args := [d] }
  | _ => none }
def fnRootNeedRow : OpenClaim := { program := "ythemceglkhddnab", sum := "5e419f0cdb42c28e42b7712b4259c623f72937c48d4b60246ace94636a62e17d", func := "loop.example/purser/laws.FnRootNeed", spec := "fnRootNeed", apart := false }
def FnRootNeedSaid : Prop := fnRootNeedRow.holds Try.pinned (OpenSpec.ofChange fnRootNeedSpec)

/-- ITS FALSE NEIGHBOUR: 'it returns false'. Refute it at one input. -/
def fnRootNeedWrong : ChangeSpec := { name := "fnRootNeed", fn := fun _ => fun
  | [d] => { results := [.lit (.bool false)], args := [d] }
  | _ => none }
def FnRootNeedWrongFalsely : Prop := fnRootNeedRow.holds Try.pinned (OpenSpec.ofChange fnRootNeedWrong)

/- THE SECOND FORM. 'bulk': how many values and letters a reading holds, each counted each time it is reached (what is shared counts as often as it is met; a slice's spare places count too). A statement '..UptoSaid' is the law's where the arguments, and the package variables that the reading takes, are together of bulk at most 1048576: NARROWER than '..Said'. Prove '..Said' where nothing that the law and all that it calls make is longer than what came in: it says more and counts as full. Else prove '..UptoSaid'. A law counts once. -/
mutual
def uptoBulk {H : Type} : DataW H → Nat
  | .lit (.string bytes) => bytes.length + 1
  | .lit _ => 1
  | .nil => 1
  | .ptr d => uptoBulk d + 1
  | .slice elems spare => uptoBulkAll elems + uptoBulkAll spare + 1
  | .agg parts => uptoBulkAll parts + 1
  | .iface _ d => uptoBulk d + 1
  | .map entries => uptoBulkEntries entries + 1
  | .held _ => 1
def uptoBulkAll {H : Type} : List (DataW H) → Nat
  | [] => 0
  | d :: r => uptoBulk d + uptoBulkAll r
def uptoBulkEntries {H : Type} : List (Lit × DataW H) → Nat
  | [] => 0
  | x :: r => uptoBulkEntry x + uptoBulkEntries r
def uptoBulkEntry {H : Type} : Lit × DataW H → Nat
  | (.string bytes, d) => bytes.length + uptoBulk d + 1
  | (_, d) => uptoBulk d + 1
 end
def uptoSmall : (H : Type) → List (DataW H) → Bool := fun _ ds => decide (uptoBulkAll ds ≤ 1048576)
def OpenSpec.upto (s : _root_.Go.ChangeSpec) : _root_.Go.OpenSpec := { _root_.Go.OpenSpec.ofChange s with cond := some uptoSmall }

/-- 'laws.FnSumByte', WHERE WHAT IT READS IS OF BULK AT MOST 1048576: true; the input reads as it did. -/
def fnSumByteUptoRow : OpenClaim := { program := "ythemceglkhddnab", sum := "5e419f0cdb42c28e42b7712b4259c623f72937c48d4b60246ace94636a62e17d", func := "loop.example/purser/laws.FnSumByte", spec := "fnSumByte", recurses := true, apart := false, narrowed := true }
def FnSumByteUptoSaid : Prop := fnSumByteUptoRow.holds Try.pinned (OpenSpec.upto fnSumByteSpec)

/-- 'laws.FnPkgVer', WHERE WHAT IT READS IS OF BULK AT MOST 1048576: true; the input reads as it did. -/
def fnPkgVerUptoRow : OpenClaim := { program := "ythemceglkhddnab", sum := "5e419f0cdb42c28e42b7712b4259c623f72937c48d4b60246ace94636a62e17d", func := "loop.example/purser/laws.FnPkgVer", spec := "fnPkgVer", inPlace := ["internal/abi.NoEscape", "internal/bytealg.MakeNoZero"], unfollowed := true, recurses := true, apart := false, narrowed := true }
def FnPkgVerUptoSaid : Prop := fnPkgVerUptoRow.holds Try.pinned (OpenSpec.upto fnPkgVerSpec)

/-- 'laws.FnSumTwo', WHERE WHAT IT READS IS OF BULK AT MOST 1048576: true; the input reads as it did. -/
def fnSumTwoUptoRow : OpenClaim := { program := "ythemceglkhddnab", sum := "5e419f0cdb42c28e42b7712b4259c623f72937c48d4b60246ace94636a62e17d", func := "loop.example/purser/laws.FnSumTwo", spec := "fnSumTwo", recurses := true, apart := false, narrowed := true }
def FnSumTwoUptoSaid : Prop := fnSumTwoUptoRow.holds Try.pinned (OpenSpec.upto fnSumTwoSpec)

/-- 'laws.FnKeysBoth', WHERE WHAT IT READS IS OF BULK AT MOST 1048576: true; the input reads as it did. -/
def fnKeysBothUptoRow : OpenClaim := { program := "ythemceglkhddnab", sum := "5e419f0cdb42c28e42b7712b4259c623f72937c48d4b60246ace94636a62e17d", func := "loop.example/purser/laws.FnKeysBoth", spec := "fnKeysBoth", apart := false, narrowed := true }
def FnKeysBothUptoSaid : Prop := fnKeysBothUptoRow.holds Try.pinned (OpenSpec.upto fnKeysBothSpec)

/-- 'laws.FnKeysLess', WHERE WHAT IT READS IS OF BULK AT MOST 1048576: true; the input reads as it did. -/
def fnKeysLessUptoRow : OpenClaim := { program := "ythemceglkhddnab", sum := "5e419f0cdb42c28e42b7712b4259c623f72937c48d4b60246ace94636a62e17d", func := "loop.example/purser/laws.FnKeysLess", spec := "fnKeysLess", apart := false, narrowed := true }
def FnKeysLessUptoSaid : Prop := fnKeysLessUptoRow.holds Try.pinned (OpenSpec.upto fnKeysLessSpec)

/-- 'laws.FnRootNeed', WHERE WHAT IT READS IS OF BULK AT MOST 1048576: true; the input reads as it did. -/
def fnRootNeedUptoRow : OpenClaim := { program := "ythemceglkhddnab", sum := "5e419f0cdb42c28e42b7712b4259c623f72937c48d4b60246ace94636a62e17d", func := "loop.example/purser/laws.FnRootNeed", spec := "fnRootNeed", apart := false, narrowed := true }
def FnRootNeedUptoSaid : Prop := fnRootNeedUptoRow.holds Try.pinned (OpenSpec.upto fnRootNeedSpec)

end Rows
end Go.Proofs.Ythemceglkhddnab
