/-
  No cell of these rows narrows 'for every input' (looked for: loops, veiled, ifaces, maps, wideKeys, modest, calm, conditions, laid).
  DERIVED. THE GIVEN ROWS OF THIS SEAT. 15 by the template 'for every input the law returns true; each argument reads behind the call as it read before'; 0 by the template 'total and deterministic' (their statements: YtneaceieaafjdaaTotals.lean).
  GIVEN WITH THE SEED: the statements are not yours to turn. If you find one false, say at which input.
  Laid BY PROGRAM, IN A SANDBOX (cutbox-rows.mjs): the forced cells as the released guide's own fill.sh prints them over the translation 371b877332726d9f… (all of the seat's roots in one cut). By AI agents, Wed Nov 11 2026. No macro, syntax, notation, axiom, sorry.
-/
import Derived.Test.YtneaceieaafjdaaChecked
import GoSem.Claim
import GoSem.ClaimJoined
import GoSem.ClaimMapViews
import Derived.JoinedTies
import Derived.KernelRfl
namespace Go.Proofs.Ytneaceieaafjdaa
/- THE CELL 'sum', in the pinned program and in every row, IS THE sha256 OF THE DUMP (.gsa) THAT YtneaceieaafjdaaProg.lean LOADS. Nothing in Lean hashes anything: it is a label: what it is worth is what the hold of that sum in a sandbox is worth. -/
noncomputable def Try.pinned : Pinned := { name := "ytneaceieaafjdaa", sum := "371b877332726d9fcf84a1b10c2ab690e56a78854b9e5ac9d49f785f0a7530cd", checked := Try.checked }
namespace Rows
def none {H : Type} : Left H := { results := [], args := [] }

/-- 'laws.FnKeysBoth': WHATEVER THE INPUT: true; the input reads as it did. -/
def fnKeysBothSpec : ChangeSpec := { name := "fnKeysBoth", fn := fun _ => fun
  | [d] => { results := [.lit (.bool true)], args := [d] }
  | _ => none }
def fnKeysBothRow : OpenClaim := { program := "ytneaceieaafjdaa", sum := "371b877332726d9fcf84a1b10c2ab690e56a78854b9e5ac9d49f785f0a7530cd", func := "loop.example/purser/laws.FnKeysBoth", spec := "fnKeysBoth", apart := false }
def FnKeysBothSaid : Prop := fnKeysBothRow.holds Try.pinned (OpenSpec.ofChange fnKeysBothSpec)

/-- ITS FALSE NEIGHBOUR: 'it returns false'. Refute it at one input. -/
def fnKeysBothWrong : ChangeSpec := { name := "fnKeysBoth", fn := fun _ => fun
  | [d] => { results := [.lit (.bool false)], args := [d] }
  | _ => none }
def FnKeysBothWrongFalsely : Prop := fnKeysBothRow.holds Try.pinned (OpenSpec.ofChange fnKeysBothWrong)

/-- 'laws.FnKeysLess': WHATEVER THE INPUT: true; the input reads as it did. -/
def fnKeysLessSpec : ChangeSpec := { name := "fnKeysLess", fn := fun _ => fun
  | [d1, d2] => { results := [.lit (.bool true)], args := [d1, d2] }
  | _ => none }
def fnKeysLessRow : OpenClaim := { program := "ytneaceieaafjdaa", sum := "371b877332726d9fcf84a1b10c2ab690e56a78854b9e5ac9d49f785f0a7530cd", func := "loop.example/purser/laws.FnKeysLess", spec := "fnKeysLess", apart := false }
def FnKeysLessSaid : Prop := fnKeysLessRow.holds Try.pinned (OpenSpec.ofChange fnKeysLessSpec)

/-- ITS FALSE NEIGHBOUR: 'it returns false'. Refute it at one input. -/
def fnKeysLessWrong : ChangeSpec := { name := "fnKeysLess", fn := fun _ => fun
  | [d1, d2] => { results := [.lit (.bool false)], args := [d1, d2] }
  | _ => none }
def FnKeysLessWrongFalsely : Prop := fnKeysLessRow.holds Try.pinned (OpenSpec.ofChange fnKeysLessWrong)

/-- 'laws.FnRootNeed': WHATEVER THE INPUT: true; the input reads as it did. -/
def fnRootNeedSpec : ChangeSpec := { name := "fnRootNeed", fn := fun _ => fun
  | [d] => { results := [.lit (.bool true)], args := [d] }
  | _ => none }
def fnRootNeedRow : OpenClaim := { program := "ytneaceieaafjdaa", sum := "371b877332726d9fcf84a1b10c2ab690e56a78854b9e5ac9d49f785f0a7530cd", func := "loop.example/purser/laws.FnRootNeed", spec := "fnRootNeed", apart := false }
def FnRootNeedSaid : Prop := fnRootNeedRow.holds Try.pinned (OpenSpec.ofChange fnRootNeedSpec)

/-- ITS FALSE NEIGHBOUR: 'it returns false'. Refute it at one input. -/
def fnRootNeedWrong : ChangeSpec := { name := "fnRootNeed", fn := fun _ => fun
  | [d] => { results := [.lit (.bool false)], args := [d] }
  | _ => none }
def FnRootNeedWrongFalsely : Prop := fnRootNeedRow.holds Try.pinned (OpenSpec.ofChange fnRootNeedWrong)

/-- 'laws.FnSignedMore': WHATEVER THE INPUT: true; the input reads as it did. -/
def fnSignedMoreSpec : ChangeSpec := { name := "fnSignedMore", fn := fun _ => fun
  | [d1, d2] => { results := [.lit (.bool true)], args := [d1, d2] }
  | _ => none }
def fnSignedMoreRow : OpenClaim := { program := "ytneaceieaafjdaa", sum := "371b877332726d9fcf84a1b10c2ab690e56a78854b9e5ac9d49f785f0a7530cd", func := "loop.example/purser/laws.FnSignedMore", spec := "fnSignedMore", apart := false }
def FnSignedMoreSaid : Prop := fnSignedMoreRow.holds Try.pinned (OpenSpec.ofChange fnSignedMoreSpec)

/-- ITS FALSE NEIGHBOUR: 'it returns false'. Refute it at one input. -/
def fnSignedMoreWrong : ChangeSpec := { name := "fnSignedMore", fn := fun _ => fun
  | [d1, d2] => { results := [.lit (.bool false)], args := [d1, d2] }
  | _ => none }
def FnSignedMoreWrongFalsely : Prop := fnSignedMoreRow.holds Try.pinned (OpenSpec.ofChange fnSignedMoreWrong)

/-- 'laws.FnSignedCount': WHATEVER THE INPUT: true; the input reads as it did. -/
def fnSignedCountSpec : ChangeSpec := { name := "fnSignedCount", fn := fun _ => fun
  | [d] => { results := [.lit (.bool true)], args := [d] }
  | _ => none }
def fnSignedCountRow : OpenClaim := { program := "ytneaceieaafjdaa", sum := "371b877332726d9fcf84a1b10c2ab690e56a78854b9e5ac9d49f785f0a7530cd", func := "loop.example/purser/laws.FnSignedCount", spec := "fnSignedCount", apart := false }
def FnSignedCountSaid : Prop := fnSignedCountRow.holds Try.pinned (OpenSpec.ofChange fnSignedCountSpec)

/-- ITS FALSE NEIGHBOUR: 'it returns false'. Refute it at one input. -/
def fnSignedCountWrong : ChangeSpec := { name := "fnSignedCount", fn := fun _ => fun
  | [d] => { results := [.lit (.bool false)], args := [d] }
  | _ => none }
def FnSignedCountWrongFalsely : Prop := fnSignedCountRow.holds Try.pinned (OpenSpec.ofChange fnSignedCountWrong)

/-- 'laws.FnNextBoth': WHATEVER THE INPUT: true; the input reads as it did. -/
def fnNextBothSpec : ChangeSpec := { name := "fnNextBoth", fn := fun _ => fun
  | [d] => { results := [.lit (.bool true)], args := [d] }
  | _ => none }
def fnNextBothRow : OpenClaim := { program := "ytneaceieaafjdaa", sum := "371b877332726d9fcf84a1b10c2ab690e56a78854b9e5ac9d49f785f0a7530cd", func := "loop.example/purser/laws.FnNextBoth", spec := "fnNextBoth", apart := false }
def FnNextBothSaid : Prop := fnNextBothRow.holds Try.pinned (OpenSpec.ofChange fnNextBothSpec)

/-- ITS FALSE NEIGHBOUR: 'it returns false'. Refute it at one input. -/
def fnNextBothWrong : ChangeSpec := { name := "fnNextBoth", fn := fun _ => fun
  | [d] => { results := [.lit (.bool false)], args := [d] }
  | _ => none }
def FnNextBothWrongFalsely : Prop := fnNextBothRow.holds Try.pinned (OpenSpec.ofChange fnNextBothWrong)

/-- 'laws.FnNextNum': WHATEVER THE INPUT: true; the input reads as it did. -/
def fnNextNumSpec : ChangeSpec := { name := "fnNextNum", fn := fun _ => fun
  | [d] => { results := [.lit (.bool true)], args := [d] }
  | _ => none }
def fnNextNumRow : OpenClaim := { program := "ytneaceieaafjdaa", sum := "371b877332726d9fcf84a1b10c2ab690e56a78854b9e5ac9d49f785f0a7530cd", func := "loop.example/purser/laws.FnNextNum", spec := "fnNextNum", apart := false }
def FnNextNumSaid : Prop := fnNextNumRow.holds Try.pinned (OpenSpec.ofChange fnNextNumSpec)

/-- ITS FALSE NEIGHBOUR: 'it returns false'. Refute it at one input. -/
def fnNextNumWrong : ChangeSpec := { name := "fnNextNum", fn := fun _ => fun
  | [d] => { results := [.lit (.bool false)], args := [d] }
  | _ => none }
def FnNextNumWrongFalsely : Prop := fnNextNumRow.holds Try.pinned (OpenSpec.ofChange fnNextNumWrong)

/-- 'laws.FnRootLess': WHATEVER THE INPUT: true; the input reads as it did. -/
def fnRootLessSpec : ChangeSpec := { name := "fnRootLess", fn := fun _ => fun
  | [d1, d2] => { results := [.lit (.bool true)], args := [d1, d2] }
  | _ => none }
def fnRootLessRow : OpenClaim := { program := "ytneaceieaafjdaa", sum := "371b877332726d9fcf84a1b10c2ab690e56a78854b9e5ac9d49f785f0a7530cd", func := "loop.example/purser/laws.FnRootLess", spec := "fnRootLess", apart := false }
def FnRootLessSaid : Prop := fnRootLessRow.holds Try.pinned (OpenSpec.ofChange fnRootLessSpec)

/-- ITS FALSE NEIGHBOUR: 'it returns false'. Refute it at one input. -/
def fnRootLessWrong : ChangeSpec := { name := "fnRootLess", fn := fun _ => fun
  | [d1, d2] => { results := [.lit (.bool false)], args := [d1, d2] }
  | _ => none }
def FnRootLessWrongFalsely : Prop := fnRootLessRow.holds Try.pinned (OpenSpec.ofChange fnRootLessWrong)

/-- 'laws.FnRootSame': WHATEVER THE INPUT: true; the input reads as it did. -/
def fnRootSameSpec : ChangeSpec := { name := "fnRootSame", fn := fun _ => fun
  | [d] => { results := [.lit (.bool true)], args := [d] }
  | _ => none }
def fnRootSameRow : OpenClaim := { program := "ytneaceieaafjdaa", sum := "371b877332726d9fcf84a1b10c2ab690e56a78854b9e5ac9d49f785f0a7530cd", func := "loop.example/purser/laws.FnRootSame", spec := "fnRootSame", apart := false }
def FnRootSameSaid : Prop := fnRootSameRow.holds Try.pinned (OpenSpec.ofChange fnRootSameSpec)

/-- ITS FALSE NEIGHBOUR: 'it returns false'. Refute it at one input. -/
def fnRootSameWrong : ChangeSpec := { name := "fnRootSame", fn := fun _ => fun
  | [d] => { results := [.lit (.bool false)], args := [d] }
  | _ => none }
def FnRootSameWrongFalsely : Prop := fnRootSameRow.holds Try.pinned (OpenSpec.ofChange fnRootSameWrong)

/-- 'laws.FnKeysAll': WHATEVER THE INPUT: true; the input reads as it did. -/
def fnKeysAllSpec : ChangeSpec := { name := "fnKeysAll", fn := fun _ => fun
  | [d] => { results := [.lit (.bool true)], args := [d] }
  | _ => none }
def fnKeysAllRow : OpenClaim := { program := "ytneaceieaafjdaa", sum := "371b877332726d9fcf84a1b10c2ab690e56a78854b9e5ac9d49f785f0a7530cd", func := "loop.example/purser/laws.FnKeysAll", spec := "fnKeysAll", apart := false }
def FnKeysAllSaid : Prop := fnKeysAllRow.holds Try.pinned (OpenSpec.ofChange fnKeysAllSpec)

/-- ITS FALSE NEIGHBOUR: 'it returns false'. Refute it at one input. -/
def fnKeysAllWrong : ChangeSpec := { name := "fnKeysAll", fn := fun _ => fun
  | [d] => { results := [.lit (.bool false)], args := [d] }
  | _ => none }
def FnKeysAllWrongFalsely : Prop := fnKeysAllRow.holds Try.pinned (OpenSpec.ofChange fnKeysAllWrong)

/-- 'laws.FnExactKeysOk': WHATEVER THE INPUT: true; the input reads as it did. -/
def fnExactKeysOkSpec : ChangeSpec := { name := "fnExactKeysOk", fn := fun _ => fun
  | [d] => { results := [.lit (.bool true)], args := [d] }
  | _ => none }
def fnExactKeysOkRow : OpenClaim := { program := "ytneaceieaafjdaa", sum := "371b877332726d9fcf84a1b10c2ab690e56a78854b9e5ac9d49f785f0a7530cd", func := "loop.example/purser/laws.FnExactKeysOk", spec := "fnExactKeysOk", apart := false }
def FnExactKeysOkSaid : Prop := fnExactKeysOkRow.holds Try.pinned (OpenSpec.ofChange fnExactKeysOkSpec)

/-- ITS FALSE NEIGHBOUR: 'it returns false'. Refute it at one input. -/
def fnExactKeysOkWrong : ChangeSpec := { name := "fnExactKeysOk", fn := fun _ => fun
  | [d] => { results := [.lit (.bool false)], args := [d] }
  | _ => none }
def FnExactKeysOkWrongFalsely : Prop := fnExactKeysOkRow.holds Try.pinned (OpenSpec.ofChange fnExactKeysOkWrong)

/-- 'laws.FnExactKeysBoth': WHATEVER THE INPUT: true; the input reads as it did. -/
def fnExactKeysBothSpec : ChangeSpec := { name := "fnExactKeysBoth", fn := fun _ => fun
  | [d1, d2] => { results := [.lit (.bool true)], args := [d1, d2] }
  | _ => none }
def fnExactKeysBothRow : OpenClaim := { program := "ytneaceieaafjdaa", sum := "371b877332726d9fcf84a1b10c2ab690e56a78854b9e5ac9d49f785f0a7530cd", func := "loop.example/purser/laws.FnExactKeysBoth", spec := "fnExactKeysBoth", apart := false }
def FnExactKeysBothSaid : Prop := fnExactKeysBothRow.holds Try.pinned (OpenSpec.ofChange fnExactKeysBothSpec)

/-- ITS FALSE NEIGHBOUR: 'it returns false'. Refute it at one input. -/
def fnExactKeysBothWrong : ChangeSpec := { name := "fnExactKeysBoth", fn := fun _ => fun
  | [d1, d2] => { results := [.lit (.bool false)], args := [d1, d2] }
  | _ => none }
def FnExactKeysBothWrongFalsely : Prop := fnExactKeysBothRow.holds Try.pinned (OpenSpec.ofChange fnExactKeysBothWrong)

/-- 'laws.FnExactRootOk': WHATEVER THE INPUT: true; the input reads as it did. -/
def fnExactRootOkSpec : ChangeSpec := { name := "fnExactRootOk", fn := fun _ => fun
  | [d] => { results := [.lit (.bool true)], args := [d] }
  | _ => none }
def fnExactRootOkRow : OpenClaim := { program := "ytneaceieaafjdaa", sum := "371b877332726d9fcf84a1b10c2ab690e56a78854b9e5ac9d49f785f0a7530cd", func := "loop.example/purser/laws.FnExactRootOk", spec := "fnExactRootOk", apart := false }
def FnExactRootOkSaid : Prop := fnExactRootOkRow.holds Try.pinned (OpenSpec.ofChange fnExactRootOkSpec)

/-- ITS FALSE NEIGHBOUR: 'it returns false'. Refute it at one input. -/
def fnExactRootOkWrong : ChangeSpec := { name := "fnExactRootOk", fn := fun _ => fun
  | [d] => { results := [.lit (.bool false)], args := [d] }
  | _ => none }
def FnExactRootOkWrongFalsely : Prop := fnExactRootOkRow.holds Try.pinned (OpenSpec.ofChange fnExactRootOkWrong)

/-- 'laws.FnExactRootSigned': WHATEVER THE INPUT: true; the input reads as it did. -/
def fnExactRootSignedSpec : ChangeSpec := { name := "fnExactRootSigned", fn := fun _ => fun
  | [d1, d2] => { results := [.lit (.bool true)], args := [d1, d2] }
  | _ => none }
def fnExactRootSignedRow : OpenClaim := { program := "ytneaceieaafjdaa", sum := "371b877332726d9fcf84a1b10c2ab690e56a78854b9e5ac9d49f785f0a7530cd", func := "loop.example/purser/laws.FnExactRootSigned", spec := "fnExactRootSigned", apart := false }
def FnExactRootSignedSaid : Prop := fnExactRootSignedRow.holds Try.pinned (OpenSpec.ofChange fnExactRootSignedSpec)

/-- ITS FALSE NEIGHBOUR: 'it returns false'. Refute it at one input. -/
def fnExactRootSignedWrong : ChangeSpec := { name := "fnExactRootSigned", fn := fun _ => fun
  | [d1, d2] => { results := [.lit (.bool false)], args := [d1, d2] }
  | _ => none }
def FnExactRootSignedWrongFalsely : Prop := fnExactRootSignedRow.holds Try.pinned (OpenSpec.ofChange fnExactRootSignedWrong)

/-- 'laws.FnExactRootNext': WHATEVER THE INPUT: true; the input reads as it did. -/
def fnExactRootNextSpec : ChangeSpec := { name := "fnExactRootNext", fn := fun _ => fun
  | [d1, d2] => { results := [.lit (.bool true)], args := [d1, d2] }
  | _ => none }
def fnExactRootNextRow : OpenClaim := { program := "ytneaceieaafjdaa", sum := "371b877332726d9fcf84a1b10c2ab690e56a78854b9e5ac9d49f785f0a7530cd", func := "loop.example/purser/laws.FnExactRootNext", spec := "fnExactRootNext", apart := false }
def FnExactRootNextSaid : Prop := fnExactRootNextRow.holds Try.pinned (OpenSpec.ofChange fnExactRootNextSpec)

/-- ITS FALSE NEIGHBOUR: 'it returns false'. Refute it at one input. -/
def fnExactRootNextWrong : ChangeSpec := { name := "fnExactRootNext", fn := fun _ => fun
  | [d1, d2] => { results := [.lit (.bool false)], args := [d1, d2] }
  | _ => none }
def FnExactRootNextWrongFalsely : Prop := fnExactRootNextRow.holds Try.pinned (OpenSpec.ofChange fnExactRootNextWrong)

/- THE SECOND FORM. 'bulk': how many values and letters a reading holds, each counted each time it is reached (what is shared counts as often as it is met; a slice's spare places count too). A statement '..UptoSaid' is the law's where the arguments, and the package variables that the reading takes, are together of bulk at most 1048576: NARROWER than '..Said'. Prove '..Said' where nothing that the law and all that it calls make is longer than what came in: it says more and counts as full. Else prove '..UptoSaid'. A law counts once. -/
mutual
def uptoBulk {H : Type} : DataW H → Nat
  | .lit (.string bytes) => bytes.length + 1
  | .lit _ => 1
  | .nil => 1
  | .ptr d => uptoBulk d + 1
  | .slice elems spare => uptoBulkAll elems + uptoBulkAll spare + 1
  | .agg parts => uptoBulkAll parts + 1
  | .iface _ d => uptoBulk d + 1
  | .map entries => uptoBulkEntries entries + 1
  | .held _ => 1
def uptoBulkAll {H : Type} : List (DataW H) → Nat
  | [] => 0
  | d :: r => uptoBulk d + uptoBulkAll r
def uptoBulkEntries {H : Type} : List (Lit × DataW H) → Nat
  | [] => 0
  | x :: r => uptoBulkEntry x + uptoBulkEntries r
def uptoBulkEntry {H : Type} : Lit × DataW H → Nat
  | (.string bytes, d) => bytes.length + uptoBulk d + 1
  | (_, d) => uptoBulk d + 1
 end
def uptoSmall : (H : Type) → List (DataW H) → Bool := fun _ ds => decide (uptoBulkAll ds ≤ 1048576)
def OpenSpec.upto (s : _root_.Go.ChangeSpec) : _root_.Go.OpenSpec := { _root_.Go.OpenSpec.ofChange s with cond := some uptoSmall }

/-- 'laws.FnKeysBoth', WHERE WHAT IT READS IS OF BULK AT MOST 1048576: true; the input reads as it did. -/
def fnKeysBothUptoRow : OpenClaim := { program := "ytneaceieaafjdaa", sum := "371b877332726d9fcf84a1b10c2ab690e56a78854b9e5ac9d49f785f0a7530cd", func := "loop.example/purser/laws.FnKeysBoth", spec := "fnKeysBoth", apart := false, narrowed := true }
def FnKeysBothUptoSaid : Prop := fnKeysBothUptoRow.holds Try.pinned (OpenSpec.upto fnKeysBothSpec)

/-- 'laws.FnKeysLess', WHERE WHAT IT READS IS OF BULK AT MOST 1048576: true; the input reads as it did. -/
def fnKeysLessUptoRow : OpenClaim := { program := "ytneaceieaafjdaa", sum := "371b877332726d9fcf84a1b10c2ab690e56a78854b9e5ac9d49f785f0a7530cd", func := "loop.example/purser/laws.FnKeysLess", spec := "fnKeysLess", apart := false, narrowed := true }
def FnKeysLessUptoSaid : Prop := fnKeysLessUptoRow.holds Try.pinned (OpenSpec.upto fnKeysLessSpec)

/-- 'laws.FnRootNeed', WHERE WHAT IT READS IS OF BULK AT MOST 1048576: true; the input reads as it did. -/
def fnRootNeedUptoRow : OpenClaim := { program := "ytneaceieaafjdaa", sum := "371b877332726d9fcf84a1b10c2ab690e56a78854b9e5ac9d49f785f0a7530cd", func := "loop.example/purser/laws.FnRootNeed", spec := "fnRootNeed", apart := false, narrowed := true }
def FnRootNeedUptoSaid : Prop := fnRootNeedUptoRow.holds Try.pinned (OpenSpec.upto fnRootNeedSpec)

/-- 'laws.FnSignedMore', WHERE WHAT IT READS IS OF BULK AT MOST 1048576: true; the input reads as it did. -/
def fnSignedMoreUptoRow : OpenClaim := { program := "ytneaceieaafjdaa", sum := "371b877332726d9fcf84a1b10c2ab690e56a78854b9e5ac9d49f785f0a7530cd", func := "loop.example/purser/laws.FnSignedMore", spec := "fnSignedMore", apart := false, narrowed := true }
def FnSignedMoreUptoSaid : Prop := fnSignedMoreUptoRow.holds Try.pinned (OpenSpec.upto fnSignedMoreSpec)

/-- 'laws.FnSignedCount', WHERE WHAT IT READS IS OF BULK AT MOST 1048576: true; the input reads as it did. -/
def fnSignedCountUptoRow : OpenClaim := { program := "ytneaceieaafjdaa", sum := "371b877332726d9fcf84a1b10c2ab690e56a78854b9e5ac9d49f785f0a7530cd", func := "loop.example/purser/laws.FnSignedCount", spec := "fnSignedCount", apart := false, narrowed := true }
def FnSignedCountUptoSaid : Prop := fnSignedCountUptoRow.holds Try.pinned (OpenSpec.upto fnSignedCountSpec)

/-- 'laws.FnNextBoth', WHERE WHAT IT READS IS OF BULK AT MOST 1048576: true; the input reads as it did. -/
def fnNextBothUptoRow : OpenClaim := { program := "ytneaceieaafjdaa", sum := "371b877332726d9fcf84a1b10c2ab690e56a78854b9e5ac9d49f785f0a7530cd", func := "loop.example/purser/laws.FnNextBoth", spec := "fnNextBoth", apart := false, narrowed := true }
def FnNextBothUptoSaid : Prop := fnNextBothUptoRow.holds Try.pinned (OpenSpec.upto fnNextBothSpec)

/-- 'laws.FnNextNum', WHERE WHAT IT READS IS OF BULK AT MOST 1048576: true; the input reads as it did. -/
def fnNextNumUptoRow : OpenClaim := { program := "ytneaceieaafjdaa", sum := "371b877332726d9fcf84a1b10c2ab690e56a78854b9e5ac9d49f785f0a7530cd", func := "loop.example/purser/laws.FnNextNum", spec := "fnNextNum", apart := false, narrowed := true }
def FnNextNumUptoSaid : Prop := fnNextNumUptoRow.holds Try.pinned (OpenSpec.upto fnNextNumSpec)

/-- 'laws.FnRootLess', WHERE WHAT IT READS IS OF BULK AT MOST 1048576: true; the input reads as it did. -/
def fnRootLessUptoRow : OpenClaim := { program := "ytneaceieaafjdaa", sum := "371b877332726d9fcf84a1b10c2ab690e56a78854b9e5ac9d49f785f0a7530cd", func := "loop.example/purser/laws.FnRootLess", spec := "fnRootLess", apart := false, narrowed := true }
def FnRootLessUptoSaid : Prop := fnRootLessUptoRow.holds Try.pinned (OpenSpec.upto fnRootLessSpec)

/-- 'laws.FnRootSame', WHERE WHAT IT READS IS OF BULK AT MOST 1048576: true; the input reads as it did. -/
def fnRootSameUptoRow : OpenClaim := { program := "ytneaceieaafjdaa", sum := "371b877332726d9fcf84a1b10c2ab690e56a78854b9e5ac9d49f785f0a7530cd", func := "loop.example/purser/laws.FnRootSame", spec := "fnRootSame", apart := false, narrowed := true }
def FnRootSameUptoSaid : Prop := fnRootSameUptoRow.holds Try.pinned (OpenSpec.upto fnRootSameSpec)

/-- 'laws.FnKeysAll', WHERE WHAT IT READS IS OF BULK AT MOST 1048576: true; the input reads as it did. -/
def fnKeysAllUptoRow : OpenClaim := { program := "ytneaceieaafjdaa", sum := "371b877332726d9fcf84a1b10c2ab690e56a78854b9e5ac9d49f785f0a7530cd", func := "loop.example/purser/laws.FnKeysAll", spec := "fnKeysAll", apart := false, narrowed := true }
def FnKeysAllUptoSaid : Prop := fnKeysAllUptoRow.holds Try.pinned (OpenSpec.upto fnKeysAllSpec)

/-- 'laws.FnExactKeysOk', WHERE WHAT IT READS IS OF BULK AT MOST 1048576: true; the input reads as it did. -/
def fnExactKeysOkUptoRow : OpenClaim := { program := "ytneaceieaafjdaa", sum := "371b877332726d9fcf84a1b10c2ab690e56a78854b9e5ac9d49f785f0a7530cd", func := "loop.example/purser/laws.FnExactKeysOk", spec := "fnExactKeysOk", apart := false, narrowed := true }
def FnExactKeysOkUptoSaid : Prop := fnExactKeysOkUptoRow.holds Try.pinned (OpenSpec.upto fnExactKeysOkSpec)

/-- 'laws.FnExactKeysBoth', WHERE WHAT IT READS IS OF BULK AT MOST 1048576: true; the input reads as it did. -/
def fnExactKeysBothUptoRow : OpenClaim := { program := "ytneaceieaafjdaa", sum := "371b877332726d9fcf84a1b10c2ab690e56a78854b9e5ac9d49f785f0a7530cd", func := "loop.example/purser/laws.FnExactKeysBoth", spec := "fnExactKeysBoth", apart := false, narrowed := true }
def FnExactKeysBothUptoSaid : Prop := fnExactKeysBothUptoRow.holds Try.pinned (OpenSpec.upto fnExactKeysBothSpec)

/-- 'laws.FnExactRootOk', WHERE WHAT IT READS IS OF BULK AT MOST 1048576: true; the input reads as it did. -/
def fnExactRootOkUptoRow : OpenClaim := { program := "ytneaceieaafjdaa", sum := "371b877332726d9fcf84a1b10c2ab690e56a78854b9e5ac9d49f785f0a7530cd", func := "loop.example/purser/laws.FnExactRootOk", spec := "fnExactRootOk", apart := false, narrowed := true }
def FnExactRootOkUptoSaid : Prop := fnExactRootOkUptoRow.holds Try.pinned (OpenSpec.upto fnExactRootOkSpec)

/-- 'laws.FnExactRootSigned', WHERE WHAT IT READS IS OF BULK AT MOST 1048576: true; the input reads as it did. -/
def fnExactRootSignedUptoRow : OpenClaim := { program := "ytneaceieaafjdaa", sum := "371b877332726d9fcf84a1b10c2ab690e56a78854b9e5ac9d49f785f0a7530cd", func := "loop.example/purser/laws.FnExactRootSigned", spec := "fnExactRootSigned", apart := false, narrowed := true }
def FnExactRootSignedUptoSaid : Prop := fnExactRootSignedUptoRow.holds Try.pinned (OpenSpec.upto fnExactRootSignedSpec)

/-- 'laws.FnExactRootNext', WHERE WHAT IT READS IS OF BULK AT MOST 1048576: true; the input reads as it did. -/
def fnExactRootNextUptoRow : OpenClaim := { program := "ytneaceieaafjdaa", sum := "371b877332726d9fcf84a1b10c2ab690e56a78854b9e5ac9d49f785f0a7530cd", func := "loop.example/purser/laws.FnExactRootNext", spec := "fnExactRootNext", apart := false, narrowed := true }
def FnExactRootNextUptoSaid : Prop := fnExactRootNextUptoRow.holds Try.pinned (OpenSpec.upto fnExactRootNextSpec)

end Rows
end Go.Proofs.Ytneaceieaafjdaa
