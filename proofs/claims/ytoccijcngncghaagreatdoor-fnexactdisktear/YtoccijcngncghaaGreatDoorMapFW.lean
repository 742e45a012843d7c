import Derived.Test.YtoccijcngncghaaGreatDoorMix3
import Derived.Maps.OwnSet
import Derived.Maps.OwnOps
import Derived.Maps.Views
/- A map of the call's own, from numbers to functions: what it holds at each number (V), read and written at the operation. -/
namespace Go.Proofs.YtoccijcngncghaaGreatDoor
set_option maxRecDepth 100000
open Go.RowKit Go.Maps

def heldF (v : Value) : Option (DataW Value × List MemPlace) := some (.held v, [])
def nilF : Value := .nilFunc
/-- Block b is a map of at most n entries; it holds V i at the number i, nil where there is none. -/
def MapF (w : World) (b n : Nat) (V : Int → Value) : Prop :=
  ∃ D : DataW Value, w.ownsMap Tryz.prog 3 heldF b n D ∧ ∀ i : Int, D.atKey (.int .i64 i) (.held nilF) = .held (V i)
theorem keyIF : Keyed Tryz.prog 3 := int_keyed Tryz.underlying3
theorem MapF.made (w : World) : MapF (w.alloc (.map #[] 0)) w.heap.size 0 (fun _ => nilF) :=
  ⟨.map [], World.ownsMap_made _ _ _ _, fun _ => rfl⟩
theorem MapF.keep {w w' : World} {b n : Nat} {V : Int → Value} (h : MapF w b n V) (hb : w'.heap[b]? = w.heap[b]?) : MapF w' b n V := by
  obtain ⟨D, ⟨es, clock, h1, h2⟩, h3⟩ := h
  exact ⟨D, ⟨es, clock, by rw [hb]; exact h1, h2⟩, h3⟩
theorem MapF.lt {w : World} {b n : Nat} {V : Int → Value} (h : MapF w b n V) : b < w.heap.size := by
  obtain ⟨D, h1, h3⟩ := h
  exact World.ownsMap.lt h1
theorem MapF.later {w w' : World} {b n : Nat} {V : Int → Value} (h : MapF w b n V) (hb : Below w.heap.size w w') : MapF w' b n V := h.keep (hb.block _ h.lt)
theorem MapF.notCells {w : World} {b n : Nat} {V : Int → Value} (h : MapF w b n V) {c : Array Value} {t : TypeId} {f : Nat × Nat} : w.heap[b]? ≠ some (.cells c t f) := by
  obtain ⟨D, ⟨es, clock, h1, _⟩, _⟩ := h
  rw [h1]
  intro e
  cases e
theorem keyOfIF {i : Int} (h0 : -9223372036854775808 ≤ i) (h1 : i ≤ 9223372036854775807) : keyOf Tryz.prog 3 (.int .i64 i) = some (.int .i64 i) := keyOf_int_mk Tryz.underlying3 (WalkArith.wf_i64 (by omega))
/-- What is held at a number. -/
theorem MapF.look {w : World} {b n : Nat} {V : Int → Value} {t e : TypeId} {i : Int} (h : MapF w b n V) (ht : Tryz.prog.underlying t = some (.map 3 e)) (hz : (zeroValue e).run Tryz.prog w = .ok nilF w) (h0 : -9223372036854775808 ≤ i) (h1 : i ≤ 9223372036854775807) :
    (Instr.lookup t (.map (some b)) (.int .i64 i) false).run Tryz.prog w = .ok (V i) w := by
  obtain ⟨D, ho, hV⟩ := h
  obtain ⟨v, ps, hr, hv⟩ := ho.lookup keyIF ht hz (zd := .held nilF) (zp := []) rfl (keyOfIF h0 h1)
  rw [hV] at hv
  unfold heldF at hv
  injection hv with hv
  injection hv with hv _
  injection hv with hv
  rw [hr, hv]
theorem MapF.put {w : World} {b n : Nat} {V : Int → Value} {t e : TypeId} {i : Int} {v : Value} (h : MapF w b n V) (ht : Tryz.prog.underlying t = some (.map 3 e)) (hn : n < maxLen) (h0 : -9223372036854775808 ≤ i) (h1 : i ≤ 9223372036854775807) :
    ∃ w', (Instr.mapUpdate t (.map (some b)) (.int .i64 i) v).run Tryz.prog w = .ok () w' ∧ MapF w' b (n + 1) (fun j => if j = i then v else V j) ∧ w.grownBy w' (some b) := by
  obtain ⟨D, ho, hV⟩ := h
  obtain ⟨w', hr, ho', ht'⟩ := ho.store (val := v) keyIF ht hn (keyOfIF h0 h1) rfl
  refine ⟨w', hr, ⟨_, ho', fun j => ?_⟩, ht'.grown⟩
  show _ = DataW.held (if j = i then v else V j)
  by_cases hj : j = i
  · subst hj
    rw [if_pos rfl]
    exact atKey_put_same (k := .int .i64 j) (World.ownsMap.isMap ho) (show WideAt.IsKeyLit (.int .i64 j) from trivial) _ _
  · rw [if_neg hj, atKey_put_other (by intro e; injection e with _ e; exact hj e)]
    exact hV j
theorem wpList_lookF (w : World) {ops : Array Oper} {rest : List Oper} {o : Oper} {a : Act} {Q : Exit → Act → World → Prop}
    (hg : o.guard = none) (m x : Operand) (t : TypeId) (hop : o.op = Op.lookup t m x false) (e : TypeId) (ht : Tryz.prog.underlying t = some (.map 3 e)) (hz : (zeroValue e).run Tryz.prog w = .ok nilF w) (b n : Nat) (V : Int → Value)
    (hm : a.eval m = .map (some b)) (h : MapF w b n V) (i : Int) (hx : a.eval x = .int .i64 i) (h0 : -9223372036854775808 ≤ i) (h1 : i ≤ 9223372036854775807)
    (hK : wpList Tryz.prog ops Q rest (a.put o.dst (V i)) w) : wpList Tryz.prog ops Q (o :: rest) a w := by
  refine wpList_plain hg fun K' hK' => ?_
  have hrun := h.look ht hz h0 h1
  unfold Oper.wp
  simp [execOp, hop, hm, hx, hrun, Result.andThen]
  exact hK' _ _ hK
theorem wp_putF (w : World) {o : Oper} {a : Act} {K : Act → World → Prop} {Q : Exit → Act → World → Prop}
    (m x y : Operand) (t : TypeId) (hop : o.op = Op.insert t m x y) (e : TypeId) (ht : Tryz.prog.underlying t = some (.map 3 e)) (b n : Nat) (V : Int → Value)
    (hm : a.eval m = .map (some b)) (h : MapF w b n V) (hn : n < maxLen) (i : Int) (hx : a.eval x = .int .i64 i) (v : Value) (hy : a.eval y = v) (h0 : -9223372036854775808 ≤ i) (h1 : i ≤ 9223372036854775807)
    (hK : ∀ w', MapF w' b (n + 1) (fun j => if j = i then v else V j) → w.grownBy w' (some b) → K (a.put o.dst undef) w') : o.wp Tryz.prog a w K Q := by
  obtain ⟨w', hrun, r1, r2⟩ := h.put (v := v) ht hn h0 h1
  unfold Oper.wp
  simp [execOp, hop, hm, hx, hy, hrun, Result.andThen]
  exact hK w' r1 r2
theorem run_lookF {w : World} {o : Oper} {a : Act} (m x : Operand) (t : TypeId) (hop : o.op = Op.lookup t m x false) (e : TypeId) (ht : Tryz.prog.underlying t = some (.map 3 e)) (hz : (zeroValue e).run Tryz.prog w = .ok nilF w) (b n : Nat) (V : Int → Value)
    (hm : a.eval m = .map (some b)) (h : MapF w b n V) (i : Int) (hx : a.eval x = .int .i64 i) (h0 : -9223372036854775808 ≤ i) (h1 : i ≤ 9223372036854775807) : (execOp a.eval o).run Tryz.prog w = .ok (.value (V i)) w := by
  have hrun := h.look ht hz h0 h1
  simp [execOp, hop, hm, hx, hrun, Result.andThen]
end Go.Proofs.YtoccijcngncghaaGreatDoor
