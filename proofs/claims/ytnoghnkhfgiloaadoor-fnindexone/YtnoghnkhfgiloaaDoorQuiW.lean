/- Laws on regions that draw their order and only read, whose callees leave what was there: one walk in the order of the text, a step at a time, guards decided. -/
import Derived.Test.YtnoghnkhfgiloaaDoorBaseW
namespace Go.Proofs.YtnoghnkhfgiloaaDoor
open Go.RowKit
/-- The walk of what is left of a region, shut (so that nobody unfolds it). -/
structure WQ (P : Program) (ops : Array Oper) (C : World → Prop) (Q : Act → Prop) (l : List Oper) (a : Act) : Prop where
  out : wpQuiet P ops C Q l a
section
variable {P : Program} {ops : Array Oper} {C : World → Prop} {Q : Act → Prop} {a : Act} {o : Oper} {rest : List Oper}
theorem wq_take {v : Value} {d : Option Tmp} (hd : o.dst = d) (hw : Region.wanted o (yielded ops a.tmps) = true) (hy : ∀ w, C w → (execOp a.eval o).run P w = .ok (.value v) w)
    (h : WQ P ops C Q rest (a.put d v)) : WQ P ops C Q (o :: rest) a := by
  refine ⟨?_⟩
  unfold wpQuiet
  rw [if_pos hw]
  exact ⟨v, fun w hC => by unfold Oper.quietAt; rw [hy w hC]; exact ⟨rfl, rfl⟩, by rw [hd]; exact h.out⟩
theorem wq_skip {d : Option Tmp} (hd : o.dst = d) (hw : Region.wanted o (yielded ops a.tmps) = false) (h : WQ P ops C Q rest (a.put d undef)) : WQ P ops C Q (o :: rest) a := by
  refine ⟨?_⟩
  unfold wpQuiet
  rw [if_neg (by rw [hw]; exact Bool.false_ne_true), hd]
  exact h.out
theorem wq_call {v : Value} {d : Option Tmp} {f : FuncId} {args : Array Value} (hd : o.dst = d) (hw : Region.wanted o (yielded ops a.tmps) = true) (hy : ∀ w, C w → (execOp a.eval o).run P w = .ok (.enter f args) w)
    (hc : ∀ w, C w → Calls P f args w fun e w' => e = .returned v ∧ C w') (h : WQ P ops C Q rest (a.put d v)) : WQ P ops C Q (o :: rest) a := by
  refine ⟨?_⟩
  unfold wpQuiet
  rw [if_pos hw]
  exact ⟨v, fun w hC => by unfold Oper.quietAt; rw [hy w hC]; exact ⟨rfl, hc w hC⟩, by rw [hd]; exact h.out⟩
theorem run_move {i : Nat} {v : Value} (ho : o.op = .move (.tmp i)) (hv : a.tmps[i]? = some v) (w : World) : (execOp a.eval o).run P w = .ok (.value v) w := by
  obtain ⟨d, op, t, p, af, g⟩ := o
  dsimp only at ho
  subst ho
  simp [execOp, hv, go_sem]
theorem wq_move {i : Nat} {v : Value} {d : Option Tmp} (ho : o.op = .move (.tmp i)) (hd : o.dst = d) (hw : Region.wanted o (yielded ops a.tmps) = true) (hv : a.tmps[i]? = some v)
    (h : WQ P ops C Q rest (a.put d v)) : WQ P ops C Q (o :: rest) a := wq_take hd hw (fun w _ => run_move ho hv w) h
theorem wq_nil (h : Q a) : WQ P ops C Q [] a := ⟨h⟩
theorem wq_region {id : Nat} {Q : Exit → Act → World → Prop} {a : Act} {w : World} {l : List Oper} (hm : P.follows .mixedOrders = true) (hB : Region.lexB .any l.toArray = true)
    (h : WQ P l.toArray (fun w' => Below w.heap.size w w') (fun a' => ∀ w', Below w.heap.size w w' → Q .normal a' w') l a) : (Code.region id l.toArray true).wp P Q a w :=
  wp_region_quiet (C := fun w' => Below w.heap.size w w') hm hB (below_drew w) (by simpa using h.out)
end
end Go.Proofs.YtnoghnkhfgiloaaDoor
