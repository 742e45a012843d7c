import Derived.RangeFuncNested
import Derived.RangeFuncBound
import Derived.RangeFuncCalls
import Derived.RangeFuncLeaves
import Derived.Shelf.Abstract
import Derived.Shelf.RegionOpen
import Derived.WalkKit
import Derived.OwnWalkIn
import Derived.TacticsInMore
import Derived.LoopNIn
import Derived.LoopIn
import Derived.Test.YtoccijcngncghaaGreatDoorMix1
import Derived.Test.YtoccijcngncghaaGreatDoorMathW
/- What impl.metasOf and its iterator do: the metas of an index, one behind the other; for every index. -/
namespace Go.Proofs.YtoccijcngncghaaGreatDoor
open Go.RowKit Go.Shelf

attribute [local go_sem] Oper.semAt_some

/-- A slice of metas that can be read. -/
def Trs (w : World) (v : Value) (l : List Ix.M) : Prop :=
  ∃ a cap, v = .slice a l.length cap ∧ l.length ≤ 1000000000000 ∧ (0 < l.length → ∃ b off, a = some ⟨b, off, none⟩ ∧ b < w.heap.size ∧ ∀ i, i < l.length → w.cell? ⟨b, off + i * 3, none⟩ = some (.int .i64 (Ix.nm l i)) ∧ w.cell? ⟨b, off + i * 3 + 1, none⟩ = some (.int .i64 (Ix.vr l i)) ∧ w.cell? ⟨b, off + i * 3 + 2, none⟩ = some (.int .i64 (Ix.sm l i)))
theorem Trs.later {w w' : World} {v : Value} {l : List Ix.M} (h : Trs w v l) (hb : Below w.heap.size w w') : Trs w' v l := by
  obtain ⟨a, cap, hv, hl, hr⟩ := h
  refine ⟨a, cap, hv, hl, fun hp => ?_⟩
  obtain ⟨b, off, ha, hbs, hc⟩ := hr hp
  exact ⟨b, off, ha, Nat.lt_of_lt_of_le hbs hb.size, fun i hi => by rw [hb.cell hbs, hb.cell hbs, hb.cell hbs]; exact hc i hi⟩
theorem Trs.slice {w : World} {v : Value} {l : List Ix.M} (h : Trs w v l) : ∃ a cap, v = .slice a l.length cap := by
  obtain ⟨a, cap, hv, _⟩ := h
  exact ⟨a, cap, hv⟩

theorem lift_list {p : Ix.M → Prop} : ∀ zs : List Ix.M, (∀ x ∈ zs, p x) → ∃ zp : List { x : Ix.M // p x }, zp.map (fun x => x.1) = zs
  | [], _ => ⟨[], rfl⟩
  | a :: t, h => by
    obtain ⟨zp, e⟩ := lift_list t (fun x hx => h x (by simp [hx]))
    exact ⟨⟨a, h a (by simp)⟩ :: zp, by simp [e]⟩
/-- A block that is cells is kept. -/
theorem blk_own {β : Type} (B : Nat) (t : TypeId) (f : β → Array Value) : Own (fun s W => W.heap[B]? = some (.cells (f s) t (0, 0))) := fun s X Y row hs hg hrow =>
  (hg.block B (Array.getElem?_eq_some_iff.1 hs).1 (fun e' => by obtain ⟨_, ho, hc⟩ := hrow B e'.symm; rw [hs] at ho; cases ho; cases hc)).trans hs
theorem keeps_below {W W' : World} (h : Below W.heap.size W W') : KeepsOthers W W' := ⟨h.size, fun k _ hk _ => (h.block k (Array.getElem?_eq_some_iff.1 hk).1).trans hk⟩
end Go.Proofs.YtoccijcngncghaaGreatDoor

/- What spec.IndexOk and spec.l3Less return: whether the index is ok; for every index; nothing old is written. -/
namespace Go.Proofs.YtoccijcngncghaaGreatDoor
open Go.RowKit

set_option maxHeartbeats 2000000 in
theorem l3Less_any (n v m u : Int) (w : World) : Calls Tryz.prog 120 #[.int .i64 n, .int .i64 v, .int .i64 m, .int .i64 u] w fun e w' => e = .returned (.bool (Ix.less n v m u)) ∧ w' = w := by
  by_cases h1 : n < m
  · go_enter Tryz.func120, Tryz.ntmps120
    go_wp2
    go_ret
    exact ⟨by simp [Ix.less, h1], rfl⟩
  · have h1' : decide (n < m) = false := by simpa using h1
    by_cases h2 : n = m
    · have h2' : (n == m) = true := by simpa using h2
      have HE := hide h2
      clear h2
      go_enter Tryz.func120, Tryz.ntmps120
      go_wp2
      go_ret
      exact ⟨by have := unhide HE; subst this; simp [Ix.less], rfl⟩
    · have h2' : (n == m) = false := by simpa using h2
      go_enter Tryz.func120, Tryz.ntmps120
      go_wp2
      go_ret
      exact ⟨by simp [Ix.less, h1, h2], rfl⟩

end Go.Proofs.YtoccijcngncghaaGreatDoor

/- Laws on regions that draw their order and only read, whose callees leave what was there: one walk in the order of the text, a step at a time, guards decided. -/
namespace Go.Proofs.YtoccijcngncghaaGreatDoor
open Go.RowKit
/-- The walk of what is left of a region, shut (so that nobody unfolds it). -/
structure WQ (P : Program) (ops : Array Oper) (C : World → Prop) (Q : Act → Prop) (l : List Oper) (a : Act) : Prop where
  out : wpQuiet P ops C Q l a
section
variable {P : Program} {ops : Array Oper} {C : World → Prop} {Q : Act → Prop} {a : Act} {o : Oper} {rest : List Oper}
theorem wq_take {v : Value} {d : Option Tmp} (hd : o.dst = d) (hw : Region.wanted o (yielded ops a.tmps) = true) (hy : ∀ w, C w → (execOp a.eval o).run P w = .ok (.value v) w)
    (h : WQ P ops C Q rest (a.put d v)) : WQ P ops C Q (o :: rest) a := by
  refine ⟨?_⟩
  unfold wpQuiet
  rw [if_pos hw]
  exact ⟨v, fun w hC => by unfold Oper.quietAt; rw [hy w hC]; exact ⟨rfl, rfl⟩, by rw [hd]; exact h.out⟩
theorem wq_skip {d : Option Tmp} (hd : o.dst = d) (hw : Region.wanted o (yielded ops a.tmps) = false) (h : WQ P ops C Q rest (a.put d undef)) : WQ P ops C Q (o :: rest) a := by
  refine ⟨?_⟩
  unfold wpQuiet
  rw [if_neg (by rw [hw]; exact Bool.false_ne_true), hd]
  exact h.out
theorem wq_call {v : Value} {d : Option Tmp} {f : FuncId} {args : Array Value} (hd : o.dst = d) (hw : Region.wanted o (yielded ops a.tmps) = true) (hy : ∀ w, C w → (execOp a.eval o).run P w = .ok (.enter f args) w)
    (hc : ∀ w, C w → Calls P f args w fun e w' => e = .returned v ∧ C w') (h : WQ P ops C Q rest (a.put d v)) : WQ P ops C Q (o :: rest) a := by
  refine ⟨?_⟩
  unfold wpQuiet
  rw [if_pos hw]
  exact ⟨v, fun w hC => by unfold Oper.quietAt; rw [hy w hC]; exact ⟨rfl, hc w hC⟩, by rw [hd]; exact h.out⟩
theorem run_move {i : Nat} {v : Value} (ho : o.op = .move (.tmp i)) (hv : a.tmps[i]? = some v) (w : World) : (execOp a.eval o).run P w = .ok (.value v) w := by
  obtain ⟨d, op, t, p, af, g⟩ := o
  dsimp only at ho
  subst ho
  simp [execOp, hv, go_sem]
theorem wq_move {i : Nat} {v : Value} {d : Option Tmp} (ho : o.op = .move (.tmp i)) (hd : o.dst = d) (hw : Region.wanted o (yielded ops a.tmps) = true) (hv : a.tmps[i]? = some v)
    (h : WQ P ops C Q rest (a.put d v)) : WQ P ops C Q (o :: rest) a := wq_take hd hw (fun w _ => run_move ho hv w) h
theorem wq_nil (h : Q a) : WQ P ops C Q [] a := ⟨h⟩
theorem wq_region {id : Nat} {Q : Exit → Act → World → Prop} {a : Act} {w : World} {l : List Oper} (hm : P.follows .mixedOrders = true) (hB : Region.lexB .any l.toArray = true)
    (h : WQ P l.toArray (fun w' => Below w.heap.size w w') (fun a' => ∀ w', Below w.heap.size w w' → Q .normal a' w') l a) : (Code.region id l.toArray true).wp P Q a w :=
  wp_region_quiet (C := fun w' => Below w.heap.size w w') hm hB (below_drew w) (by simpa using h.out)
end
end Go.Proofs.YtoccijcngncghaaGreatDoor
