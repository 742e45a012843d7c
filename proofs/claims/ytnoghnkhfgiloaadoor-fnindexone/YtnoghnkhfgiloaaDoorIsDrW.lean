/- The state of a function that draws an index. -/
import Derived.Test.YtnoghnkhfgiloaaDoorDrW
namespace Go.Proofs.YtnoghnkhfgiloaaDoor
open Go.RowKit

/-- The state of a function that draws an index: the answer's box, the index's box, its row. -/
structure Is (B : Nat) (W : World) (blk : Nat) (w : World) (p R X : Nat) (num til : Int) (mv : Value) (ms : List Ix.M) : Prop where
  dr : Dr B W blk w p
  hX : w.heap[X]? = some (.cells #[.int .i64 num, .int .i64 til, mv] 25 (0, 0))
  hR : w.heap[R]? = some (.cells #[.int .i64 0, .int .i64 0, .slice none 0 0] 25 (0, 0))
  lX : W.heap.size ≤ X
  lR : W.heap.size ≤ R
  ne : R ≠ X
  own : w.ownsRow W.heap.size 45 3 mv ms.length (flat3 ms)
section
variable {B : Nat} {W w w' : World} {blk p p' R X : Nat} {num til : Int} {mv : Value} {ms : List Ix.M}
theorem Is.keep (h : Is B W blk w p R X num til mv ms) (hk : Kp w.heap.size blk w w') (hr : Rd B w' blk p') : Is B W blk w' p' R X num til mv ms :=
  ⟨h.dr.keep hk hr, h.dr.box hk h.lX h.hX, h.dr.box hk h.lR h.hR, h.lX, h.lR, h.ne, h.dr.row hk h.own⟩
theorem Is.later (h : Is B W blk w p R X num til mv ms) (hb : Below w.heap.size w w') : Is B W blk w' p R X num til mv ms := h.keep (Kp.of_below hb) (h.dr.later hb).rd
theorem Is.setNum (h : Is B W blk w p R X num til mv ms) (a : Int) : Is B W blk (w.setCell ⟨X, 0, none⟩ (.int .i64 a)) p R X a til mv ms :=
  ⟨h.dr.set h.lX, by rw [heapSet h.hX]; rfl, box_set h.hR h.ne, h.lX, h.lR, h.ne, own_set h.own h.hX (by decide)⟩
theorem Is.setTil (h : Is B W blk w p R X num til mv ms) (a : Int) : Is B W blk (w.setCell ⟨X, 1, none⟩ (.int .i64 a)) p R X num a mv ms :=
  ⟨h.dr.set h.lX, by rw [heapSet h.hX]; rfl, box_set h.hR h.ne, h.lX, h.lR, h.ne, own_set h.own h.hX (by decide)⟩
theorem Is.app {w2 : World} {g cap : Nat} {x : Ix.M} (h : Is B W blk w p R X num til mv ms) (hg : w.grownBy w2 mv.ownBlock)
    (ho : w2.ownsRow W.heap.size 45 3 (.slice (some ⟨g, 0, none⟩) (ms.length + 1) cap) (ms.length + 1) (flat3 ms ++ [.int .i64 x.1, .int .i64 x.2.1, .int .i64 x.2.2])) :
    Is B W blk (w2.setCell ⟨X, 2, none⟩ (.slice (some ⟨g, 0, none⟩) (ms.length + 1) cap)) p R X num til (.slice (some ⟨g, 0, none⟩) (ms.length + 1) cap) (ms ++ [x]) := by
  have hX2 := (grown_other h.own hg h.hX (by decide)).trans h.hX
  have hR2 := (grown_other h.own hg h.hR (by decide)).trans h.hR
  refine ⟨(h.dr.grown h.own hg).set h.lX, by rw [heapSet hX2]; rfl, box_set hR2 h.ne, h.lX, h.lR, h.ne, ?_⟩
  rw [flat3_snoc, List.length_append]
  exact own_set ho hX2 (by decide)
theorem Is.cells (h : Is B W blk w p R X num til mv ms) : (w.cell? ⟨X, 0, none⟩ = some (.int .i64 num) ∧ w.cell? ⟨X, 1, none⟩ = some (.int .i64 til) ∧ w.cell? ⟨X, 2, none⟩ = some mv) ∧ (w.frozen? ⟨X, 0, none⟩ = false ∧ w.frozen? ⟨X, 1, none⟩ = false ∧ w.frozen? ⟨X, 2, none⟩ = false) :=
  ⟨⟨cellOf h.hX 0, cellOf h.hX 1, cellOf h.hX 2⟩, ⟨frozenOf h.hX 0, frozenOf h.hX 1, frozenOf h.hX 2⟩⟩
theorem Is.cellsR (h : Is B W blk w p R X num til mv ms) : (w.cell? ⟨R, 0, none⟩ = some (.int .i64 0) ∧ w.cell? ⟨R, 1, none⟩ = some (.int .i64 0) ∧ w.cell? ⟨R, 2, none⟩ = some (.slice none 0 0)) ∧ (w.frozen? ⟨R, 0, none⟩ = false ∧ w.frozen? ⟨R, 1, none⟩ = false ∧ w.frozen? ⟨R, 2, none⟩ = false) :=
  ⟨⟨cellOf h.hR 0, cellOf h.hR 1, cellOf h.hR 2⟩, ⟨frozenOf h.hR 0, frozenOf h.hR 1, frozenOf h.hR 2⟩⟩
/-- The answer is laid into its box. -/
theorem Is.fin (h : Is B W blk w p R X num til mv ms) (hw : w' = ((w.setCell ⟨R, 0, none⟩ (.int .i64 num)).setCell ⟨R, 1, none⟩ (.int .i64 til)).setCell ⟨R, 2, none⟩ mv) :
    (w'.cell? ⟨R, 0, none⟩ = some (.int .i64 num) ∧ w'.cell? ⟨R, 1, none⟩ = some (.int .i64 til) ∧ w'.cell? ⟨R, 2, none⟩ = some mv) ∧ Dr B W blk w' p ∧ w'.ownsRow W.heap.size 45 3 mv ms.length (flat3 ms) := by
  have h' : w'.heap[R]? = some (.cells #[.int .i64 num, .int .i64 til, mv] 25 (0, 0)) := by rw [hw, heapSet (heapSet (heapSet h.hR))]; rfl
  refine ⟨⟨cellOf h' 0, cellOf h' 1, cellOf h' 2⟩, by rw [hw]; exact ((h.dr.set h.lR).set h.lR).set h.lR, ?_⟩
  rw [hw]
  have h1 := own_set (u := .int .i64 num) (o := 0) h.own h.hR (by decide)
  have h2 := own_set (u := .int .i64 til) (o := 1) h1 (heapSet h.hR) (by decide)
  exact own_set (u := mv) (o := 2) h2 (heapSet (heapSet h.hR)) (by decide)
end
end Go.Proofs.YtnoghnkhfgiloaaDoor
