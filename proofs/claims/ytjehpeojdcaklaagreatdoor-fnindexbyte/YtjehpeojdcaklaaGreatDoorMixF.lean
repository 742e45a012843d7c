import Derived.Test.YtjehpeojdcaklaaGreatDoorPkgsDrawW
/- The state of a function that draws: the reader, and what stays of boxes and rows where it goes on, where a box is written, where a row grows. -/
namespace Go.Proofs.YtjehpeojdcaklaaGreatDoor
open Go.RowKit

structure Dr (B : Nat) (W : World) (blk : Nat) (w : World) (p : Nat) : Prop where
  rd : Rd B w blk p
  lB : B ≤ W.heap.size
  lt : blk < W.heap.size
  kp : Kp W.heap.size blk W w
section
variable {B : Nat} {W w w' : World} {blk p p' X o : Nat} {u : Value}
theorem Dr.keep (h : Dr B W blk w p) (hk : Kp w.heap.size blk w w') (hr : Rd B w' blk p') : Dr B W blk w' p' := ⟨hr, h.lB, h.lt, h.kp.trans hk h.kp.size⟩
theorem Dr.later (h : Dr B W blk w p) (hb : Below w.heap.size w w') : Dr B W blk w' p := h.keep (Kp.of_below hb) (h.rd.later (Nat.le_trans h.lB h.kp.size) hb)
theorem Dr.start (h : Rd B w blk p) (hB : B ≤ w.heap.size) : Dr B w blk w p := ⟨h, hB, h.lt, Kp.refl _ _ _⟩
theorem Dr.size (h : Dr B W blk w p) : W.heap.size ≤ w.heap.size := h.kp.size
theorem Dr.set (h : Dr B W blk w p) (hX : W.heap.size ≤ X) : Dr B W blk (w.setCell ⟨X, o, none⟩ u) p := by
  have far : ∀ k, k ≠ X → (w.setCell ⟨X, o, none⟩ u).heap[k]? = w.heap[k]? := fun k hk => Below.heap_setCell _ _ _ _ hk
  have hlt := h.lt
  have hlB := h.lB
  exact ⟨h.rd.keep (fun k hk _ => far k (by omega)) (far blk (by omega)), h.lB, h.lt, ⟨h.kp.os, h.kp.tape, h.kp.output, by simp only [World.setCell, Array.size_modify]; exact h.kp.size, fun k hk hne => (far k (by omega)).trans (h.kp.block k hk hne)⟩⟩
theorem Dr.grown {sz n : Nat} {t : TypeId} {v : Value} {xs : List Value} (h : Dr B W blk w p) (ho : w.ownsRow W.heap.size t sz v n xs) (hg : w.grownBy w' v.ownBlock) : Dr B W blk w' p := by
  have hlt := h.lt
  have hlB := h.lB
  have hsz := h.kp.size
  have old : ∀ k, k < W.heap.size → w'.heap[k]? = w.heap[k]? := fun k hk => hg.block k (by omega) (fun e => by have := (own_row ho k e.symm).1; omega)
  exact ⟨h.rd.keep (fun k hk _ => old k (by omega)) (old blk hlt), h.lB, h.lt, ⟨hg.os.trans h.kp.os, hg.tape.trans h.kp.tape, hg.output.trans h.kp.output, Nat.le_trans hsz hg.size, fun k hk hne => (old k hk).trans (h.kp.block k hk hne)⟩⟩
theorem Dr.box {ob : Obj} (h : Dr B W blk w p) (hk : Kp w.heap.size blk w w') (hX : W.heap.size ≤ X) (hx : w.heap[X]? = some ob) : w'.heap[X]? = some ob := by
  have := h.lt
  rw [hk.block X (heapLt hx) (by omega)]
  exact hx
theorem Dr.row {sz n : Nat} {t : TypeId} {v : Value} {xs : List Value} (h : Dr B W blk w p) (hk : Kp w.heap.size blk w w') (ho : w.ownsRow W.heap.size t sz v n xs) : w'.ownsRow W.heap.size t sz v n xs := by
  have := h.lt
  exact own_keepS ho (fun g _ _ hb hg => hk.block g (heapLt hg) (by omega))
theorem own_base {B' sz n : Nat} {t : TypeId} {v : Value} {xs : List Value} (h : w.ownsRow B t sz v n xs) (hB : B' ≤ B) : w.ownsRow B' t sz v n xs := by
  refine ⟨h.1, ?_⟩
  rcases h.2 with hn | ⟨g, cap, cur, rfl, hb1, rest⟩
  · exact .inl hn
  · exact .inr ⟨g, cap, cur, rfl, Nat.le_trans hB hb1, rest⟩
/-- A store into one box leaves another one. -/
theorem box_set {ob : Obj} {Y : Nat} (h : w.heap[Y]? = some ob) (hne : Y ≠ X) : (w.setCell ⟨X, o, none⟩ u).heap[Y]? = some ob := by rw [Below.heap_setCell _ _ _ _ hne]; exact h
theorem kp_dr (h : Dr B W blk w p) : Kp W.heap.size blk W w := h.kp
end
end Go.Proofs.YtjehpeojdcaklaaGreatDoor

/- The state of a function that draws an index. -/
namespace Go.Proofs.YtjehpeojdcaklaaGreatDoor
open Go.RowKit

/-- The state of a function that draws an index: the answer's box, the index's box, its row. -/
structure Is (B : Nat) (W : World) (blk : Nat) (w : World) (p R X : Nat) (num til : Int) (mv : Value) (ms : List Ix.M) : Prop where
  dr : Dr B W blk w p
  hX : w.heap[X]? = some (.cells #[.int .i64 num, .int .i64 til, mv] 28 (0, 0))
  hR : w.heap[R]? = some (.cells #[.int .i64 0, .int .i64 0, .slice none 0 0] 28 (0, 0))
  lX : W.heap.size ≤ X
  lR : W.heap.size ≤ R
  ne : R ≠ X
  own : w.ownsRow W.heap.size 47 3 mv ms.length (flat3 ms)
section
variable {B : Nat} {W w w' : World} {blk p p' R X : Nat} {num til : Int} {mv : Value} {ms : List Ix.M}
theorem Is.keep (h : Is B W blk w p R X num til mv ms) (hk : Kp w.heap.size blk w w') (hr : Rd B w' blk p') : Is B W blk w' p' R X num til mv ms :=
  ⟨h.dr.keep hk hr, h.dr.box hk h.lX h.hX, h.dr.box hk h.lR h.hR, h.lX, h.lR, h.ne, h.dr.row hk h.own⟩
theorem Is.later (h : Is B W blk w p R X num til mv ms) (hb : Below w.heap.size w w') : Is B W blk w' p R X num til mv ms := h.keep (Kp.of_below hb) (h.dr.later hb).rd
theorem Is.setNum (h : Is B W blk w p R X num til mv ms) (a : Int) : Is B W blk (w.setCell ⟨X, 0, none⟩ (.int .i64 a)) p R X a til mv ms :=
  ⟨h.dr.set h.lX, by rw [heapSet h.hX]; rfl, box_set h.hR h.ne, h.lX, h.lR, h.ne, own_set h.own h.hX (by decide)⟩
theorem Is.setTil (h : Is B W blk w p R X num til mv ms) (a : Int) : Is B W blk (w.setCell ⟨X, 1, none⟩ (.int .i64 a)) p R X num a mv ms :=
  ⟨h.dr.set h.lX, by rw [heapSet h.hX]; rfl, box_set h.hR h.ne, h.lX, h.lR, h.ne, own_set h.own h.hX (by decide)⟩
theorem Is.app {w2 : World} {g cap : Nat} {x : Ix.M} (h : Is B W blk w p R X num til mv ms) (hg : w.grownBy w2 mv.ownBlock)
    (ho : w2.ownsRow W.heap.size 47 3 (.slice (some ⟨g, 0, none⟩) (ms.length + 1) cap) (ms.length + 1) (flat3 ms ++ [.int .i64 x.1, .int .i64 x.2.1, .int .i64 x.2.2])) :
    Is B W blk (w2.setCell ⟨X, 2, none⟩ (.slice (some ⟨g, 0, none⟩) (ms.length + 1) cap)) p R X num til (.slice (some ⟨g, 0, none⟩) (ms.length + 1) cap) (ms ++ [x]) := by
  have hX2 := (grown_other h.own hg h.hX (by decide)).trans h.hX
  have hR2 := (grown_other h.own hg h.hR (by decide)).trans h.hR
  refine ⟨(h.dr.grown h.own hg).set h.lX, by rw [heapSet hX2]; rfl, box_set hR2 h.ne, h.lX, h.lR, h.ne, ?_⟩
  rw [flat3_snoc, List.length_append]
  exact own_set ho hX2 (by decide)
theorem Is.cells (h : Is B W blk w p R X num til mv ms) : (w.cell? ⟨X, 0, none⟩ = some (.int .i64 num) ∧ w.cell? ⟨X, 1, none⟩ = some (.int .i64 til) ∧ w.cell? ⟨X, 2, none⟩ = some mv) ∧ (w.frozen? ⟨X, 0, none⟩ = false ∧ w.frozen? ⟨X, 1, none⟩ = false ∧ w.frozen? ⟨X, 2, none⟩ = false) :=
  ⟨⟨cellOf h.hX 0, cellOf h.hX 1, cellOf h.hX 2⟩, ⟨frozenOf h.hX 0, frozenOf h.hX 1, frozenOf h.hX 2⟩⟩
theorem Is.cellsR (h : Is B W blk w p R X num til mv ms) : (w.cell? ⟨R, 0, none⟩ = some (.int .i64 0) ∧ w.cell? ⟨R, 1, none⟩ = some (.int .i64 0) ∧ w.cell? ⟨R, 2, none⟩ = some (.slice none 0 0)) ∧ (w.frozen? ⟨R, 0, none⟩ = false ∧ w.frozen? ⟨R, 1, none⟩ = false ∧ w.frozen? ⟨R, 2, none⟩ = false) :=
  ⟨⟨cellOf h.hR 0, cellOf h.hR 1, cellOf h.hR 2⟩, ⟨frozenOf h.hR 0, frozenOf h.hR 1, frozenOf h.hR 2⟩⟩
/-- The answer is laid into its box. -/
theorem Is.fin (h : Is B W blk w p R X num til mv ms) (hw : w' = ((w.setCell ⟨R, 0, none⟩ (.int .i64 num)).setCell ⟨R, 1, none⟩ (.int .i64 til)).setCell ⟨R, 2, none⟩ mv) :
    (w'.cell? ⟨R, 0, none⟩ = some (.int .i64 num) ∧ w'.cell? ⟨R, 1, none⟩ = some (.int .i64 til) ∧ w'.cell? ⟨R, 2, none⟩ = some mv) ∧ Dr B W blk w' p ∧ w'.ownsRow W.heap.size 47 3 mv ms.length (flat3 ms) := by
  have h' : w'.heap[R]? = some (.cells #[.int .i64 num, .int .i64 til, mv] 28 (0, 0)) := by rw [hw, heapSet (heapSet (heapSet h.hR))]; rfl
  refine ⟨⟨cellOf h' 0, cellOf h' 1, cellOf h' 2⟩, by rw [hw]; exact ((h.dr.set h.lR).set h.lR).set h.lR, ?_⟩
  rw [hw]
  have h1 := own_set (u := .int .i64 num) (o := 0) h.own h.hR (by decide)
  have h2 := own_set (u := .int .i64 til) (o := 1) h1 (heapSet h.hR) (by decide)
  exact own_set (u := mv) (o := 2) h2 (heapSet (heapSet h.hR)) (by decide)
end
end Go.Proofs.YtjehpeojdcaklaaGreatDoor
