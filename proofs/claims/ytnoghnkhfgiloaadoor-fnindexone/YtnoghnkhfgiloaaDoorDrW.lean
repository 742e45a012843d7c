/- The state of a function that draws: the reader, and what stays of boxes and rows where it goes on, where a box is written, where a row grows. -/
import Derived.Test.YtnoghnkhfgiloaaDoorPkgsDrawW
namespace Go.Proofs.YtnoghnkhfgiloaaDoor
open Go.RowKit

structure Dr (B : Nat) (W : World) (blk : Nat) (w : World) (p : Nat) : Prop where
  rd : Rd B w blk p
  lB : B ≤ W.heap.size
  lt : blk < W.heap.size
  kp : Kp W.heap.size blk W w
section
variable {B : Nat} {W w w' : World} {blk p p' X o : Nat} {u : Value}
theorem Dr.keep (h : Dr B W blk w p) (hk : Kp w.heap.size blk w w') (hr : Rd B w' blk p') : Dr B W blk w' p' := ⟨hr, h.lB, h.lt, h.kp.trans hk h.kp.size⟩
theorem Dr.later (h : Dr B W blk w p) (hb : Below w.heap.size w w') : Dr B W blk w' p := h.keep (Kp.of_below hb) (h.rd.later (Nat.le_trans h.lB h.kp.size) hb)
theorem Dr.start (h : Rd B w blk p) (hB : B ≤ w.heap.size) : Dr B w blk w p := ⟨h, hB, h.lt, Kp.refl _ _ _⟩
theorem Dr.size (h : Dr B W blk w p) : W.heap.size ≤ w.heap.size := h.kp.size
theorem Dr.set (h : Dr B W blk w p) (hX : W.heap.size ≤ X) : Dr B W blk (w.setCell ⟨X, o, none⟩ u) p := by
  have far : ∀ k, k ≠ X → (w.setCell ⟨X, o, none⟩ u).heap[k]? = w.heap[k]? := fun k hk => Below.heap_setCell _ _ _ _ hk
  have hlt := h.lt
  have hlB := h.lB
  exact ⟨h.rd.keep (fun k hk _ => far k (by omega)) (far blk (by omega)), h.lB, h.lt, ⟨h.kp.os, h.kp.tape, h.kp.output, by simp only [World.setCell, Array.size_modify]; exact h.kp.size, fun k hk hne => (far k (by omega)).trans (h.kp.block k hk hne)⟩⟩
theorem Dr.grown {sz n : Nat} {t : TypeId} {v : Value} {xs : List Value} (h : Dr B W blk w p) (ho : w.ownsRow W.heap.size t sz v n xs) (hg : w.grownBy w' v.ownBlock) : Dr B W blk w' p := by
  have hlt := h.lt
  have hlB := h.lB
  have hsz := h.kp.size
  have old : ∀ k, k < W.heap.size → w'.heap[k]? = w.heap[k]? := fun k hk => hg.block k (by omega) (fun e => by have := (own_row ho k e.symm).1; omega)
  exact ⟨h.rd.keep (fun k hk _ => old k (by omega)) (old blk hlt), h.lB, h.lt, ⟨hg.os.trans h.kp.os, hg.tape.trans h.kp.tape, hg.output.trans h.kp.output, Nat.le_trans hsz hg.size, fun k hk hne => (old k hk).trans (h.kp.block k hk hne)⟩⟩
theorem Dr.box {ob : Obj} (h : Dr B W blk w p) (hk : Kp w.heap.size blk w w') (hX : W.heap.size ≤ X) (hx : w.heap[X]? = some ob) : w'.heap[X]? = some ob := by
  have := h.lt
  rw [hk.block X (heapLt hx) (by omega)]
  exact hx
theorem Dr.row {sz n : Nat} {t : TypeId} {v : Value} {xs : List Value} (h : Dr B W blk w p) (hk : Kp w.heap.size blk w w') (ho : w.ownsRow W.heap.size t sz v n xs) : w'.ownsRow W.heap.size t sz v n xs := by
  have := h.lt
  exact own_keepS ho (fun g _ _ hb hg => hk.block g (heapLt hg) (by omega))
theorem own_base {B' sz n : Nat} {t : TypeId} {v : Value} {xs : List Value} (h : w.ownsRow B t sz v n xs) (hB : B' ≤ B) : w.ownsRow B' t sz v n xs := by
  refine ⟨h.1, ?_⟩
  rcases h.2 with hn | ⟨g, cap, cur, rfl, hb1, rest⟩
  · exact .inl hn
  · exact .inr ⟨g, cap, cur, rfl, Nat.le_trans hB hb1, rest⟩
/-- A store into one box leaves another one. -/
theorem box_set {ob : Obj} {Y : Nat} (h : w.heap[Y]? = some ob) (hne : Y ≠ X) : (w.setCell ⟨X, o, none⟩ u).heap[Y]? = some ob := by rw [Below.heap_setCell _ _ _ _ hne]; exact h
theorem kp_dr (h : Dr B W blk w p) : Kp W.heap.size blk W w := h.kp
end
end Go.Proofs.YtnoghnkhfgiloaaDoor
