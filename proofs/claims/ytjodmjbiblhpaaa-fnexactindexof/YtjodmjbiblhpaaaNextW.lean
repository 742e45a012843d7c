/- What spec.RootNext and impl.RootNext return: whether a root may come behind another one; for all roots; nothing old is written. -/
import Derived.Test.YtjodmjbiblhpaaaRootW
namespace Go.Proofs.Ytjodmjbiblhpaaa
open Go.RowKit

/-- A signed root in a box, its keys, and those that sign. -/
structure Sx (w : World) (g : Nat) (n d : Int) (v vb : Value) (k by' : List Int) : Prop where
  lt : g < w.heap.size
  c0 : w.cell? ⟨g, 0, none⟩ = some (.int .i64 n)
  c1 : w.cell? ⟨g, 1, none⟩ = some v
  c2 : w.cell? ⟨g, 2, none⟩ = some (.int .i64 d)
  c3 : w.cell? ⟨g, 3, none⟩ = some vb
  ins : Ins w v k
  inb : Ins w vb by'
theorem Sx.later {w w' : World} {g : Nat} {n d : Int} {v vb : Value} {k by' : List Int} (h : Sx w g n d v vb k by') (hb : Below w.heap.size w w') : Sx w' g n d v vb k by' :=
  ⟨Nat.lt_of_lt_of_le h.lt hb.size, (hb.cell h.lt).trans h.c0, (hb.cell h.lt).trans h.c1, (hb.cell h.lt).trans h.c2, (hb.cell h.lt).trans h.c3, h.ins.later hb, h.inb.later hb⟩
theorem Sx.new {w : World} {n d : Int} {v vb : Value} {k by' : List Int} (h : Ins w v k) (hb : Ins w vb by') (t : TypeId) : Sx (w.alloc (.cells #[.int .i64 n, v, .int .i64 d, vb] t)) w.heap.size n d v vb k by' := by
  obtain ⟨z, x0, x1, x2, x3⟩ := box4i w (.int .i64 n) v (.int .i64 d) vb t
  exact ⟨by omega, x0, x1, x2, x3, h.later (below1 _ _), hb.later (below1 _ _)⟩

/-- Both boxes behind each other. -/
theorem two_boxes {w : World} {n d n2 d2 : Int} {v v2 vb : Value} {k k2 by' : List Int} (h : Ins w v k) (h2 : Ins w v2 k2) (hb : Ins w vb by') (t t2 : TypeId) :
    Bx ((w.alloc (.cells #[.int .i64 n, v, .int .i64 d] t)).alloc (.cells #[.int .i64 n2, v2, .int .i64 d2, vb] t2)) w.heap.size n d v k ∧ Sx ((w.alloc (.cells #[.int .i64 n, v, .int .i64 d] t)).alloc (.cells #[.int .i64 n2, v2, .int .i64 d2, vb] t2)) (w.heap.size + 1) n2 d2 v2 vb k2 by' ∧ Below w.heap.size w ((w.alloc (.cells #[.int .i64 n, v, .int .i64 d] t)).alloc (.cells #[.int .i64 n2, v2, .int .i64 d2, vb] t2)) := by
  have B1 := below1 w (.cells #[.int .i64 n, v, .int .i64 d] t)
  have X1 := Bx.new (n := n) (d := d) h t
  generalize hW : w.alloc (.cells #[.int .i64 n, v, .int .i64 d] t) = W at *
  have hz : W.heap.size = w.heap.size + 1 := by rw [← hW]; simp
  have B2 := below1 W (.cells #[.int .i64 n2, v2, .int .i64 d2, vb] t2)
  refine ⟨X1.later B2, ?_, B1.trans (B2.mono B1.size)⟩
  rw [← hz]
  exact Sx.new (h2.later B1) (hb.later B1) t2

end Go.Proofs.Ytjodmjbiblhpaaa
