import Derived.Test.YtoccijcngncghaaDoorMix6
import Derived.Test.YtoccijcngncghaaDoorCopyIW
/- What spec.RootNext and impl.RootNext return: whether a root may come behind another one; for all roots; nothing old is written. -/
namespace Go.Proofs.YtoccijcngncghaaDoor
open Go.RowKit

/-- A signed root in a box, its keys, and those that sign. -/
structure Sx (w : World) (g : Nat) (n d : Int) (v vb : Value) (k by' : List Int) : Prop where
  lt : g < w.heap.size
  c0 : w.cell? ⟨g, 0, none⟩ = some (.int .i64 n)
  c1 : w.cell? ⟨g, 1, none⟩ = some v
  c2 : w.cell? ⟨g, 2, none⟩ = some (.int .i64 d)
  c3 : w.cell? ⟨g, 3, none⟩ = some vb
  ins : Ins w v k
  inb : Ins w vb by'
theorem Sx.later {w w' : World} {g : Nat} {n d : Int} {v vb : Value} {k by' : List Int} (h : Sx w g n d v vb k by') (hb : Below w.heap.size w w') : Sx w' g n d v vb k by' :=
  ⟨Nat.lt_of_lt_of_le h.lt hb.size, (hb.cell h.lt).trans h.c0, (hb.cell h.lt).trans h.c1, (hb.cell h.lt).trans h.c2, (hb.cell h.lt).trans h.c3, h.ins.later hb, h.inb.later hb⟩
theorem Sx.new {w : World} {n d : Int} {v vb : Value} {k by' : List Int} (h : Ins w v k) (hb : Ins w vb by') (t : TypeId) : Sx (w.alloc (.cells #[.int .i64 n, v, .int .i64 d, vb] t)) w.heap.size n d v vb k by' := by
  obtain ⟨z, x0, x1, x2, x3⟩ := box4i w (.int .i64 n) v (.int .i64 d) vb t
  exact ⟨by omega, x0, x1, x2, x3, h.later (below1 _ _), hb.later (below1 _ _)⟩

/-- Both boxes behind each other. -/
theorem two_boxes {w : World} {n d n2 d2 : Int} {v v2 vb : Value} {k k2 by' : List Int} (h : Ins w v k) (h2 : Ins w v2 k2) (hb : Ins w vb by') (t t2 : TypeId) :
    Bx ((w.alloc (.cells #[.int .i64 n, v, .int .i64 d] t)).alloc (.cells #[.int .i64 n2, v2, .int .i64 d2, vb] t2)) w.heap.size n d v k ∧ Sx ((w.alloc (.cells #[.int .i64 n, v, .int .i64 d] t)).alloc (.cells #[.int .i64 n2, v2, .int .i64 d2, vb] t2)) (w.heap.size + 1) n2 d2 v2 vb k2 by' ∧ Below w.heap.size w ((w.alloc (.cells #[.int .i64 n, v, .int .i64 d] t)).alloc (.cells #[.int .i64 n2, v2, .int .i64 d2, vb] t2)) := by
  have B1 := below1 w (.cells #[.int .i64 n, v, .int .i64 d] t)
  have X1 := Bx.new (n := n) (d := d) h t
  generalize hW : w.alloc (.cells #[.int .i64 n, v, .int .i64 d] t) = W at *
  have hz : W.heap.size = w.heap.size + 1 := by rw [← hW]; simp
  have B2 := below1 W (.cells #[.int .i64 n2, v2, .int .i64 d2, vb] t2)
  refine ⟨X1.later B2, ?_, B1.trans (B2.mono B1.size)⟩
  rw [← hz]
  exact Sx.new (h2.later B1) (hb.later B1) t2

end Go.Proofs.YtoccijcngncghaaDoor

/- What the laws' own helpers for roots return: toRoot and toSigRoot copies in memory of their own, eqRoot and eqSigRoot true of two that read the same, szRoot and szSigRoot how much is left. -/
namespace Go.Proofs.YtoccijcngncghaaDoor
open Go.RowKit

theorem Ins.keep {w w' : World} {g off n c : Nat} {l : List Int} (h : Ins w (.slice (some ⟨g, off, none⟩) n c) l) (hb : w'.heap[g]? = w.heap[g]?) (hs : w.heap.size ≤ w'.heap.size) : Ins w' (.slice (some ⟨g, off, none⟩) n c) l := by
  obtain ⟨a, cap, hv, hl, hr⟩ := h
  refine ⟨a, cap, hv, hl, fun hp => ?_⟩
  obtain ⟨b, off', ha, hbs, hc⟩ := hr hp
  rw [ha] at hv
  injection hv with h1 _ _
  injection h1 with h1
  injection h1 with h1 h2 _
  rw [h1] at hb
  exact ⟨b, off', ha, Nat.lt_of_lt_of_le hbs hs, fun i hi => (World.cell?_of_block (a := ⟨b, off' + i, none⟩) hb).trans (hc i hi)⟩

/-- Three new blocks. -/
theorem three' (w : World) (o1 o2 o3 : Obj) : (((w.alloc o1).alloc o2).alloc o3).heap.size = w.heap.size + 3 ∧ (((w.alloc o1).alloc o2).alloc o3).heap[w.heap.size]? = some o1 ∧ (((w.alloc o1).alloc o2).alloc o3).heap[w.heap.size + 1]? = some o2 ∧ (((w.alloc o1).alloc o2).alloc o3).heap[w.heap.size + 1 + 1]? = some o3 ∧ Below w.heap.size w (((w.alloc o1).alloc o2).alloc o3) := by
  have old : ∀ (w : World) (o : Obj) (k : Nat), k < w.heap.size → (w.alloc o).heap[k]? = w.heap[k]? := fun w o k hk => Below.heap_alloc w o k hk
  have new : ∀ (w : World) (o : Obj) (k : Nat), k = w.heap.size → (w.alloc o).heap[k]? = some o := fun w o k hk => by rw [hk]; exact heap_alloc_new w o
  refine ⟨by rw [sz1', sz1', sz1'], ?_, ?_, ?_, (((Below.refl _ _).alloc (Nat.le_refl _) _).alloc (by rw [sz1']; omega) _).alloc (by rw [sz1', sz1']; omega) _⟩
  · rw [old _ _ _ (by rw [sz1', sz1']; omega), old _ _ _ (by rw [sz1']; omega), new _ _ _ rfl]
  · rw [old _ _ _ (by rw [sz1', sz1']; omega), new _ _ _ (by rw [sz1'])]
  · rw [new _ _ _ (by rw [sz1', sz1'])]

theorem two_bx {w : World} {n d : Int} {v v' : Value} {k : List Int} (h : Ins w v k) (h' : Ins w v' k) (t : TypeId) :
    Bx ((w.alloc (.cells #[.int .i64 n, v, .int .i64 d] t)).alloc (.cells #[.int .i64 n, v', .int .i64 d] t)) w.heap.size n d v k ∧ Bx ((w.alloc (.cells #[.int .i64 n, v, .int .i64 d] t)).alloc (.cells #[.int .i64 n, v', .int .i64 d] t)) (w.heap.size + 1) n d v' k ∧ Below w.heap.size w ((w.alloc (.cells #[.int .i64 n, v, .int .i64 d] t)).alloc (.cells #[.int .i64 n, v', .int .i64 d] t)) := by
  have B1 := below1 w (.cells #[.int .i64 n, v, .int .i64 d] t)
  have X1 := Bx.new (n := n) (d := d) h t
  generalize hW : w.alloc (.cells #[.int .i64 n, v, .int .i64 d] t) = W at *
  have hz : W.heap.size = w.heap.size + 1 := by rw [← hW]; simp
  have B2 := below1 W (.cells #[.int .i64 n, v', .int .i64 d] t)
  refine ⟨X1.later B2, ?_, B1.trans (B2.mono B1.size)⟩
  rw [← hz]
  exact Bx.new (h'.later B1) t

end Go.Proofs.YtoccijcngncghaaDoor
