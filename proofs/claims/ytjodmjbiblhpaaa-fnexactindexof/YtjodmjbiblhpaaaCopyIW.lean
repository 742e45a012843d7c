/- What the laws' own helpers for rows of numbers return: toIntS a copy in memory of its own, eqIntS true of two that read the same, szIntS how much is left. -/
import Derived.Test.YtjodmjbiblhpaaaKeyW
import Derived.Laws.MakeOwn
namespace Go.Proofs.Ytjodmjbiblhpaaa
open Go.RowKit



/-- The row that is filled: the first k numbers are there. -/
def FillI (w : World) (g : Nat) (l : List Int) (k : Nat) : Prop :=
  ∃ C : Array Value, w.heap[g]? = some (.cells C 3 (0, 0)) ∧ C.size = l.length ∧ ∀ i, i < k → C[i]? = some (.int .i64 (Ky.nth l i))

theorem FillI.more {w : World} {g : Nat} {l : List Int} {k : Nat} (h : FillI w g l k) (hk : k < l.length) :
    FillI (w.setCell ⟨g, k, none⟩ (.int .i64 (Ky.nth l k))) g l (k + 1) := by
  obtain ⟨C, h1, h2, h3⟩ := h
  refine ⟨_, heapSet h1, by simpa using h2, fun i hi => ?_⟩
  rcases Nat.lt_or_ge i k with hlt | hge
  · rw [Array.getElem?_setIfInBounds_ne (by omega)]
    exact h3 i hlt
  · obtain rfl : i = k := by omega
    rw [Array.getElem?_setIfInBounds_self_of_lt (by omega)]

theorem FillI.keep {w w' : World} {g k : Nat} {l : List Int} (h : FillI w g l k) (hb : w'.heap[g]? = w.heap[g]?) : FillI w' g l k := by
  obtain ⟨C, h1, h2, h3⟩ := h
  exact ⟨C, hb.trans h1, h2, h3⟩
theorem FillI.later {w w' : World} {g k : Nat} {l : List Int} (h : FillI w g l k) (hb : Below w.heap.size w w') : FillI w' g l k := by
  obtain ⟨C, h1, h2, h3⟩ := h
  exact ⟨C, (hb.block g (heapLt h1)).trans h1, h2, h3⟩
theorem FillI.ins {w : World} {g : Nat} {l : List Int} (h : FillI w g l l.length) (hl : l.length ≤ 1048576) : Ins w (.slice (some ⟨g, 0, none⟩) l.length l.length) l := by
  obtain ⟨C, h1, h2, h3⟩ := h
  refine ⟨_, _, rfl, by omega, fun _ => ⟨g, 0, rfl, heapLt h1, fun i hi => ?_⟩⟩
  rw [Nat.zero_add, cellOf h1]
  exact h3 i hi

end Go.Proofs.Ytjodmjbiblhpaaa
