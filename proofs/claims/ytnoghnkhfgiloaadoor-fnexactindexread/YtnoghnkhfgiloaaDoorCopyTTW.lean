import Derived.Test.YtnoghnkhfgiloaaDoorMixJ
import Derived.Test.YtnoghnkhfgiloaaDoorMixK
import Derived.Test.YtnoghnkhfgiloaaDoorCopyMW
import Derived.Test.YtnoghnkhfgiloaaDoorMixG
/- What laws.toTrust, szTrust and eqTrust return: a copy, a count, and true of the same. -/
namespace Go.Proofs.YtnoghnkhfgiloaaDoor
open Go.RowKit

theorem Ins.far {w w' : World} {g n c : Nat} {l : List Int} (h : Ins w (.slice (some ⟨g, 0, none⟩) n c) l) (hs : w.heap.size ≤ w'.heap.size) (hg : w'.heap[g]? = w.heap[g]?) : Ins w' (.slice (some ⟨g, 0, none⟩) n c) l := by
  obtain ⟨a, cap, e, hl, hr⟩ := h
  refine ⟨a, cap, e, hl, fun hp => ?_⟩
  obtain ⟨b, off, ha, hb, hc⟩ := hr hp
  injection e with e _ _
  rw [ha] at e
  injection e with e
  injection e with e1 e2 _
  subst e1
  exact ⟨g, off, ha, by omega, fun i hi => by rw [World.cell?_of_block hg]; exact hc i hi⟩
theorem Trs.far {w w' : World} {g n c : Nat} {l : List Ix.M} (h : Trs w (.slice (some ⟨g, 0, none⟩) n c) l) (hs : w.heap.size ≤ w'.heap.size) (hg : w'.heap[g]? = w.heap[g]?) : Trs w' (.slice (some ⟨g, 0, none⟩) n c) l := by
  obtain ⟨a, cap, e, hl, hr⟩ := h
  refine ⟨a, cap, e, hl, fun hp => ?_⟩
  obtain ⟨b, off, ha, hb, hc⟩ := hr hp
  injection e with e _ _
  rw [ha] at e
  injection e with e
  injection e with e1 e2 _
  subst e1
  have e : ∀ o, w'.cell? ⟨g, o, none⟩ = w.cell? ⟨g, o, none⟩ := fun o => World.cell?_of_block hg
  exact ⟨g, off, ha, by omega, fun i hi => by rw [e, e, e]; exact hc i hi⟩
theorem fin0123 {w w' : World} {X : Nat} {a0 b0 c0 d0 a b c d e f g : Value} {t : TypeId} (h : w.heap[X]? = some (.cells #[a0, b0, c0, d0, e, f, g] t (0, 0))) (hw : w' = (((w.setCell ⟨X, 0, none⟩ a).setCell ⟨X, 1, none⟩ b).setCell ⟨X, 2, none⟩ c).setCell ⟨X, 3, none⟩ d) :
    w'.heap[X]? = some (.cells #[a, b, c, d, e, f, g] t (0, 0)) ∧ (∀ k, k ≠ X → w'.heap[k]? = w.heap[k]?) ∧ w'.heap.size = w.heap.size ∧ w'.os = w.os ∧ w'.tape = w.tape ∧ w'.output = w.output := by
  refine ⟨by rw [hw, heapSet (heapSet (heapSet (heapSet h)))]; rfl, fun k hk => ?_, by rw [hw]; simp [World.setCell], by rw [hw]; simp [World.setCell], by rw [hw]; simp [World.setCell], by rw [hw]; simp [World.setCell]⟩
  rw [hw, Below.heap_setCell _ _ _ _ hk, Below.heap_setCell _ _ _ _ hk, Below.heap_setCell _ _ _ _ hk, Below.heap_setCell _ _ _ _ hk]
theorem fin456' {w w' : World} {X : Nat} {a b c d e0 f0 g0 e f g : Value} {t : TypeId} (h : w.heap[X]? = some (.cells #[a, b, c, d, e0, f0, g0] t (0, 0))) (hw : w' = ((w.setCell ⟨X, 4, none⟩ e).setCell ⟨X, 5, none⟩ f).setCell ⟨X, 6, none⟩ g) :
    w'.heap[X]? = some (.cells #[a, b, c, d, e, f, g] t (0, 0)) ∧ (∀ k, k ≠ X → w'.heap[k]? = w.heap[k]?) ∧ w'.heap.size = w.heap.size ∧ w'.os = w.os ∧ w'.tape = w.tape ∧ w'.output = w.output := by
  refine ⟨by rw [hw, heapSet (heapSet (heapSet h))]; rfl, fun k hk => ?_, by rw [hw]; simp [World.setCell], by rw [hw]; simp [World.setCell], by rw [hw]; simp [World.setCell], by rw [hw]; simp [World.setCell]⟩
  rw [hw, Below.heap_setCell _ _ _ _ hk, Below.heap_setCell _ _ _ _ hk, Below.heap_setCell _ _ _ _ hk]

end Go.Proofs.YtnoghnkhfgiloaaDoor
