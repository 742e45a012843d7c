import Derived.Test.YtjehpeojdcaklaaGreatDoorMixL
import Derived.Test.YtjehpeojdcaklaaGreatDoorImplIndexOkW
import Derived.Test.YtjehpeojdcaklaaGreatDoorIdxLessMath
import Derived.Deep.CutRange
/- The walk of FnIndexLess: it returns true and leaves what was there; for every two rows of bytes. -/
namespace Go.Proofs.YtjehpeojdcaklaaGreatDoor
open Go.RowKit

attribute [local go_sem ↓] Go.wp_at_zero Go.wp_at_succ

theorem Trs.spotL {w : World} {a : Option Addr} {n c : Nat} {k : List Ix.M} (h : Trs w (.slice a n c) k) (hn : 0 < n) : ∃ b off, a = some ⟨b, off, none⟩ ∧ b < w.heap.size ∧ ∀ i, i < n → w.cell? ⟨b, off + i * 3, none⟩ = some (.int .i64 (Ix.nm k i)) ∧ w.cell? ⟨b, off + i * 3 + 1, none⟩ = some (.int .i64 (Ix.vr k i)) ∧ w.cell? ⟨b, off + i * 3 + 2, none⟩ = some (.int .i64 (Ix.sm k i)) := by
  obtain ⟨a', c', hv, hl, hr⟩ := h
  injection hv with e1 e2 e3
  subst e1 e2 e3
  obtain ⟨b, off, ha, hb, hc⟩ := hr hn
  exact ⟨b, off, ha, hb, hc⟩
theorem addM (b off i : Nat) : (⟨b, off, none⟩ : Addr).add i = ⟨b, off + i, none⟩ := by unfold Addr.add; split <;> simp_all
/-- The cells of a row that can be read, from a place on. -/
theorem newsM {w w' : World} {b off m s : Nat} {k t : List Ix.M} (hc : ∀ i, i < k.length → w.cell? ⟨b, off + i * 3, none⟩ = some (.int .i64 (Ix.nm k i)) ∧ w.cell? ⟨b, off + i * 3 + 1, none⟩ = some (.int .i64 (Ix.vr k i)) ∧ w.cell? ⟨b, off + i * 3 + 2, none⟩ = some (.int .i64 (Ix.sm k i))) (hb : Below m w w') (hbm : b < m) (ht : ∀ j, j < t.length → s + j < k.length ∧ t.getD j (0, 0, 0) = k.getD (s + j) (0, 0, 0)) :
    ∀ j u, (flat3 t)[j]? = some u → w'.cell? ((⟨b, off + s * 3, none⟩ : Addr).add j) = some u := by
  intro j u hu
  have hj : j < t.length * 3 := by
    rcases Nat.lt_or_ge j (t.length * 3) with h | h
    · exact h
    · rw [List.getElem?_eq_none (by rw [(flat3_cells t).1]; exact h)] at hu; cases hu
  obtain ⟨h1, h2⟩ := ht (j / 3) (by omega)
  obtain ⟨c0, c1, c2⟩ := hc (s + j / 3) h1
  obtain ⟨a0, a1, a2⟩ := flat3_at t (j / 3) (by omega)
  have e1 : Ix.nm t (j / 3) = Ix.nm k (s + j / 3) ∧ Ix.vr t (j / 3) = Ix.vr k (s + j / 3) ∧ Ix.sm t (j / 3) = Ix.sm k (s + j / 3) := by
    unfold Ix.nm Ix.vr Ix.sm
    rw [h2]
    exact ⟨rfl, rfl, rfl⟩
  rw [addM, hb.cell hbm]
  have hm : j % 3 = 0 ∨ j % 3 = 1 ∨ j % 3 = 2 := by omega
  rcases hm with hm | hm | hm
  · have e : j = j / 3 * 3 := by omega
    rw [show off + s * 3 + j = off + (s + j / 3) * 3 by omega, c0, ← hu, e, Nat.mul_div_cancel _ (by omega), a0, e1.1]
  · have e : j = j / 3 * 3 + 1 := by omega
    rw [show off + s * 3 + j = off + (s + j / 3) * 3 + 1 by omega, c1, ← hu]
    conv => rhs; rw [e]
    rw [a1, e1.2.1]
  · have e : j = j / 3 * 3 + 2 := by omega
    rw [show off + s * 3 + j = off + (s + j / 3) * 3 + 2 by omega, c2, ← hu]
    conv => rhs; rw [e]
    rw [a2, e1.2.2]
theorem take_at {k : List Ix.M} {i : Nat} (hi : i ≤ k.length) : ∀ j, j < (k.take i).length → 0 + j < k.length ∧ (k.take i).getD j (0, 0, 0) = k.getD (0 + j) (0, 0, 0) := fun j hj => by
  rw [List.length_take] at hj
  refine ⟨by omega, ?_⟩
  rw [Nat.zero_add, List.getD_eq_getElem?_getD, List.getD_eq_getElem?_getD, List.getElem?_take_of_lt (by omega)]
theorem drop_at {k : List Ix.M} {i : Nat} : ∀ j, j < (k.drop i).length → i + j < k.length ∧ (k.drop i).getD j (0, 0, 0) = k.getD (i + j) (0, 0, 0) := fun j hj => by
  rw [List.length_drop] at hj
  refine ⟨by omega, ?_⟩
  rw [List.getD_eq_getElem?_getD, List.getD_eq_getElem?_getD, List.getElem?_drop]
theorem all_at {k : List Ix.M} : ∀ j, j < k.length → 0 + j < k.length ∧ k.getD j (0, 0, 0) = k.getD (0 + j) (0, 0, 0) := fun j hj => ⟨by omega, by rw [Nat.zero_add]⟩
theorem emptyM (w : World) : (w.alloc (.cells #[] 47)).ownsRow w.heap.size 47 3 (.slice (some ⟨w.heap.size, 0, none⟩) 0 0) 0 [] :=
  ⟨by simp, .inr ⟨w.heap.size, 0, #[], rfl, Nat.le_refl _, heap_alloc_new _ _, Nat.le_refl _, by unfold maxLen; omega, by simp, by simp⟩⟩
theorem flat3_join (a b : List Ix.M) : flat3 (a ++ b) = flat3 a ++ flat3 b := by unfold flat3; rw [List.flatMap_append]
theorem without_ownM {B : Nat} {w : World} {v : Value} {k : List Ix.M} {i m : Nat} (h : w.ownsRow B 47 3 v (i + m) (flat3 (k.take i) ++ flat3 (k.drop (i + 1)))) (hm : i + m = k.length - 1 ∧ i < k.length) : w.ownsRow B 47 3 v (Ix.without k i).length (flat3 (Ix.without k i)) := by
  rw [Ix.without_length hm.2, ← hm.1]
  unfold Ix.without
  rw [flat3_join]
  exact h
theorem below2M (w : World) (o o2 : Obj) : Below w.heap.size w ((w.alloc o).alloc o2) := (below1 w o).trans ((below1 _ o2).mono (below1 w o).size)
theorem emptyM2 (w : World) (o : Obj) : ((w.alloc o).alloc (.cells #[] 47)).ownsRow w.heap.size 47 3 (.slice (some ⟨w.heap.size + 1, 0, none⟩) 0 0) 0 [] := by
  have h := own_base (emptyM (w.alloc o)) (below1 w o).size
  rwa [sz1'] at h
theorem twice_ownM {B : Nat} {w : World} {v : Value} {k : List Ix.M} {x y z : Int} (h : w.ownsRow B 47 3 v (k.length + 1) (flat3 k ++ [.int .i64 x, .int .i64 y, .int .i64 z])) : w.ownsRow B 47 3 v (k ++ [(x, y, z)]).length (flat3 (k ++ [(x, y, z)])) := by
  rw [flat3_snoc, List.length_append]
  exact h

end Go.Proofs.YtjehpeojdcaklaaGreatDoor
