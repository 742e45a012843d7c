import Derived.Test.YtjehpeojdcaklaaGreatDoorOffDrawW
import Derived.Test.YtjehpeojdcaklaaGreatDoorMixG
/- Rows of packages cut and put together out of a row that is owned. -/
namespace Go.Proofs.YtjehpeojdcaklaaGreatDoor
open Go.RowKit

theorem addP (b off i : Nat) : (⟨b, off, none⟩ : Addr).add i = ⟨b, off + i, none⟩ := by unfold Addr.add; split <;> simp_all
/-- What is drawn lies in slices. -/
def Sl (l : List El) : Prop := ∀ e ∈ l, e.2.1.oneCell' = true ∧ e.2.2.oneCell' = true
theorem flat4_one {l : List El} (h : Sl l) {t : List El} (ht : ∀ e ∈ t, e ∈ l) : ∀ u ∈ flat4 t, u.oneCell' = true := fun u hu => by
  unfold flat4 at hu
  obtain ⟨e, he, hu⟩ := List.mem_flatMap.1 hu
  have := h e (ht e he)
  simp only [List.mem_cons, List.not_mem_nil, or_false] at hu
  rcases hu with rfl | rfl | rfl | rfl
  · rfl
  · rfl
  · exact this.1
  · exact this.2
theorem one4 {x : El} (h1 : x.2.1.oneCell' = true) (h2 : x.2.2.oneCell' = true) : ∀ u ∈ [Value.int .i64 x.1.1, .int .i64 x.1.2.1, x.2.1, x.2.2], u.oneCell' = true := fun u hu => by
  simp only [List.mem_cons, List.not_mem_nil, or_false] at hu
  rcases hu with rfl | rfl | rfl | rfl
  · rfl
  · rfl
  · exact h1
  · exact h2
theorem POwn.sl {N : Nat → Prop} {B : Nat} {w : World} {v : Value} {l : List El} (h : POwn N B w v l) : Sl l := fun e he => by
  obtain ⟨a, c, h1⟩ := (h.el e he).1.slice
  obtain ⟨a2, c2, h2⟩ := (h.el e he).2.slice
  rw [h1, h2]
  exact ⟨rfl, rfl⟩
/-- The cells of an owned row, from a place on. -/
theorem newsP {w w' : World} {g cap s m : Nat} {B : Nat} {l t : List El} (h : w.ownsRow B 35 4 (.slice (some ⟨g, 0, none⟩) l.length cap) l.length (flat4 l)) (hb : Below m w w') (hgm : g < m) (ht : ∀ j, j < t.length → t[j]? = l[s + j]?) :
    ∀ j u, (flat4 t)[j]? = some u → w'.cell? ((⟨g, s * 4, none⟩ : Addr).add j) = some u := by
  intro j u hu
  have hj : j < t.length * 4 := by
    rcases Nat.lt_or_ge j (t.length * 4) with h | h
    · exact h
    · rw [List.getElem?_eq_none (by rw [flat4_len]; exact h)] at hu; cases hu
  have h2 := ht (j / 4) (by omega)
  rw [List.getElem?_eq_getElem (by omega : j / 4 < t.length)] at h2
  obtain ⟨a0, a1, a2, a3⟩ := flat4_at t (j / 4) _ (List.getElem?_eq_getElem (by omega : j / 4 < t.length))
  obtain ⟨c0, c1, c2, c3⟩ := flat4_at l (s + j / 4) _ h2.symm
  rw [addP, hb.cell hgm]
  refine own_cell h _ _ ?_
  have hm : j % 4 = 0 ∨ j % 4 = 1 ∨ j % 4 = 2 ∨ j % 4 = 3 := by omega
  rw [← hu]
  rcases hm with hm | hm | hm | hm
  · conv => rhs; rw [show j = j / 4 * 4 by omega]
    rw [show s * 4 + j = (s + j / 4) * 4 by omega, c0, a0]
  · conv => rhs; rw [show j = j / 4 * 4 + 1 by omega]
    rw [show s * 4 + j = (s + j / 4) * 4 + 1 by omega, c1, a1]
  · conv => rhs; rw [show j = j / 4 * 4 + 2 by omega]
    rw [show s * 4 + j = (s + j / 4) * 4 + 2 by omega, c2, a2]
  · conv => rhs; rw [show j = j / 4 * 4 + 3 by omega]
    rw [show s * 4 + j = (s + j / 4) * 4 + 3 by omega, c3, a3]
theorem takeP {l : List El} {i : Nat} : ∀ j, j < (l.take i).length → (l.take i)[j]? = l[0 + j]? := fun j hj => by
  rw [List.length_take] at hj
  rw [Nat.zero_add, List.getElem?_take_of_lt (by omega)]
theorem dropP {l : List El} {i : Nat} : ∀ j, j < (l.drop i).length → (l.drop i)[j]? = l[i + j]? := fun j _ => by rw [List.getElem?_drop]
theorem emptyP (w : World) : (w.alloc (.cells #[] 35)).ownsRow w.heap.size 35 4 (.slice (some ⟨w.heap.size, 0, none⟩) 0 0) 0 [] :=
  ⟨by simp, .inr ⟨w.heap.size, 0, #[], rfl, Nat.le_refl _, heap_alloc_new _ _, Nat.le_refl _, by unfold maxLen; omega, by simp, by simp⟩⟩
theorem below2P (w : World) (o o2 : Obj) : Below w.heap.size w ((w.alloc o).alloc o2) := (below1 w o).trans ((below1 _ o2).mono (below1 w o).size)
theorem emptyP2 (w : World) (o : Obj) : ((w.alloc o).alloc (.cells #[] 35)).ownsRow w.heap.size 35 4 (.slice (some ⟨w.heap.size + 1, 0, none⟩) 0 0) 0 [] := by
  have h := own_baseP (emptyP (w.alloc o)) (below1 w o).size
  rwa [sz1'] at h
def cutE (l : List El) (k : Nat) : List El := l.take k ++ l.drop (k + 1)
def twoE (l : List El) (k : Nat) (x : El) : List El := (l.take k ++ [x]) ++ l.drop k
theorem cutE_map (l : List El) (k : Nat) : (cutE l k).map (·.1) = Ix.cutP (l.map (·.1)) k := by unfold cutE Ix.cutP; rw [List.map_append, List.map_take, List.map_drop]
theorem twoE_map (l : List El) (k : Nat) (x : El) (hx : l[k]? = some x) : (twoE l k x).map (·.1) = Ix.twoP (l.map (·.1)) k := by
  unfold twoE Ix.twoP Ix.pg
  rw [List.map_append, List.map_append, List.map_take, List.map_drop, List.getD_eq_getElem?_getD, List.getElem?_map, hx]
  rfl
/-- Packages of a row that was drawn, in a row of another place. -/
theorem POwn.of {B W : Nat} {w w' : World} {v v' : Value} {l t : List El} (h : POx B w v l) (hb : Below w.heap.size w w') (ho : w'.ownsRow W 35 4 v' t.length (flat4 t)) (ht : ∀ e ∈ t, e ∈ l) (hl : t.length ≤ 1000) : Pks (fun _ => True) w' v' (t.map (·.1)) :=
  POwn.pks (B := W) ⟨ho, fun e he => ⟨((h.el e (ht e he)).1.weak (fun _ _ => trivial)).later hb, ((h.el e (ht e he)).2.weak (fun _ _ => trivial)).later hb⟩⟩ (fun _ _ => trivial) (by omega)
theorem cutE_own {B : Nat} {w : World} {v : Value} {k : List El} {i m : Nat} (h : w.ownsRow B 35 4 v (i + m) (flat4 (k.take i) ++ flat4 (k.drop (i + 1)))) (hm : i + m = k.length - 1 ∧ i < k.length) : w.ownsRow B 35 4 v (cutE k i).length (flat4 (cutE k i)) := by
  have hl : (cutE k i).length = i + m := by unfold cutE; rw [List.length_append, List.length_take, List.length_drop]; omega
  rw [hl]
  unfold cutE
  rw [flat4_app]
  exact h
theorem cutE_len {k : List El} {i : Nat} (hi : i < k.length) : (cutE k i).length = k.length - 1 := by unfold cutE; rw [List.length_append, List.length_take, List.length_drop]; omega
theorem twoE_len {k : List El} {i : Nat} {x : El} (hi : i < k.length) : (twoE k i x).length = k.length + 1 := by unfold twoE; rw [List.length_append, List.length_append, List.length_take, List.length_drop]; simp only [List.length_cons, List.length_nil]; omega
theorem cutE_mem {k : List El} {i : Nat} : ∀ e ∈ cutE k i, e ∈ k := fun e he => by
  unfold cutE at he
  rcases List.mem_append.1 he with h | h
  · exact List.mem_of_mem_take h
  · exact List.mem_of_mem_drop h
theorem twoE_mem {k : List El} {i : Nat} {x : El} (hx : k[i]? = some x) : ∀ e ∈ twoE k i x, e ∈ k := fun e he => by
  unfold twoE at he
  rcases List.mem_append.1 he with h | h
  · rcases List.mem_append.1 h with h | h
    · exact List.mem_of_mem_take h
    · rw [List.mem_singleton] at h
      subst h
      exact List.mem_of_getElem? hx
  · exact List.mem_of_mem_drop h
theorem twoE_own {B : Nat} {w : World} {v : Value} {k : List El} {i m : Nat} {x : El} (h : w.ownsRow B 35 4 v (i + 1 + m) (flat4 (k.take i) ++ [.int .i64 x.1.1, .int .i64 x.1.2.1, x.2.1, x.2.2] ++ flat4 (k.drop i))) (hm : i + m = k.length ∧ i < k.length) : w.ownsRow B 35 4 v (twoE k i x).length (flat4 (twoE k i x)) := by
  rw [twoE_len hm.2, show k.length + 1 = i + 1 + m by omega]
  unfold twoE
  rw [flat4_app, flat4_app]
  exact h
end Go.Proofs.YtjehpeojdcaklaaGreatDoor
