import Derived.Test.YtjehpeojdcaklaaGreatDoorMixJ
import Derived.Test.YtjehpeojdcaklaaGreatDoorIdxLessMath
import Derived.Test.YtjehpeojdcaklaaGreatDoorImplReadW
import Derived.Test.YtjehpeojdcaklaaGreatDoorIndexOfW
/- What an index of packages tells of: each of them; of what it does not tell any more it does not tell. -/
namespace Go.Proofs.YtjehpeojdcaklaaGreatDoor.Ix
open Pk

theorem of_get {num til : Int} {l : List Pg} (h : ofOk num til l = true) : pkgsOk l = true ∧ idxOk num til (l.map metaP) = true := by
  unfold ofOk at h
  rw [Bool.and_eq_true] at h
  exact h
theorem of_pOk {num til : Int} {l : List Pg} (h : ofOk num til l = true) {k : Nat} (hk : k < l.length) : pOk (pg l k) = true := by
  have := pkgsOk_at (of_get h).1 k hk
  unfold pkgGood at this
  rw [Bool.and_eq_true] at this
  exact this.1
theorem all_has {num til : Int} {l : List Pg} (h : ofOk num til l = true) {k : Nat} (hk : k < l.length) : has num til (l.map metaP) (pText (pg l k)) = some (pg l k) :=
  has_some.2 ⟨⟨of_pOk h hk, rfl⟩, (of_get h).2, List.mem_map.2 ⟨_, pg_mem hk, rfl⟩⟩
theorem map_at {l : List Pg} {i : Nat} (hi : i < l.length) : nm (l.map metaP) i = (pg l i).1 ∧ vr (l.map metaP) i = (pg l i).2.1 := by
  unfold nm vr pg
  rw [List.getD_eq_getElem?_getD, List.getD_eq_getElem?_getD, List.getElem?_map, List.getElem?_eq_getElem hi]
  exact ⟨rfl, rfl⟩
theorem metas_ne {ms : List M} (h : metasOk ms = true) {i j : Nat} (hij : i < j) (hj : j < ms.length) : ¬ (nm ms i = nm ms j ∧ vr ms i = vr ms j) := by
  intro e
  obtain ⟨d, rfl⟩ : ∃ d, j = i + d + 1 := ⟨j - i - 1, by omega⟩
  have := less_chain h (i := i) d hj
  rw [e.1, e.2, less_self] at this
  cases this
theorem other_mem {ms : List M} (h : metasOk ms = true) {i k : Nat} (hi : i < ms.length) (hk : k < ms.length) : ms[i] ∈ without ms k ↔ i ≠ k := by
  have at' : ∀ j (hj : j < ms.length), ms[j].1 = nm ms j ∧ ms[j].2.1 = vr ms j := fun j hj => by
    unfold nm vr
    rw [List.getD_eq_getElem?_getD, List.getElem?_eq_getElem hj]
    exact ⟨rfl, rfl⟩
  have inj : ∀ j (hj : j < ms.length), ms[j] = ms[i] → j = i := fun j hj e => by
    have e1 : nm ms j = nm ms i ∧ vr ms j = vr ms i := by rw [← (at' j hj).1, ← (at' j hj).2, ← (at' i hi).1, ← (at' i hi).2, e]; exact ⟨rfl, rfl⟩
    rcases Nat.lt_trichotomy j i with hl | he | hg
    · exact absurd e1 (metas_ne h hl hi)
    · exact he
    · exact absurd ⟨e1.1.symm, e1.2.symm⟩ (metas_ne h hg hj)
  unfold without
  rw [List.mem_append]
  constructor
  · rintro (hm | hm) e
    · obtain ⟨j, hj, hje⟩ := List.getElem_of_mem hm
      rw [List.length_take] at hj
      rw [List.getElem_take] at hje
      have := inj j (by omega) hje
      omega
    · obtain ⟨j, hj, hje⟩ := List.getElem_of_mem hm
      rw [List.length_drop] at hj
      rw [List.getElem_drop] at hje
      have := inj (k + 1 + j) (by omega) hje
      omega
  · intro hne
    rcases Nat.lt_or_ge i k with hl | hg
    · exact .inl (List.mem_iff_getElem.2 ⟨i, by rw [List.length_take]; omega, by rw [List.getElem_take]⟩)
    · exact .inr (List.mem_iff_getElem.2 ⟨i - (k + 1), by rw [List.length_drop]; omega, by rw [List.getElem_drop]; congr 1; omega⟩)
theorem other_has {num til : Int} {l : List Pg} (h : ofOk num til l = true) {i k : Nat} (hi : i < l.length) (hk : k < l.length) : hasB num til (without (l.map metaP) k) (pText (pg l i)) = decide (i ≠ k) := by
  have hlen : (l.map metaP).length = l.length := List.length_map _
  have hok := (of_get h).2
  have hms : metasOk (l.map metaP) = true := by
    unfold idxOk at hok
    rw [Bool.and_eq_true] at hok
    exact hok.2
  have hiff := other_mem hms (i := i) (k := k) (by omega) (by omega)
  have he : (l.map metaP)[i]'(by omega) = metaP (pg l i) := by
    rw [List.getElem_map]
    unfold pg
    rw [List.getD_eq_getElem?_getD, List.getElem?_eq_getElem hi]
    rfl
  rw [he] at hiff
  by_cases hne : i ≠ k
  · rw [decide_eq_true hne]
    exact (hasD_some (has_some.2 ⟨⟨of_pOk h hi, rfl⟩, idx_without hok (by omega), hiff.2 hne⟩)).2
  · rw [decide_eq_false hne]
    refine (hasD_none (has_no (rp_text (of_pOk h hi)) ?_)).2
    unfold tellsP
    rw [decide_eq_false (fun hm => hne (hiff.1 hm)), Bool.and_false]
end Go.Proofs.YtjehpeojdcaklaaGreatDoor.Ix

/- A package is laid into a box; what an index of packages holds. -/
namespace Go.Proofs.YtjehpeojdcaklaaGreatDoor
open Go.RowKit

theorem Ix.ofD_facts (num til : Int) (l : List Ix.Pg) : Ix.ofOk num til l = true → Ix.ofD num til l = (num, til, l.map Ix.metaP) := fun h => by unfold Ix.ofD; rw [if_pos h]
theorem Ix.ofD_le8 {num til : Int} {l : List Ix.Pg} (hl : l.length ≤ 8) : (Ix.ofD num til l).2.2.length ≤ 8 := by
  unfold Ix.ofD
  split
  · show (l.map Ix.metaP).length ≤ 8; rw [List.length_map]; exact hl
  · exact Nat.zero_le _
/-- A package is laid into a box: the box, and rows that are owned. -/
theorem pkg_fill {W w w' : World} {X B C n m : Nat} {a b c d a' b' fv dv : Value} {xs ys : List Value} (h : w.heap[X]? = some (.cells #[a, b, c, d] 35 (0, 0)))
    (hf : w.ownsRow B 74 2 fv n xs) (hd : w.ownsRow C 76 2 dv m ys) (hb : Below W.heap.size W w) (hX : W.heap.size ≤ X)
    (hw : w' = (((w.setCell ⟨X, 0, none⟩ a').setCell ⟨X, 1, none⟩ b').setCell ⟨X, 2, none⟩ fv).setCell ⟨X, 3, none⟩ dv) :
    w'.heap[X]? = some (.cells #[a', b', fv, dv] 35 (0, 0)) ∧ w'.ownsRow B 74 2 fv n xs ∧ w'.ownsRow C 76 2 dv m ys ∧ Below W.heap.size W w' := by
  obtain ⟨_, hfar, hbb⟩ := box_fin h hw
  refine ⟨?_, own_keep hf (fun k _ _ _ hk => hfar k (fun e => by subst e; exact pkg_not_file h hk)), own_keep hd (fun k _ _ _ hk => hfar k (fun e => by subst e; exact pkg_not_dep h hk)), hb.trans (hbb.mono hX)⟩
  rw [hw, heap_set (heap_set (heap_set (heap_set h)))]
  rfl
end Go.Proofs.YtjehpeojdcaklaaGreatDoor
