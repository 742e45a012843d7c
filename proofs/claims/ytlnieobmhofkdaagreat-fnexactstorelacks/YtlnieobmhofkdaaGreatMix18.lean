import Derived.Test.YtlnieobmhofkdaaGreatMathW
import Derived.Test.YtlnieobmhofkdaaGreatMix17
/- Metas as plain data: without one they are ok still, with one twice they are not. -/
namespace Go.Proofs.YtlnieobmhofkdaaGreat.Ix
open Pk

def without (l : List M) (k : Nat) : List M := l.take k ++ l.drop (k + 1)
theorem without_length {l : List M} {k : Nat} (hk : k < l.length) : (without l k).length = l.length - 1 := by unfold without; rw [List.length_append, List.length_take, List.length_drop]; omega
theorem without_lt {l : List M} {k i : Nat} (hi : i < k) (hk : k < l.length) : (without l k).getD i (0, 0, 0) = l.getD i (0, 0, 0) := by
  unfold without
  rw [List.getD_eq_getElem?_getD, List.getD_eq_getElem?_getD, List.getElem?_append_left (by rw [List.length_take]; omega), List.getElem?_take_of_lt hi]
theorem without_ge {l : List M} {k i : Nat} (hi : k ≤ i) (hk : k < l.length) : (without l k).getD i (0, 0, 0) = l.getD (i + 1) (0, 0, 0) := by
  unfold without
  have hlen : (l.take k).length = k := by rw [List.length_take]; omega
  rw [List.getD_eq_getElem?_getD, List.getD_eq_getElem?_getD, List.getElem?_append_right (by omega), hlen, List.getElem?_drop, show k + 1 + (i - k) = i + 1 by omega]
theorem less_trans {a b c d e f : Int} (h1 : less a b c d = true) (h2 : less c d e f = true) : less a b e f = true := by
  unfold less at *
  simp only [Bool.or_eq_true, Bool.and_eq_true, decide_eq_true_eq] at *
  omega
theorem less_self (a b : Int) : less a b a b = false := by unfold less; simp
theorem good_less {l : List M} (h : metasOk l = true) {i : Nat} (hi : i + 1 < l.length) : less (nm l i) (vr l i) (nm l (i + 1)) (vr l (i + 1)) = true := by
  have := metasOk_at h (i + 1) hi
  unfold good at this
  rw [Bool.and_eq_true, Bool.or_eq_true] at this
  rcases this.2 with h | h
  · exact absurd (of_decide_eq_true h) (by omega)
  · simpa using h
theorem good_mOk {l : List M} (h : metasOk l = true) {i : Nat} (hi : i < l.length) : mOk (nm l i) (vr l i) (sm l i) = true := by
  have := metasOk_at h i hi
  unfold good at this
  rw [Bool.and_eq_true] at this
  exact this.1
theorem less_chain {l : List M} (h : metasOk l = true) {i : Nat} : ∀ d, i + d + 1 < l.length → less (nm l i) (vr l i) (nm l (i + d + 1)) (vr l (i + d + 1)) = true
  | 0, hi => good_less h hi
  | d + 1, hi => less_trans (less_chain h d (by omega)) (good_less h (i := i + d + 1) hi)
theorem without_ok {l : List M} {k : Nat} (h : metasOk l = true) (hk : k < l.length) : metasOk (without l k) = true := by
  refine metasOk_good (fun i hi => ?_)
  rw [without_length hk] at hi
  unfold good
  rcases Nat.lt_or_ge i k with hlt | hge
  · have e1 : ∀ j, j ≤ i → nm (without l k) j = nm l j ∧ vr (without l k) j = vr l j ∧ sm (without l k) j = sm l j := fun j hj => by
      unfold nm vr sm
      rw [without_lt (by omega) hk]
      exact ⟨rfl, rfl, rfl⟩
    rw [(e1 i (Nat.le_refl _)).1, (e1 i (Nat.le_refl _)).2.1, (e1 i (Nat.le_refl _)).2.2, (e1 (i - 1) (by omega)).1, (e1 (i - 1) (by omega)).2.1]
    exact metasOk_at h i (by omega)
  · have e1 : nm (without l k) i = nm l (i + 1) ∧ vr (without l k) i = vr l (i + 1) ∧ sm (without l k) i = sm l (i + 1) := by
      unfold nm vr sm
      rw [without_ge hge hk]
      exact ⟨rfl, rfl, rfl⟩
    rw [e1.1, e1.2.1, e1.2.2, good_mOk h (by omega), Bool.true_and, Bool.or_eq_true]
    rcases Nat.eq_zero_or_pos i with h0 | hpos
    · exact .inl (decide_eq_true h0)
    · right
      obtain ⟨m, rfl⟩ : ∃ m, i = m + 1 := ⟨i - 1, by omega⟩
      rcases Nat.lt_or_ge m k with hm | hm
      · obtain rfl : k = m + 1 := by omega
        have e2 : nm (without l (m + 1)) m = nm l m ∧ vr (without l (m + 1)) m = vr l m := by
          unfold nm vr
          rw [without_lt (by omega) hk]
          exact ⟨rfl, rfl⟩
        rw [Nat.add_sub_cancel, e2.1, e2.2]
        exact less_trans (good_less h (by omega)) (good_less h (i := m + 1) (by omega))
      · have e2 : nm (without l k) m = nm l (m + 1) ∧ vr (without l k) m = vr l (m + 1) := by
          unfold nm vr
          rw [without_ge hm hk]
          exact ⟨rfl, rfl⟩
        rw [Nat.add_sub_cancel, e2.1, e2.2]
        exact good_less h (i := m + 1) (by omega)
theorem twice_bad {l : List M} {k : Nat} (h : metasOk l = true) (hk : k < l.length) : metasOk (l ++ [(nm l k, vr l k, sm l k)]) = false := by
  rw [metasOk_snoc]
  have : less (last l).1 (last l).2.1 (nm l k) (vr l k) = false := by
    rw [last_at]
    show less (nm l (l.length - 1)) (vr l (l.length - 1)) (nm l k) (vr l k) = false
    rcases Nat.lt_or_ge (k + 1) l.length with hlt | hge
    · have := less_chain h (i := k) (l.length - 1 - k - 1) (by omega)
      rw [show k + (l.length - 1 - k - 1) + 1 = l.length - 1 by omega] at this
      exact less_not this
    · rw [show l.length - 1 = k by omega]
      exact less_self _ _
  dsimp only
  rw [this]
  simp
theorem idx_without {num til : Int} {l : List M} {k : Nat} (h : idxOk num til l = true) (hk : k < l.length) : idxOk num til (without l k) = true := by
  unfold idxOk at *
  simp only [Bool.and_eq_true, decide_eq_true_eq] at *
  exact ⟨⟨h.1.1, by rw [without_length hk]; omega⟩, without_ok h.2 hk⟩
theorem idx_twice {num til : Int} {l : List M} {k : Nat} (h : idxOk num til l = true) (hk : k < l.length) : idxOk num til (l ++ [(nm l k, vr l k, sm l k)]) = false := by
  unfold idxOk at *
  simp only [Bool.and_eq_true] at h
  rw [twice_bad h.2 hk, Bool.and_false]
end Go.Proofs.YtlnieobmhofkdaaGreat.Ix

/- What an index of packages tells of: each of them; of what it does not tell any more it does not tell. -/
namespace Go.Proofs.YtlnieobmhofkdaaGreat.Ix
open Pk

theorem of_get {num til : Int} {l : List Pg} (h : ofOk num til l = true) : pkgsOk l = true ∧ idxOk num til (l.map metaP) = true := by
  unfold ofOk at h
  rw [Bool.and_eq_true] at h
  exact h
theorem of_pOk {num til : Int} {l : List Pg} (h : ofOk num til l = true) {k : Nat} (hk : k < l.length) : pOk (pg l k) = true := by
  have := pkgsOk_at (of_get h).1 k hk
  unfold pkgGood at this
  rw [Bool.and_eq_true] at this
  exact this.1
theorem all_has {num til : Int} {l : List Pg} (h : ofOk num til l = true) {k : Nat} (hk : k < l.length) : has num til (l.map metaP) (pText (pg l k)) = some (pg l k) :=
  has_some.2 ⟨⟨of_pOk h hk, rfl⟩, (of_get h).2, List.mem_map.2 ⟨_, pg_mem hk, rfl⟩⟩
theorem map_at {l : List Pg} {i : Nat} (hi : i < l.length) : nm (l.map metaP) i = (pg l i).1 ∧ vr (l.map metaP) i = (pg l i).2.1 := by
  unfold nm vr pg
  rw [List.getD_eq_getElem?_getD, List.getD_eq_getElem?_getD, List.getElem?_map, List.getElem?_eq_getElem hi]
  exact ⟨rfl, rfl⟩
theorem metas_ne {ms : List M} (h : metasOk ms = true) {i j : Nat} (hij : i < j) (hj : j < ms.length) : ¬ (nm ms i = nm ms j ∧ vr ms i = vr ms j) := by
  intro e
  obtain ⟨d, rfl⟩ : ∃ d, j = i + d + 1 := ⟨j - i - 1, by omega⟩
  have := less_chain h (i := i) d hj
  rw [e.1, e.2, less_self] at this
  cases this
theorem other_mem {ms : List M} (h : metasOk ms = true) {i k : Nat} (hi : i < ms.length) (hk : k < ms.length) : ms[i] ∈ without ms k ↔ i ≠ k := by
  have at' : ∀ j (hj : j < ms.length), ms[j].1 = nm ms j ∧ ms[j].2.1 = vr ms j := fun j hj => by
    unfold nm vr
    rw [List.getD_eq_getElem?_getD, List.getElem?_eq_getElem hj]
    exact ⟨rfl, rfl⟩
  have inj : ∀ j (hj : j < ms.length), ms[j] = ms[i] → j = i := fun j hj e => by
    have e1 : nm ms j = nm ms i ∧ vr ms j = vr ms i := by rw [← (at' j hj).1, ← (at' j hj).2, ← (at' i hi).1, ← (at' i hi).2, e]; exact ⟨rfl, rfl⟩
    rcases Nat.lt_trichotomy j i with hl | he | hg
    · exact absurd e1 (metas_ne h hl hi)
    · exact he
    · exact absurd ⟨e1.1.symm, e1.2.symm⟩ (metas_ne h hg hj)
  unfold without
  rw [List.mem_append]
  constructor
  · rintro (hm | hm) e
    · obtain ⟨j, hj, hje⟩ := List.getElem_of_mem hm
      rw [List.length_take] at hj
      rw [List.getElem_take] at hje
      have := inj j (by omega) hje
      omega
    · obtain ⟨j, hj, hje⟩ := List.getElem_of_mem hm
      rw [List.length_drop] at hj
      rw [List.getElem_drop] at hje
      have := inj (k + 1 + j) (by omega) hje
      omega
  · intro hne
    rcases Nat.lt_or_ge i k with hl | hg
    · exact .inl (List.mem_iff_getElem.2 ⟨i, by rw [List.length_take]; omega, by rw [List.getElem_take]⟩)
    · exact .inr (List.mem_iff_getElem.2 ⟨i - (k + 1), by rw [List.length_drop]; omega, by rw [List.getElem_drop]; congr 1; omega⟩)
theorem other_has {num til : Int} {l : List Pg} (h : ofOk num til l = true) {i k : Nat} (hi : i < l.length) (hk : k < l.length) : hasB num til (without (l.map metaP) k) (pText (pg l i)) = decide (i ≠ k) := by
  have hlen : (l.map metaP).length = l.length := List.length_map _
  have hok := (of_get h).2
  have hms : metasOk (l.map metaP) = true := by
    unfold idxOk at hok
    rw [Bool.and_eq_true] at hok
    exact hok.2
  have hiff := other_mem hms (i := i) (k := k) (by omega) (by omega)
  have he : (l.map metaP)[i]'(by omega) = metaP (pg l i) := by
    rw [List.getElem_map]
    unfold pg
    rw [List.getD_eq_getElem?_getD, List.getElem?_eq_getElem hi]
    rfl
  rw [he] at hiff
  by_cases hne : i ≠ k
  · rw [decide_eq_true hne]
    exact (hasD_some (has_some.2 ⟨⟨of_pOk h hi, rfl⟩, idx_without hok (by omega), hiff.2 hne⟩)).2
  · rw [decide_eq_false hne]
    refine (hasD_none (has_no (rp_text (of_pOk h hi)) ?_)).2
    unfold tellsP
    rw [decide_eq_false (fun hm => hne (hiff.1 hm)), Bool.and_false]
end Go.Proofs.YtlnieobmhofkdaaGreat.Ix
