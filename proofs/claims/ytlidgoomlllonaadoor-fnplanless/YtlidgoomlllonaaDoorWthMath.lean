/- Packages in order, as plain data: one more in its place keeps the order. -/
import Derived.Test.YtlidgoomlllonaaDoorNewestMath2
namespace Go.Proofs.YtlidgoomlllonaaDoor.Ix
open Pk

theorem pg_get {l : List Pg} {i : Nat} (hi : i < l.length) : pg l i = l[i] := by
  unfold pg
  rw [List.getD_eq_getElem?_getD, List.getElem?_eq_getElem hi]
  rfl
theorem ahead_trans {a b c : Pg} (h1 : ahead a b = true) (h2 : ahead b c = true) : ahead a c = true := by
  unfold ahead less at *
  simp only [Bool.or_eq_true, Bool.and_eq_true, decide_eq_true_eq] at *
  omega
theorem pkgsOk_pair {l : List Pg} : pkgsOk l = true ↔ (∀ x ∈ l, pOk x = true) ∧ l.Pairwise (fun x y => ahead x y = true) := by
  constructor
  · intro h
    refine ⟨fun x hx => ?_, ?_⟩
    · obtain ⟨i, hi, e⟩ := List.getElem_of_mem hx
      have := pkgs_pOk h hi
      rw [pg_get hi, e] at this
      exact this
    · rw [List.pairwise_iff_getElem]
      intro i j hi hj hij
      have := pkgs_lt h hij hj
      rw [pg_get hi, pg_get hj] at this
      exact this
  · rintro ⟨h1, h2⟩
    rw [List.pairwise_iff_getElem] at h2
    refine pkgsOk_good (fun i hi => ?_)
    unfold pkgGood
    rw [h1 _ (pg_mem hi), Bool.true_and]
    rcases Nat.eq_zero_or_pos i with h0 | h0
    · rw [decide_eq_true h0, Bool.true_or]
    · have := h2 (i - 1) i (by omega) hi (by omega)
      rw [pg_get hi, pg_get (show i - 1 < l.length by omega)]
      rw [Bool.or_eq_true]
      exact .inr this
theorem wth_ok {l : List Pg} {p : Pg} (h : pkgsOk l = true) (hp : pOk p = true) : pkgsOk (wth l p) = true := by
  rw [pkgsOk_pair] at h ⊢
  obtain ⟨h1, h2⟩ := h
  unfold wth
  refine ⟨fun x hx => ?_, ?_⟩
  · rw [List.mem_append, List.mem_append, List.mem_filter, List.mem_filter, List.mem_singleton] at hx
    rcases hx with (hx | hx) | hx
    · exact h1 x hx.1
    · rw [hx]; exact hp
    · exact h1 x hx.1
  · rw [List.pairwise_append, List.pairwise_append]
    refine ⟨⟨h2.filter _, List.pairwise_singleton _ _, fun a ha b hb => ?_⟩, h2.filter _, fun a ha b hb => ?_⟩
    · rw [List.mem_singleton] at hb
      rw [hb]
      exact (List.mem_filter.1 ha).2
    · have hb2 : ahead p b = true := (List.mem_filter.1 hb).2
      rw [List.mem_append, List.mem_singleton] at ha
      rcases ha with ha | ha
      · exact ahead_trans (List.mem_filter.1 ha).2 hb2
      · rw [ha]; exact hb2
end Go.Proofs.YtlidgoomlllonaaDoor.Ix
