import Derived.Test.YtlnieobmhofkdaaGreatMix4
/- Packages as plain data: what is said of the newest of a name. -/
namespace Go.Proofs.YtlnieobmhofkdaaGreat.Ix
open Pk

theorem pkgs_chain {l : List Pg} (h : pkgsOk l = true) {i : Nat} : ∀ d, i + d + 1 < l.length → less (pg l i).1 (pg l i).2.1 (pg l (i + d + 1)).1 (pg l (i + d + 1)).2.1 = true
  | 0, hi => pkgs_less h hi
  | d + 1, hi => less_transP (pkgs_chain h d (by omega)) (pkgs_less h (i := i + d + 1) hi)
theorem pkgs_lt {l : List Pg} (h : pkgsOk l = true) {i j : Nat} (hij : i < j) (hj : j < l.length) : less (pg l i).1 (pg l i).2.1 (pg l j).1 (pg l j).2.1 = true := by
  have := pkgs_chain h (i := i) (j - i - 1) (by omega)
  rw [show i + (j - i - 1) + 1 = j by omega] at this
  exact this
theorem last_ix {l : List Pg} {x : Int} : ∀ i, i ≤ l.length → (∀ j, i ≤ j → j < l.length → (pg l j).1 ≠ x) → (∃ m, m < l.length ∧ (pg l m).1 = x ∧ ∀ j, m + 1 ≤ j → j < l.length → (pg l j).1 ≠ x) ∨ ∀ j, 0 ≤ j → j < l.length → (pg l j).1 ≠ x
  | 0, _, h => .inr h
  | i + 1, hi, h => by
    by_cases hx : (pg l i).1 = x
    · exact .inl ⟨i, hi, hx, h⟩
    · refine last_ix i (by omega) (fun j h1 h2 => ?_)
      rcases Nat.lt_or_ge i j with h3 | h3
      · exact h j h3 h2
      · obtain rfl : j = i := by omega
        exact hx
theorem newest_cases (l : List Pg) (x : Int) : (newest l x = none ∧ ∀ j, j < l.length → (pg l j).1 ≠ x) ∨ ∃ m, m < l.length ∧ newest l x = some (pg l m) ∧ (pg l m).1 = x ∧ ∀ j, m + 1 ≤ j → j < l.length → (pg l j).1 ≠ x := by
  rcases last_ix (l := l) (x := x) l.length (Nat.le_refl _) (fun j h1 h2 => absurd h2 (by omega)) with ⟨m, hm, hx, hr⟩ | h
  · exact .inr ⟨m, hm, newest_at hm hx hr, hx, hr⟩
  · exact .inl ⟨newest_none h, fun j hj => h j (Nat.zero_le _) hj⟩
theorem newest_top {l : List Pg} {x : Int} {m : Nat} (hk : pkgsOk l = true) (hm : m < l.length) (hx : (pg l m).1 = x) (hr : ∀ j, m + 1 ≤ j → j < l.length → (pg l j).1 ≠ x) : ∀ i, i < l.length → (pg l i).1 = x → i ≠ m → (pg l i).2.1 < (pg l m).2.1 := by
  intro i hi h1 hne
  rcases Nat.lt_or_ge i m with h | h
  · have := pkgs_lt hk h hm
    unfold less at this
    simp only [Bool.or_eq_true, Bool.and_eq_true, decide_eq_true_eq] at this
    omega
  · exact absurd h1 (hr i (by omega) hi)
theorem pOk_lens {p : Pg} (h : pOk p = true) : p.2.2.1.length ≤ 2 ∧ p.2.2.2.length ≤ 2 := by
  unfold pOk Pk.pkgOk at h
  simp only [Bool.and_eq_true] at h
  exact ⟨(Pk.filesOk_get h.1.2).1, (Pk.depsOk_get h.2).1⟩
theorem newA_lens (l : List Pg) (x : Int) : (newA l x).1.2.2.1.length ≤ 2 ∧ (newA l x).1.2.2.2.length ≤ 2 := by
  cases hk : pkgsOk l
  · rw [newA_bad hk]; exact ⟨Nat.zero_le _, Nat.zero_le _⟩
  · rcases newest_cases l x with ⟨hn, _⟩ | ⟨m, hm, hn, _, _⟩
    · rw [newA_none hn]; exact ⟨Nat.zero_le _, Nat.zero_le _⟩
    · rw [newA_some hk hn]
      exact pOk_lens (pkgs_pOk hk hm)
def anyN (l : List Pg) (x : Int) (k : Nat) : Bool := (List.range k).any (fun j => (pg l j).1 == x)
theorem anyN_succ (l : List Pg) (x : Int) (k : Nat) : anyN l x (k + 1) = (anyN l x k || ((pg l k).1 == x)) := by unfold anyN; rw [List.range_succ, List.any_append]; simp
/-- What the law asks of the newest. -/
theorem newest_law {l : List Pg} {x : Int} (hk : pkgsOk l = true) : (∀ i, i < l.length → (pg l i).1 = x → (newA l x).2 = true ∧ (pg l i).2.1 ≤ (newA l x).1.2.1) ∧ (newA l x).2 = anyN l x l.length ∧ ((newA l x).2 = true → (newA l x).1 ∈ l ∧ (newA l x).1.1 = x) := by
  rcases newest_cases l x with ⟨hn, hno⟩ | ⟨m, hm, hn, hx, hr⟩
  · rw [newA_none hn]
    refine ⟨fun i hi h => absurd h (hno i hi), ?_, fun h => by cases h⟩
    symm
    unfold anyN
    rw [List.any_eq_false]
    intro j hj
    have := hno j (List.mem_range.1 hj)
    simpa using this
  · rw [newA_some hk hn]
    refine ⟨fun i hi h => ⟨rfl, ?_⟩, ?_, fun _ => ⟨pg_mem hm, hx⟩⟩
    · by_cases hne : i = m
      · subst hne; exact Int.le_refl _
      · have := newest_top hk hm hx hr i hi h hne
        exact Int.le_of_lt this
    · symm
      unfold anyN
      rw [List.any_eq_true]
      exact ⟨m, List.mem_range.2 hm, by simpa using hx⟩
theorem newA_true {l : List Pg} {x : Int} {p : Pg} (h : newA l x = (p, true)) : pkgsOk l = true ∧ newest l x = some p := by
  cases hk : pkgsOk l
  · rw [newA_bad hk] at h; cases h
  · refine ⟨rfl, ?_⟩
    cases hn : newest l x with
    | none => rw [newA_none hn] at h; cases h
    | some q => rw [newA_some hk hn] at h; injection h with h _; rw [h]
theorem more_law {l : List Pg} {x : Int} {p : Pg} (h : newA l x = (p, true)) : ∃ m, m < l.length ∧ pg l m = p ∧ (∀ i, i < l.length → i ≠ m → pg l i ≠ p) ∧ ((newA (cutP l m) x).2 = true → (newA (cutP l m) x).1.2.1 < p.2.1 ∧ (newA (cutP l m) x).1.1 = x) := by
  obtain ⟨hk, hn⟩ := newA_true h
  rcases newest_cases l x with ⟨h0, _⟩ | ⟨m, hm, hq, hx, hr⟩
  · rw [h0] at hn; cases hn
  · rw [hq] at hn
    have hp := Option.some.inj hn
    refine ⟨m, hm, hp, fun i hi hne e => ?_, fun hb => ?_⟩
    · rw [← hp] at e
      have : less (pg l m).1 (pg l m).2.1 (pg l m).1 (pg l m).2.1 = true := by
        rcases Nat.lt_or_ge i m with h1 | h1
        · have := pkgs_lt hk h1 hm
          rw [e] at this
          exact this
        · have := pkgs_lt hk (show m < i by omega) hi
          rw [e] at this
          exact this
      unfold less at this
      simp at this
    · have hck := cutP_ok hk hm
      rcases newest_cases (cutP l m) x with ⟨h0, _⟩ | ⟨j, hj, hq2, hx2, _⟩
      · rw [newA_none h0] at hb; cases hb
      · rw [newA_some hck hq2]
        rw [cutP_length hm] at hj
        refine ⟨?_, hx2⟩
        rw [← hp]
        show (pg (cutP l m) j).2.1 < _
        rcases Nat.lt_or_ge j m with h1 | h1
        · rw [cutP_lt h1 hm] at hx2 ⊢
          exact newest_top hk hm hx hr j (by omega) hx2 (by omega)
        · rw [cutP_ge h1 hm] at hx2 ⊢
          exact newest_top hk hm hx hr (j + 1) (by omega) hx2 (by omega)
end Go.Proofs.YtlnieobmhofkdaaGreat.Ix
