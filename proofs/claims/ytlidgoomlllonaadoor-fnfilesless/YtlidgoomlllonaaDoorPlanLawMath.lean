import Derived.Test.YtlidgoomlllonaaDoorMixI
import Derived.Test.YtlidgoomlllonaaDoorMixK
/- What the laws on plans say, as plain data. -/
namespace Go.Proofs.YtlidgoomlllonaaDoor.Ix
open Pk

/-- Two packages have no place together. -/
def apart (p q : Pg) : Prop := ∀ f ∈ p.2.2.1, ∀ g ∈ q.2.2.1, f.1 ≠ g.1
theorem hasAt_true {p : Pg} {path : Int} : hasAt path p = true ↔ ∃ f ∈ p.2.2.1, f.1 = path := by
  unfold hasAt
  rw [List.any_eq_true]
  simp
theorem owner_none {l : List Pg} {i : Nat} {path : Int} (hi : i ≤ l.length) : owner l i path = none ↔ ∀ j, j < i → hasAt path (pg l j) = false := by
  constructor
  · intro h j hj
    unfold owner at h
    rw [List.find?_eq_none] at h
    have := h (pg l j) (by
      rw [← take_pgk hj]
      exact pg_mem (by rw [List.length_take]; omega))
    simpa using this
  · intro h
    exact owner_no hi h
theorem planOk_set {l : List Pg} : planOk l = true ↔ pkgsOk l = true ∧ l.Pairwise (fun p q => p.1 < q.1 ∧ apart p q) ∧ ∀ p ∈ l, ∀ d ∈ p.2.2.2, ∃ q ∈ l, meetsP d q = true := by
  constructor
  · intro h
    have hk := planOk_pkgs h
    have hl : ∀ i, i < l.length → linesAt l i = [] := fun i hi => by
      cases hh : linesAt l i with
      | nil => rfl
      | cons x xs =>
        have := planOk_false hi (by rw [hh]; simp)
        rw [h] at this
        cases this
    have asc : ∀ i, 0 < i → i < l.length → (pg l (i - 1)).1 < (pg l i).1 := fun i h0 hi => by
      rcases (besideL_nil hk hi).1 (linesAt_nil.1 (hl i hi)).1 with h | h
      · omega
      · exact h
    have asc2 : ∀ d i, i + d + 1 < l.length → (pg l i).1 < (pg l (i + d + 1)).1 := fun d => by
      induction d with
      | zero => intro i hi; exact asc (i + 1) (by omega) hi
      | succ d ih =>
        intro i hi
        have a := ih i (by omega)
        have b := asc (i + d + 1 + 1) (by omega) hi
        rw [Nat.add_sub_cancel] at b
        exact Int.lt_trans a b
    refine ⟨hk, ?_, ?_⟩
    · rw [List.pairwise_iff_getElem]
      intro i j hi hj hij
      rw [← pg_get hi, ← pg_get hj]
      refine ⟨?_, fun f hf g hg e => ?_⟩
      · have := asc2 (j - i - 1) i (by omega)
        rw [show i + (j - i - 1) + 1 = j by omega] at this
        exact this
      · have h1 := placeL_nil.1 ((linesAt_nil.1 (hl j hj)).2.2 g hg)
        have h2 := (owner_none (Nat.le_of_lt hj)).1 h1 i hij
        rw [hasAt_true.2 ⟨f, hf, e⟩] at h2
        cases h2
    · intro p hp d hd
      obtain ⟨i, hi, e⟩ := mem_ix hp
      rw [← e] at hd
      have h1 := lackL_nil.1 ((linesAt_nil.1 (hl i hi)).2.1 d hd)
      unfold met at h1
      rw [List.find?_isSome] at h1
      exact h1
  · rintro ⟨hk, hp, hn⟩
    rw [List.pairwise_iff_getElem] at hp
    refine planOk_true hk (fun i hi => linesAt_nil.2 ⟨?_, fun d hd => ?_, fun f hf => ?_⟩)
    · refine (besideL_nil hk hi).2 ?_
      rcases Nat.eq_zero_or_pos i with h0 | h0
      · exact .inl h0
      · refine .inr ?_
        have := (hp (i - 1) i (by omega) hi (by omega)).1
        rw [← pg_get, ← pg_get] at this
        exact this
    · rw [lackL_nil]
      unfold met
      rw [List.find?_isSome]
      exact hn _ (pg_mem hi) d hd
    · rw [placeL_nil, owner_none (Nat.le_of_lt hi)]
      intro j hj
      cases hh : hasAt f.1 (pg l j) with
      | false => rfl
      | true =>
        obtain ⟨g, hg, e⟩ := hasAt_true.1 hh
        have := (hp j i (by omega) hi hj).2
        rw [← pg_get, ← pg_get] at this
        exact absurd e (this g hg f hf)
theorem plan_pairs {l : List Pg} (h : planOk l = true) {i j : Nat} (hij : i < j) (hj : j < l.length) : (pg l i).1 < (pg l j).1 ∧ apart (pg l i) (pg l j) := by
  have := (planOk_set.1 h).2.1
  rw [List.pairwise_iff_getElem] at this
  have := this i j (by omega) hj hij
  rw [← pg_get, ← pg_get] at this
  exact this
theorem plan_name {l : List Pg} (h : planOk l = true) {i j : Nat} (hi : i < l.length) (hj : j < l.length) (he : (pg l i).1 = (pg l j).1) : i = j := by
  rcases Nat.lt_trichotomy i j with h1 | h1 | h1
  · have := (plan_pairs h h1 hj).1; omega
  · exact h1
  · have := (plan_pairs h h1 hi).1; omega
/-- What a package needs is met by the newest. -/
theorem plan_need {l : List Pg} (h : planOk l = true) {i : Nat} (hi : i < l.length) {d : Int × Int} (hd : d ∈ (pg l i).2.2.2) : (newA l d.1).2 = true ∧ d.2 ≤ (newA l d.1).1.2.1 := by
  have hk := planOk_pkgs h
  obtain ⟨q, hq, hm⟩ := (planOk_set.1 h).2.2 _ (pg_mem hi) d hd
  unfold meetsP at hm
  simp only [Bool.and_eq_true, decide_eq_true_eq] at hm
  obtain ⟨j, hj, e⟩ := mem_ix hq
  rw [← e] at hm
  have := (newest_law (x := d.1) hk).1 j hj hm.1
  exact ⟨this.1, Int.le_trans hm.2 this.2⟩
/-- The files of a package ascend. -/
theorem files_asc {p : Pg} (h : pOk p = true) {i j : Nat} (hij : i < j) (hj : j < p.2.2.1.length) : Pk.fst p.2.2.1 i < Pk.fst p.2.2.1 j := by
  unfold pOk Pk.pkgOk at h
  simp only [Bool.and_eq_true] at h
  have hf := h.1.2
  unfold filesOk at hf
  rw [Bool.and_eq_true] at hf
  have hl := of_decide_eq_true hf.1
  obtain rfl : i = 0 := by omega
  obtain rfl : j = 1 := by omega
  have hg := List.all_eq_true.1 hf.2 1 (List.mem_range.2 hj)
  unfold fileGood at hg
  simp only [Bool.and_eq_true, Bool.or_eq_true, decide_eq_true_eq] at hg
  rcases hg.2 with h1 | h1
  · omega
  · simpa using h1
/-- Without one. -/
theorem mem_cut {l : List Pg} {k : Nat} (hk : k < l.length) {q : Pg} : q ∈ cutP l k ↔ ∃ j, j < l.length ∧ j ≠ k ∧ pg l j = q := by
  constructor
  · intro hq
    obtain ⟨i, hi, e⟩ := mem_ix hq
    rw [cutP_length hk] at hi
    rcases Nat.lt_or_ge i k with h | h
    · rw [cutP_lt h hk] at e
      exact ⟨i, by omega, by omega, e⟩
    · rw [cutP_ge h hk] at e
      exact ⟨i + 1, by omega, by omega, e⟩
  · rintro ⟨j, hj, hne, rfl⟩
    rcases Nat.lt_or_ge j k with h | h
    · rw [← cutP_lt h hk]
      exact pg_mem (by rw [cutP_length hk]; omega)
    · have := cutP_ge (l := l) (k := k) (i := j - 1) (by omega) hk
      rw [Nat.sub_add_cancel (by omega)] at this
      rw [← this]
      exact pg_mem (by rw [cutP_length hk]; omega)
/-- The one at a place is needed by another. -/
def neededAt (l : List Pg) (k i : Nat) : Bool := decide (i ≠ k) && (pg l i).2.2.2.any (fun d => d.1 == (pg l k).1)
def needed (l : List Pg) (k : Nat) : Bool := (List.range l.length).any (neededAt l k)
theorem needed_true {l : List Pg} {k : Nat} : needed l k = true ↔ ∃ i, i < l.length ∧ i ≠ k ∧ ∃ d ∈ (pg l i).2.2.2, d.1 = (pg l k).1 := by
  unfold needed neededAt
  simp only [List.any_eq_true, List.mem_range, Bool.and_eq_true, decide_eq_true_eq, beq_iff_eq]
theorem cutP_sub {l : List Pg} {k : Nat} : (cutP l k).Sublist l := by
  unfold cutP
  have := List.take_append_drop k l
  conv => rhs; rw [← this]
  refine List.Sublist.append (List.Sublist.refl _) ?_
  rw [← List.drop_drop]
  exact List.drop_sublist _ _
theorem plan_less {l : List Pg} {k : Nat} (h : planOk l = true) (hk : k < l.length) : planOk (cutP l k) = !needed l k := by
  obtain ⟨h1, h2, h3⟩ := planOk_set.1 h
  rw [Bool.eq_iff_iff, Bool.not_eq_true']
  constructor
  · intro hc
    obtain ⟨_, _, c3⟩ := planOk_set.1 hc
    cases hn : needed l k with
    | false => rfl
    | true =>
      obtain ⟨i, hi, hne, d, hd, he⟩ := needed_true.1 hn
      obtain ⟨q, hq, hm⟩ := c3 (pg l i) ((mem_cut hk).2 ⟨i, hi, hne, rfl⟩) d hd
      obtain ⟨j, hj, hjk, e⟩ := (mem_cut hk).1 hq
      unfold meetsP at hm
      simp only [Bool.and_eq_true, decide_eq_true_eq] at hm
      rw [← e] at hm
      exact absurd (plan_name h hj hk (hm.1.trans he)) hjk
  · intro hn
    refine planOk_set.2 ⟨cutP_ok h1 hk, h2.sublist cutP_sub, fun p hp d hd => ?_⟩
    obtain ⟨i, hi, hik, rfl⟩ := (mem_cut hk).1 hp
    obtain ⟨q, hq, hm⟩ := h3 _ (pg_mem hi) d hd
    obtain ⟨j, hj, e⟩ := mem_ix hq
    refine ⟨q, (mem_cut hk).2 ⟨j, hj, fun hjk => ?_, e⟩, hm⟩
    unfold meetsP at hm
    simp only [Bool.and_eq_true, decide_eq_true_eq] at hm
    have : needed l k = true := needed_true.2 ⟨i, hi, hik, d, hd, by rw [← hm.1, ← e, hjk]⟩
    rw [hn] at this
    cases this
end Go.Proofs.YtlidgoomlllonaaDoor.Ix
