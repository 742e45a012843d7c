import Derived.Test.YtcdbgkdccflbgaaGreatDoorMixJ
import Derived.Test.YtcdbgkdccflbgaaGreatDoorMathW
/- The package of a text, and what an index tells of a text, as plain data. -/
namespace Go.Proofs.YtcdbgkdccflbgaaGreatDoor.Ix
open Pk

def zeroP : Pg := (0, 0, [], [])
/-- What a text is put together to. -/
def rq (s : List UInt8) : Pg := foldW (specTo (split1 32 s) (split1 32 s).length)
/-- The package of a text. -/
def rp (s : List UInt8) : Option Pg := if pOk (rq s) = true ∧ pText (rq s) = s then some (rq s) else none
theorem rp_some {s : List UInt8} {p : Pg} : rp s = some p ↔ pOk p = true ∧ pText p = s := by
  unfold rp
  constructor
  · intro h
    split at h
    · rename_i hh
      injection h with h
      subst h
      exact hh
    · cases h
  · rintro ⟨ho, ht⟩
    have e : rq s = p := by
      obtain ⟨a, b, c, d⟩ := p
      exact spec_only ho ht
    rw [e, if_pos ⟨ho, ht⟩]
theorem rp_none {s : List UInt8} : rp s = none ↔ ∀ p, pOk p = true → pText p ≠ s := by
  constructor
  · intro h p ho ht
    rw [rp_some.2 ⟨ho, ht⟩] at h
    cases h
  · intro h
    cases hr : rp s with
    | none => rfl
    | some p => exact absurd (rp_some.1 hr).2 (h p (rp_some.1 hr).1)
theorem rp_text {p : Pg} (h : pOk p = true) : rp (pText p) = some p := rp_some.2 ⟨h, rfl⟩
theorem rp_bad {p : Pg} (h : pOk p = false) : rp (pText p) = none := by
  have e : pText p = [] := by
    unfold pText
    unfold pOk at h
    unfold text
    rw [h]
    rfl
  rw [e, rp_none]
  intro q ho ht
  have : pOk q = false := by
    cases hq : pOk q
    · rfl
    · exfalso
      have h2 : pkgOk q.1 q.2.1 q.2.2.1 q.2.2.2 = true := hq
      have h3 : text q.1 q.2.1 q.2.2.1 q.2.2.2 = [] := ht
      rw [text_nil] at h3
      rw [h2] at h3
      cases h3
  rw [this] at ho
  cases ho
/-- .. nothing, if there is none. -/
def rpD (s : List UInt8) : Pg := (rp s).getD zeroP
theorem rpD_some {s : List UInt8} {p : Pg} (h : rp s = some p) : rpD s = p := by unfold rpD; rw [h]; rfl
theorem rpD_none {s : List UInt8} (h : rp s = none) : rpD s = zeroP := by unfold rpD; rw [h]; rfl

/-- An index tells of a package. -/
def tellsP (num til : Int) (ms : List M) (p : Pg) : Bool := idxOk num til ms && decide (metaP p ∈ ms)
/-- The package of a text, if an index tells of it. -/
def has (num til : Int) (ms : List M) (s : List UInt8) : Option Pg := (rp s).filter (tellsP num til ms)
def hasD (num til : Int) (ms : List M) (s : List UInt8) : Pg := (has num til ms s).getD zeroP
def hasB (num til : Int) (ms : List M) (s : List UInt8) : Bool := (has num til ms s).isSome
theorem has_none {num til : Int} {ms : List M} {s : List UInt8} (h : rp s = none) : has num til ms s = none := by unfold has; rw [h]; rfl
theorem has_bad {num til : Int} {ms : List M} {s : List UInt8} (h : idxOk num til ms = false) : has num til ms s = none := by
  unfold has
  cases rp s with
  | none => rfl
  | some p => simp [tellsP, h]
theorem has_yes {num til : Int} {ms : List M} {s : List UInt8} {p : Pg} (h : rp s = some p) (ht : tellsP num til ms p = true) : has num til ms s = some p := by unfold has; rw [h, Option.filter_some, if_pos ht]
theorem has_no {num til : Int} {ms : List M} {s : List UInt8} {p : Pg} (h : rp s = some p) (ht : tellsP num til ms p = false) : has num til ms s = none := by unfold has; rw [h, Option.filter_some, if_neg (by rw [ht]; exact Bool.false_ne_true)]
theorem has_some {num til : Int} {ms : List M} {s : List UInt8} {p : Pg} : has num til ms s = some p ↔ (pOk p = true ∧ pText p = s) ∧ idxOk num til ms = true ∧ metaP p ∈ ms := by
  constructor
  · intro h
    cases hr : rp s with
    | none => rw [has_none hr] at h; cases h
    | some q =>
      cases ht : tellsP num til ms q
      · rw [has_no hr ht] at h; cases h
      · rw [has_yes hr ht] at h
        injection h with h
        subst h
        unfold tellsP at ht
        rw [Bool.and_eq_true] at ht
        exact ⟨rp_some.1 hr, ht.1, of_decide_eq_true ht.2⟩
  · rintro ⟨h1, h2, h3⟩
    exact has_yes (rp_some.2 h1) (by unfold tellsP; rw [h2, decide_eq_true h3]; rfl)
theorem hasD_none {num til : Int} {ms : List M} {s : List UInt8} (h : has num til ms s = none) : hasD num til ms s = zeroP ∧ hasB num til ms s = false := by unfold hasD hasB; rw [h]; exact ⟨rfl, rfl⟩
theorem hasD_some {num til : Int} {ms : List M} {s : List UInt8} {p : Pg} (h : has num til ms s = some p) : hasD num til ms s = p ∧ hasB num til ms s = true := by unfold hasD hasB; rw [h]; exact ⟨rfl, rfl⟩
theorem metaP_text {p : Pg} {s : List UInt8} (h : pText p = s) : metaP p = (p.1, p.2.1, Sm.sum s) := by unfold metaP; rw [h]
theorem rpD_len (s : List UInt8) : (rpD s).2.2.1.length ≤ 2 ∧ (rpD s).2.2.2.length ≤ 2 := by
  cases h : rp s with
  | none => rw [rpD_none h]; exact ⟨Nat.zero_le _, Nat.zero_le _⟩
  | some p =>
    rw [rpD_some h]
    have ho := (rp_some.1 h).1
    unfold pOk pkgOk at ho
    rw [Bool.and_eq_true, Bool.and_eq_true, Bool.and_eq_true] at ho
    exact ⟨(filesOk_get ho.1.2).1, (depsOk_get ho.2).1⟩
theorem hasD_len (num til : Int) (ms : List M) (s : List UInt8) : (hasD num til ms s).2.2.1.length ≤ 2 ∧ (hasD num til ms s).2.2.2.length ≤ 2 := by
  cases h : has num til ms s with
  | none => rw [(hasD_none h).1]; exact ⟨Nat.zero_le _, Nat.zero_le _⟩
  | some p =>
    rw [(hasD_some h).1]
    have := rpD_len s
    rw [rpD_some (rp_some.2 (has_some.1 h).1)] at this
    exact this
end Go.Proofs.YtcdbgkdccflbgaaGreatDoor.Ix

/- Metas as plain data: without one they are ok still, with one twice they are not. -/
namespace Go.Proofs.YtcdbgkdccflbgaaGreatDoor.Ix
open Pk

def without (l : List M) (k : Nat) : List M := l.take k ++ l.drop (k + 1)
theorem without_length {l : List M} {k : Nat} (hk : k < l.length) : (without l k).length = l.length - 1 := by unfold without; rw [List.length_append, List.length_take, List.length_drop]; omega
theorem without_lt {l : List M} {k i : Nat} (hi : i < k) (hk : k < l.length) : (without l k).getD i (0, 0, 0) = l.getD i (0, 0, 0) := by
  unfold without
  rw [List.getD_eq_getElem?_getD, List.getD_eq_getElem?_getD, List.getElem?_append_left (by rw [List.length_take]; omega), List.getElem?_take_of_lt hi]
theorem without_ge {l : List M} {k i : Nat} (hi : k ≤ i) (hk : k < l.length) : (without l k).getD i (0, 0, 0) = l.getD (i + 1) (0, 0, 0) := by
  unfold without
  have hlen : (l.take k).length = k := by rw [List.length_take]; omega
  rw [List.getD_eq_getElem?_getD, List.getD_eq_getElem?_getD, List.getElem?_append_right (by omega), hlen, List.getElem?_drop, show k + 1 + (i - k) = i + 1 by omega]
theorem less_trans {a b c d e f : Int} (h1 : less a b c d = true) (h2 : less c d e f = true) : less a b e f = true := by
  unfold less at *
  simp only [Bool.or_eq_true, Bool.and_eq_true, decide_eq_true_eq] at *
  omega
theorem less_self (a b : Int) : less a b a b = false := by unfold less; simp
theorem good_less {l : List M} (h : metasOk l = true) {i : Nat} (hi : i + 1 < l.length) : less (nm l i) (vr l i) (nm l (i + 1)) (vr l (i + 1)) = true := by
  have := metasOk_at h (i + 1) hi
  unfold good at this
  rw [Bool.and_eq_true, Bool.or_eq_true] at this
  rcases this.2 with h | h
  · exact absurd (of_decide_eq_true h) (by omega)
  · simpa using h
theorem good_mOk {l : List M} (h : metasOk l = true) {i : Nat} (hi : i < l.length) : mOk (nm l i) (vr l i) (sm l i) = true := by
  have := metasOk_at h i hi
  unfold good at this
  rw [Bool.and_eq_true] at this
  exact this.1
theorem less_chain {l : List M} (h : metasOk l = true) {i : Nat} : ∀ d, i + d + 1 < l.length → less (nm l i) (vr l i) (nm l (i + d + 1)) (vr l (i + d + 1)) = true
  | 0, hi => good_less h hi
  | d + 1, hi => less_trans (less_chain h d (by omega)) (good_less h (i := i + d + 1) hi)
theorem without_ok {l : List M} {k : Nat} (h : metasOk l = true) (hk : k < l.length) : metasOk (without l k) = true := by
  refine metasOk_good (fun i hi => ?_)
  rw [without_length hk] at hi
  unfold good
  rcases Nat.lt_or_ge i k with hlt | hge
  · have e1 : ∀ j, j ≤ i → nm (without l k) j = nm l j ∧ vr (without l k) j = vr l j ∧ sm (without l k) j = sm l j := fun j hj => by
      unfold nm vr sm
      rw [without_lt (by omega) hk]
      exact ⟨rfl, rfl, rfl⟩
    rw [(e1 i (Nat.le_refl _)).1, (e1 i (Nat.le_refl _)).2.1, (e1 i (Nat.le_refl _)).2.2, (e1 (i - 1) (by omega)).1, (e1 (i - 1) (by omega)).2.1]
    exact metasOk_at h i (by omega)
  · have e1 : nm (without l k) i = nm l (i + 1) ∧ vr (without l k) i = vr l (i + 1) ∧ sm (without l k) i = sm l (i + 1) := by
      unfold nm vr sm
      rw [without_ge hge hk]
      exact ⟨rfl, rfl, rfl⟩
    rw [e1.1, e1.2.1, e1.2.2, good_mOk h (by omega), Bool.true_and, Bool.or_eq_true]
    rcases Nat.eq_zero_or_pos i with h0 | hpos
    · exact .inl (decide_eq_true h0)
    · right
      obtain ⟨m, rfl⟩ : ∃ m, i = m + 1 := ⟨i - 1, by omega⟩
      rcases Nat.lt_or_ge m k with hm | hm
      · obtain rfl : k = m + 1 := by omega
        have e2 : nm (without l (m + 1)) m = nm l m ∧ vr (without l (m + 1)) m = vr l m := by
          unfold nm vr
          rw [without_lt (by omega) hk]
          exact ⟨rfl, rfl⟩
        rw [Nat.add_sub_cancel, e2.1, e2.2]
        exact less_trans (good_less h (by omega)) (good_less h (i := m + 1) (by omega))
      · have e2 : nm (without l k) m = nm l (m + 1) ∧ vr (without l k) m = vr l (m + 1) := by
          unfold nm vr
          rw [without_ge hm hk]
          exact ⟨rfl, rfl⟩
        rw [Nat.add_sub_cancel, e2.1, e2.2]
        exact good_less h (i := m + 1) (by omega)
theorem twice_bad {l : List M} {k : Nat} (h : metasOk l = true) (hk : k < l.length) : metasOk (l ++ [(nm l k, vr l k, sm l k)]) = false := by
  rw [metasOk_snoc]
  have : less (last l).1 (last l).2.1 (nm l k) (vr l k) = false := by
    rw [last_at]
    show less (nm l (l.length - 1)) (vr l (l.length - 1)) (nm l k) (vr l k) = false
    rcases Nat.lt_or_ge (k + 1) l.length with hlt | hge
    · have := less_chain h (i := k) (l.length - 1 - k - 1) (by omega)
      rw [show k + (l.length - 1 - k - 1) + 1 = l.length - 1 by omega] at this
      exact less_not this
    · rw [show l.length - 1 = k by omega]
      exact less_self _ _
  dsimp only
  rw [this]
  simp
theorem idx_without {num til : Int} {l : List M} {k : Nat} (h : idxOk num til l = true) (hk : k < l.length) : idxOk num til (without l k) = true := by
  unfold idxOk at *
  simp only [Bool.and_eq_true, decide_eq_true_eq] at *
  exact ⟨⟨h.1.1, by rw [without_length hk]; omega⟩, without_ok h.2 hk⟩
theorem idx_twice {num til : Int} {l : List M} {k : Nat} (h : idxOk num til l = true) (hk : k < l.length) : idxOk num til (l ++ [(nm l k, vr l k, sm l k)]) = false := by
  unfold idxOk at *
  simp only [Bool.and_eq_true] at h
  rw [twice_bad h.2 hk, Bool.and_false]
end Go.Proofs.YtcdbgkdccflbgaaGreatDoor.Ix

/- What an index of packages tells of: each of them; of what it does not tell any more it does not tell. -/
namespace Go.Proofs.YtcdbgkdccflbgaaGreatDoor.Ix
open Pk

theorem of_get {num til : Int} {l : List Pg} (h : ofOk num til l = true) : pkgsOk l = true ∧ idxOk num til (l.map metaP) = true := by
  unfold ofOk at h
  rw [Bool.and_eq_true] at h
  exact h
theorem of_pOk {num til : Int} {l : List Pg} (h : ofOk num til l = true) {k : Nat} (hk : k < l.length) : pOk (pg l k) = true := by
  have := pkgsOk_at (of_get h).1 k hk
  unfold pkgGood at this
  rw [Bool.and_eq_true] at this
  exact this.1
theorem all_has {num til : Int} {l : List Pg} (h : ofOk num til l = true) {k : Nat} (hk : k < l.length) : has num til (l.map metaP) (pText (pg l k)) = some (pg l k) :=
  has_some.2 ⟨⟨of_pOk h hk, rfl⟩, (of_get h).2, List.mem_map.2 ⟨_, pg_mem hk, rfl⟩⟩
theorem map_at {l : List Pg} {i : Nat} (hi : i < l.length) : nm (l.map metaP) i = (pg l i).1 ∧ vr (l.map metaP) i = (pg l i).2.1 := by
  unfold nm vr pg
  rw [List.getD_eq_getElem?_getD, List.getD_eq_getElem?_getD, List.getElem?_map, List.getElem?_eq_getElem hi]
  exact ⟨rfl, rfl⟩
theorem metas_ne {ms : List M} (h : metasOk ms = true) {i j : Nat} (hij : i < j) (hj : j < ms.length) : ¬ (nm ms i = nm ms j ∧ vr ms i = vr ms j) := by
  intro e
  obtain ⟨d, rfl⟩ : ∃ d, j = i + d + 1 := ⟨j - i - 1, by omega⟩
  have := less_chain h (i := i) d hj
  rw [e.1, e.2, less_self] at this
  cases this
theorem other_mem {ms : List M} (h : metasOk ms = true) {i k : Nat} (hi : i < ms.length) (hk : k < ms.length) : ms[i] ∈ without ms k ↔ i ≠ k := by
  have at' : ∀ j (hj : j < ms.length), ms[j].1 = nm ms j ∧ ms[j].2.1 = vr ms j := fun j hj => by
    unfold nm vr
    rw [List.getD_eq_getElem?_getD, List.getElem?_eq_getElem hj]
    exact ⟨rfl, rfl⟩
  have inj : ∀ j (hj : j < ms.length), ms[j] = ms[i] → j = i := fun j hj e => by
    have e1 : nm ms j = nm ms i ∧ vr ms j = vr ms i := by rw [← (at' j hj).1, ← (at' j hj).2, ← (at' i hi).1, ← (at' i hi).2, e]; exact ⟨rfl, rfl⟩
    rcases Nat.lt_trichotomy j i with hl | he | hg
    · exact absurd e1 (metas_ne h hl hi)
    · exact he
    · exact absurd ⟨e1.1.symm, e1.2.symm⟩ (metas_ne h hg hj)
  unfold without
  rw [List.mem_append]
  constructor
  · rintro (hm | hm) e
    · obtain ⟨j, hj, hje⟩ := List.getElem_of_mem hm
      rw [List.length_take] at hj
      rw [List.getElem_take] at hje
      have := inj j (by omega) hje
      omega
    · obtain ⟨j, hj, hje⟩ := List.getElem_of_mem hm
      rw [List.length_drop] at hj
      rw [List.getElem_drop] at hje
      have := inj (k + 1 + j) (by omega) hje
      omega
  · intro hne
    rcases Nat.lt_or_ge i k with hl | hg
    · exact .inl (List.mem_iff_getElem.2 ⟨i, by rw [List.length_take]; omega, by rw [List.getElem_take]⟩)
    · exact .inr (List.mem_iff_getElem.2 ⟨i - (k + 1), by rw [List.length_drop]; omega, by rw [List.getElem_drop]; congr 1; omega⟩)
theorem other_has {num til : Int} {l : List Pg} (h : ofOk num til l = true) {i k : Nat} (hi : i < l.length) (hk : k < l.length) : hasB num til (without (l.map metaP) k) (pText (pg l i)) = decide (i ≠ k) := by
  have hlen : (l.map metaP).length = l.length := List.length_map _
  have hok := (of_get h).2
  have hms : metasOk (l.map metaP) = true := by
    unfold idxOk at hok
    rw [Bool.and_eq_true] at hok
    exact hok.2
  have hiff := other_mem hms (i := i) (k := k) (by omega) (by omega)
  have he : (l.map metaP)[i]'(by omega) = metaP (pg l i) := by
    rw [List.getElem_map]
    unfold pg
    rw [List.getD_eq_getElem?_getD, List.getElem?_eq_getElem hi]
    rfl
  rw [he] at hiff
  by_cases hne : i ≠ k
  · rw [decide_eq_true hne]
    exact (hasD_some (has_some.2 ⟨⟨of_pOk h hi, rfl⟩, idx_without hok (by omega), hiff.2 hne⟩)).2
  · rw [decide_eq_false hne]
    refine (hasD_none (has_no (rp_text (of_pOk h hi)) ?_)).2
    unfold tellsP
    rw [decide_eq_false (fun hm => hne (hiff.1 hm)), Bool.and_false]
end Go.Proofs.YtcdbgkdccflbgaaGreatDoor.Ix

/- Packages as plain data: without one they are ok still, with one twice they are not. -/
namespace Go.Proofs.YtcdbgkdccflbgaaGreatDoor.Ix
open Pk

def cutP (l : List Pg) (k : Nat) : List Pg := l.take k ++ l.drop (k + 1)
def twoP (l : List Pg) (k : Nat) : List Pg := (l.take k ++ [pg l k]) ++ l.drop k
theorem cutP_length {l : List Pg} {k : Nat} (hk : k < l.length) : (cutP l k).length = l.length - 1 := by unfold cutP; rw [List.length_append, List.length_take, List.length_drop]; omega
theorem cutP_lt {l : List Pg} {k i : Nat} (hi : i < k) (hk : k < l.length) : pg (cutP l k) i = pg l i := by
  unfold cutP pg
  rw [List.getD_eq_getElem?_getD, List.getD_eq_getElem?_getD, List.getElem?_append_left (by rw [List.length_take]; omega), List.getElem?_take_of_lt hi]
theorem cutP_ge {l : List Pg} {k i : Nat} (hi : k ≤ i) (hk : k < l.length) : pg (cutP l k) i = pg l (i + 1) := by
  unfold cutP pg
  have hlen : (l.take k).length = k := by rw [List.length_take]; omega
  rw [List.getD_eq_getElem?_getD, List.getD_eq_getElem?_getD, List.getElem?_append_right (by omega), hlen, List.getElem?_drop, show k + 1 + (i - k) = i + 1 by omega]
theorem less_transP {a b c d e f : Int} (h1 : less a b c d = true) (h2 : less c d e f = true) : less a b e f = true := by
  unfold less at *
  simp only [Bool.or_eq_true, Bool.and_eq_true, decide_eq_true_eq] at *
  omega
theorem pkgs_less {l : List Pg} (h : pkgsOk l = true) {i : Nat} (hi : i + 1 < l.length) : less (pg l i).1 (pg l i).2.1 (pg l (i + 1)).1 (pg l (i + 1)).2.1 = true := by
  have := pkgsOk_at h (i + 1) hi
  unfold pkgGood at this
  rw [Bool.and_eq_true, Bool.or_eq_true] at this
  rcases this.2 with h | h
  · exact absurd (of_decide_eq_true h) (by omega)
  · simpa using h
theorem pkgs_pOk {l : List Pg} (h : pkgsOk l = true) {i : Nat} (hi : i < l.length) : pOk (pg l i) = true := by
  have := pkgsOk_at h i hi
  unfold pkgGood at this
  rw [Bool.and_eq_true] at this
  exact this.1
theorem cutP_ok {l : List Pg} {k : Nat} (h : pkgsOk l = true) (hk : k < l.length) : pkgsOk (cutP l k) = true := by
  refine pkgsOk_good (fun i hi => ?_)
  rw [cutP_length hk] at hi
  unfold pkgGood
  rcases Nat.lt_or_ge i k with hlt | hge
  · rw [cutP_lt hlt hk, cutP_lt (i := i - 1) (by omega) hk]
    exact pkgsOk_at h i (by omega)
  · rw [cutP_ge hge hk, pkgs_pOk h (by omega), Bool.true_and, Bool.or_eq_true]
    rcases Nat.eq_zero_or_pos i with h0 | hpos
    · exact .inl (decide_eq_true h0)
    · right
      obtain ⟨m, rfl⟩ : ∃ m, i = m + 1 := ⟨i - 1, by omega⟩
      rcases Nat.lt_or_ge m k with hm | hm
      · obtain rfl : k = m + 1 := by omega
        rw [Nat.add_sub_cancel, cutP_lt (by omega) hk]
        exact less_transP (pkgs_less h (by omega)) (pkgs_less h (i := m + 1) (by omega))
      · rw [Nat.add_sub_cancel, cutP_ge hm hk]
        exact pkgs_less h (i := m + 1) (by omega)
theorem twoP_length {l : List Pg} {k : Nat} (hk : k < l.length) : (twoP l k).length = l.length + 1 := by
  unfold twoP
  rw [List.length_append, List.length_append, List.length_take, List.length_drop, List.length_singleton]
  omega
theorem twoP_bad {l : List Pg} {k : Nat} (hk : k < l.length) : pkgsOk (twoP l k) = false := by
  have hlen : (l.take k).length = k := by rw [List.length_take]; omega
  have hlen2 : (l.take k ++ [pg l k]).length = k + 1 := by rw [List.length_append, hlen]; rfl
  refine pkgsOk_bad (i := k + 1) (by rw [twoP_length hk]; omega) ?_
  have e1 : pg (twoP l k) k = pg l k := by
    unfold twoP
    show List.getD _ _ _ = _
    rw [List.getD_eq_getElem?_getD, List.getElem?_append_left (by omega), List.getElem?_append_right (by omega), hlen, Nat.sub_self]
    rfl
  have e2 : pg (twoP l k) (k + 1) = pg l k := by
    unfold twoP
    show List.getD _ _ _ = List.getD _ _ _
    rw [List.getD_eq_getElem?_getD, List.getD_eq_getElem?_getD, List.getElem?_append_right (by omega), hlen2, Nat.sub_self, List.getElem?_drop, Nat.add_zero]
  have e3 : ∀ a b : Int, less a b a b = false := fun a b => by unfold less; simp
  unfold pkgGood
  rw [Nat.add_sub_cancel, e1, e2, e3, decide_eq_false (by omega), Bool.or_self, Bool.and_false]
end Go.Proofs.YtcdbgkdccflbgaaGreatDoor.Ix
