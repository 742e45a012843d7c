/- Indexes as plain data: which are ok; no condition. -/
import Derived.Test.YthjmnkfpopfgbaaPkgMath
namespace Go.Proofs.Ythjmnkfpopfgbaa.Ix
open Pk

/-- What an index tells of a package: name, version, sum. -/
abbrev M := Int × Int × Int
def nm (l : List M) (i : Nat) : Int := (l.getD i (0, 0, 0)).1
def vr (l : List M) (i : Nat) : Int := (l.getD i (0, 0, 0)).2.1
def sm (l : List M) (i : Nat) : Int := (l.getD i (0, 0, 0)).2.2
def less (n v m w : Int) : Bool := decide (n < m) || (decide (n = m) && decide (v < w))
def mOk (n v s : Int) : Bool := inB n 1 4 && inB v 1 5 && inB s 0 9972
def good (l : List M) (i : Nat) : Bool := mOk (nm l i) (vr l i) (sm l i) && (decide (i = 0) || less (nm l (i - 1)) (vr l (i - 1)) (nm l i) (vr l i))
def metasOk (l : List M) : Bool := (List.range l.length).all (good l)
def idxOk (num til : Int) (l : List M) : Bool := inB num 1 30 && inB til 0 60 && decide (l.length ≤ 8) && metasOk l
/-- The last one; nothing, if there is none. -/
def last (l : List M) : M := l.getLastD (0, 0, 0)

theorem metasOk_bad {l : List M} {i : Nat} (hi : i < l.length) (hb : good l i = false) : metasOk l = false := all_bad hi hb
theorem metasOk_good {l : List M} (h : ∀ i, i < l.length → good l i = true) : metasOk l = true := all_good h
theorem metasOk_at {l : List M} (h : metasOk l = true) : ∀ i, i < l.length → good l i = true := by
  intro i hi
  unfold metasOk at h
  rw [List.all_eq_true] at h
  exact h i (List.mem_range.2 hi)
theorem getD_left (p t : List M) (i : Nat) (hi : i < p.length) : (p ++ t).getD i (0, 0, 0) = p.getD i (0, 0, 0) := by
  rw [List.getD_eq_getElem?_getD, List.getD_eq_getElem?_getD, List.getElem?_append_left hi]
theorem good_left (p t : List M) (i : Nat) (hi : i < p.length) : good (p ++ t) i = good p i := by
  unfold good nm vr sm
  rw [getD_left p t i hi]
  rcases Nat.eq_zero_or_pos i with rfl | h0
  · simp
  · rw [getD_left p t (i - 1) (by omega)]
theorem getD_last (p : List M) (x : M) : (p ++ [x]).getD p.length (0, 0, 0) = x := by
  rw [List.getD_eq_getElem?_getD, List.getElem?_append_right (Nat.le_refl _)]
  simp
theorem last_at (p : List M) : last p = p.getD (p.length - 1) (0, 0, 0) := by
  unfold last
  rw [List.getLastD_eq_getLast?, List.getLast?_eq_getElem?, List.getD_eq_getElem?_getD]
theorem last_snoc (p : List M) (x : M) : last (p ++ [x]) = x := by unfold last; simp
theorem less_zero {n v s : Int} (h : mOk n v s = true) : less 0 0 n v = true := by
  unfold mOk at h
  rw [Bool.and_eq_true, Bool.and_eq_true, inB_true, inB_true] at h
  unfold less
  rw [decide_eq_true (by omega), Bool.true_or]
theorem good_last (p : List M) (x : M) : good (p ++ [x]) p.length = (mOk x.1 x.2.1 x.2.2 && less (last p).1 (last p).2.1 x.1 x.2.1) := by
  unfold good nm vr sm
  rw [getD_last]
  rcases Nat.eq_zero_or_pos p.length with h0 | h0
  · obtain rfl := List.length_eq_zero_iff.1 h0
    cases hm : mOk x.1 x.2.1 x.2.2
    · simp
    · have := less_zero hm
      simp [last, this]
  · rw [getD_left p [x] (p.length - 1) (by omega), last_at p, decide_eq_false (by omega : ¬ p.length = 0), Bool.false_or]
theorem metasOk_snoc (p : List M) (x : M) : metasOk (p ++ [x]) = (metasOk p && (mOk x.1 x.2.1 x.2.2 && less (last p).1 (last p).2.1 x.1 x.2.1)) := by
  rw [← good_last]
  unfold metasOk
  rw [List.length_append, List.length_singleton, List.range_succ, List.all_append, List.all_cons, List.all_nil, Bool.and_true]
  congr 1
  rw [Bool.eq_iff_iff, List.all_eq_true, List.all_eq_true]
  constructor
  · intro h i hi; rw [← good_left p [x] i (List.mem_range.1 hi)]; exact h i hi
  · intro h i hi; rw [good_left p [x] i (List.mem_range.1 hi)]; exact h i hi
theorem metasOk_prefix {p l : List M} (h : p <+: l) (hl : metasOk l = true) : metasOk p = true := by
  obtain ⟨t, rfl⟩ := h
  refine metasOk_good fun i hi => ?_
  rw [← good_left p t i hi]
  exact metasOk_at hl i (by rw [List.length_append]; omega)
theorem metasOk_stop {p l : List M} (h : p <+: l) (hp : metasOk p = false) : metasOk l = false := by
  cases hl : metasOk l
  · rfl
  · rw [metasOk_prefix h hl] at hp; cases hp
/-- What has come when k rounds are over. -/
def upto (l : List M) (k : Nat) : List M := (List.range k).map fun j => (nm l j, vr l j, sm l j)
theorem upto_succ (l : List M) (k : Nat) : upto l (k + 1) = upto l k ++ [(nm l k, vr l k, sm l k)] := by simp [upto, List.range_succ]
theorem upto_length (l : List M) (k : Nat) : (upto l k).length = k := by simp [upto]
theorem upto_take (l : List M) {k : Nat} (hk : k ≤ l.length) : upto l k = l.take k := by
  apply List.ext_getElem
  · simp [upto, hk]
  · intro i h1 h2
    have : i < l.length := by simp [upto] at h1; omega
    simp [upto, nm, vr, sm, this]
theorem upto_all (l : List M) : upto l l.length = l := by rw [upto_take l (Nat.le_refl _), List.take_length]
end Go.Proofs.Ythjmnkfpopfgbaa.Ix
