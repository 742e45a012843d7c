import Derived.Test.YtlnieobmhofkdaaGreatMathW
/- Packages as plain data: without one they are ok still, with one twice they are not. -/
namespace Go.Proofs.YtlnieobmhofkdaaGreat.Ix
open Pk

def cutP (l : List Pg) (k : Nat) : List Pg := l.take k ++ l.drop (k + 1)
def twoP (l : List Pg) (k : Nat) : List Pg := (l.take k ++ [pg l k]) ++ l.drop k
theorem cutP_length {l : List Pg} {k : Nat} (hk : k < l.length) : (cutP l k).length = l.length - 1 := by unfold cutP; rw [List.length_append, List.length_take, List.length_drop]; omega
theorem cutP_lt {l : List Pg} {k i : Nat} (hi : i < k) (hk : k < l.length) : pg (cutP l k) i = pg l i := by
  unfold cutP pg
  rw [List.getD_eq_getElem?_getD, List.getD_eq_getElem?_getD, List.getElem?_append_left (by rw [List.length_take]; omega), List.getElem?_take_of_lt hi]
theorem cutP_ge {l : List Pg} {k i : Nat} (hi : k ≤ i) (hk : k < l.length) : pg (cutP l k) i = pg l (i + 1) := by
  unfold cutP pg
  have hlen : (l.take k).length = k := by rw [List.length_take]; omega
  rw [List.getD_eq_getElem?_getD, List.getD_eq_getElem?_getD, List.getElem?_append_right (by omega), hlen, List.getElem?_drop, show k + 1 + (i - k) = i + 1 by omega]
theorem less_transP {a b c d e f : Int} (h1 : less a b c d = true) (h2 : less c d e f = true) : less a b e f = true := by
  unfold less at *
  simp only [Bool.or_eq_true, Bool.and_eq_true, decide_eq_true_eq] at *
  omega
theorem pkgs_less {l : List Pg} (h : pkgsOk l = true) {i : Nat} (hi : i + 1 < l.length) : less (pg l i).1 (pg l i).2.1 (pg l (i + 1)).1 (pg l (i + 1)).2.1 = true := by
  have := pkgsOk_at h (i + 1) hi
  unfold pkgGood at this
  rw [Bool.and_eq_true, Bool.or_eq_true] at this
  rcases this.2 with h | h
  · exact absurd (of_decide_eq_true h) (by omega)
  · simpa using h
theorem pkgs_pOk {l : List Pg} (h : pkgsOk l = true) {i : Nat} (hi : i < l.length) : pOk (pg l i) = true := by
  have := pkgsOk_at h i hi
  unfold pkgGood at this
  rw [Bool.and_eq_true] at this
  exact this.1
theorem cutP_ok {l : List Pg} {k : Nat} (h : pkgsOk l = true) (hk : k < l.length) : pkgsOk (cutP l k) = true := by
  refine pkgsOk_good (fun i hi => ?_)
  rw [cutP_length hk] at hi
  unfold pkgGood
  rcases Nat.lt_or_ge i k with hlt | hge
  · rw [cutP_lt hlt hk, cutP_lt (i := i - 1) (by omega) hk]
    exact pkgsOk_at h i (by omega)
  · rw [cutP_ge hge hk, pkgs_pOk h (by omega), Bool.true_and, Bool.or_eq_true]
    rcases Nat.eq_zero_or_pos i with h0 | hpos
    · exact .inl (decide_eq_true h0)
    · right
      obtain ⟨m, rfl⟩ : ∃ m, i = m + 1 := ⟨i - 1, by omega⟩
      rcases Nat.lt_or_ge m k with hm | hm
      · obtain rfl : k = m + 1 := by omega
        rw [Nat.add_sub_cancel, cutP_lt (by omega) hk]
        exact less_transP (pkgs_less h (by omega)) (pkgs_less h (i := m + 1) (by omega))
      · rw [Nat.add_sub_cancel, cutP_ge hm hk]
        exact pkgs_less h (i := m + 1) (by omega)
theorem twoP_length {l : List Pg} {k : Nat} (hk : k < l.length) : (twoP l k).length = l.length + 1 := by
  unfold twoP
  rw [List.length_append, List.length_append, List.length_take, List.length_drop, List.length_singleton]
  omega
theorem twoP_bad {l : List Pg} {k : Nat} (hk : k < l.length) : pkgsOk (twoP l k) = false := by
  have hlen : (l.take k).length = k := by rw [List.length_take]; omega
  have hlen2 : (l.take k ++ [pg l k]).length = k + 1 := by rw [List.length_append, hlen]; rfl
  refine pkgsOk_bad (i := k + 1) (by rw [twoP_length hk]; omega) ?_
  have e1 : pg (twoP l k) k = pg l k := by
    unfold twoP
    show List.getD _ _ _ = _
    rw [List.getD_eq_getElem?_getD, List.getElem?_append_left (by omega), List.getElem?_append_right (by omega), hlen, Nat.sub_self]
    rfl
  have e2 : pg (twoP l k) (k + 1) = pg l k := by
    unfold twoP
    show List.getD _ _ _ = List.getD _ _ _
    rw [List.getD_eq_getElem?_getD, List.getD_eq_getElem?_getD, List.getElem?_append_right (by omega), hlen2, Nat.sub_self, List.getElem?_drop, Nat.add_zero]
  have e3 : ∀ a b : Int, less a b a b = false := fun a b => by unfold less; simp
  unfold pkgGood
  rw [Nat.add_sub_cancel, e1, e2, e3, decide_eq_false (by omega), Bool.or_self, Bool.and_false]
end Go.Proofs.YtlnieobmhofkdaaGreat.Ix

/- Packages as plain data: those of one name, and the newest of them. -/
namespace Go.Proofs.YtlnieobmhofkdaaGreat.Ix
open Pk

def shelf (l : List Pg) (n : Int) : List Pg := l.filter (fun p => decide (p.1 = n))
def newest (l : List Pg) (n : Int) : Option Pg := (shelf l n).getLast?
def orNone : Option Pg → Pg × Bool
  | some p => (p, true)
  | none => ((0, 0, [], []), false)
def newA (l : List Pg) (n : Int) : Pg × Bool := orNone (if pkgsOk l = true then newest l n else none)
theorem take_pgs {l : List Pg} {k : Nat} (hk : k < l.length) : l.take (k + 1) = l.take k ++ [pg l k] := by
  rw [List.take_add_one]
  unfold pg
  rw [List.getD_eq_getElem?_getD, List.getElem?_eq_getElem hk]
  rfl
theorem shelf_snoc {l : List Pg} {k : Nat} (hk : k < l.length) (n : Int) : shelf (l.take (k + 1)) n = if (pg l k).1 = n then shelf (l.take k) n ++ [pg l k] else shelf (l.take k) n := by
  rw [take_pgs hk]
  unfold shelf
  rw [List.filter_append]
  by_cases h : (pg l k).1 = n
  · rw [if_pos h, List.filter_cons_of_pos (by simpa using h), List.filter_nil]
  · rw [if_neg h, List.filter_cons_of_neg (by simpa using h), List.filter_nil, List.append_nil]
theorem shelf_rest {l : List Pg} {n : Int} {i : Nat} (hi : i ≤ l.length) (h : ∀ j, i ≤ j → j < l.length → (pg l j).1 ≠ n) : shelf l n = shelf (l.take i) n := by
  have : ∀ d, i + d ≤ l.length → shelf (l.take (i + d)) n = shelf (l.take i) n := fun d => by
    induction d with
    | zero => intro _; rfl
    | succ d ih =>
      intro hd
      rw [← Nat.add_assoc, shelf_snoc (by omega), if_neg (h _ (by omega) (by omega)), ih (by omega)]
  have h2 := this (l.length - i) (by omega)
  rw [show i + (l.length - i) = l.length by omega, List.take_length] at h2
  exact h2
theorem newest_none {l : List Pg} {n : Int} (h : ∀ j, 0 ≤ j → j < l.length → (pg l j).1 ≠ n) : newest l n = none := by
  unfold newest
  rw [shelf_rest (Nat.zero_le _) h]
  rfl
theorem newest_at {l : List Pg} {n : Int} {i : Nat} (hi : i < l.length) (hn : (pg l i).1 = n) (h : ∀ j, i + 1 ≤ j → j < l.length → (pg l j).1 ≠ n) : newest l n = some (pg l i) := by
  unfold newest
  rw [shelf_rest (i := i + 1) hi h, shelf_snoc hi, if_pos hn, List.getLast?_concat]
theorem newA_bad {l : List Pg} {n : Int} (h : pkgsOk l = false) : newA l n = ((0, 0, [], []), false) := by unfold newA; rw [h]; rfl
theorem newA_none {l : List Pg} {n : Int} (h : newest l n = none) : newA l n = ((0, 0, [], []), false) := by
  unfold newA
  rw [h]
  split <;> rfl
theorem newA_some {l : List Pg} {n : Int} {p : Pg} (hk : pkgsOk l = true) (h : newest l n = some p) : newA l n = (p, true) := by
  unfold newA
  rw [h, if_pos hk]
  rfl
theorem pOk_name {p : Pg} (h : pOk p = true) : 1 ≤ p.1 ∧ p.1 ≤ 4 := by
  unfold pOk Pk.pkgOk at h
  simp only [Bool.and_eq_true, Pk.inB_true] at h
  omega
theorem shelf_mem {l : List Pg} {n : Int} {p : Pg} (h : p ∈ shelf l n) : p ∈ l ∧ p.1 = n := by
  unfold shelf at h
  rw [List.mem_filter] at h
  exact ⟨h.1, by simpa using h.2⟩
theorem newest_mem {l : List Pg} {n : Int} {p : Pg} (h : newest l n = some p) : p ∈ l ∧ p.1 = n := shelf_mem (List.mem_of_getLast? h)
end Go.Proofs.YtlnieobmhofkdaaGreat.Ix
