/- Packages as plain data: those of one name, and the newest of them. -/
import Derived.Test.YtkkkookgpphpiaaDoorStoreLessMath
namespace Go.Proofs.YtkkkookgpphpiaaDoor.Ix
open Pk

def shelf (l : List Pg) (n : Int) : List Pg := l.filter (fun p => decide (p.1 = n))
def newest (l : List Pg) (n : Int) : Option Pg := (shelf l n).getLast?
def orNone : Option Pg → Pg × Bool
  | some p => (p, true)
  | none => ((0, 0, [], []), false)
def newA (l : List Pg) (n : Int) : Pg × Bool := orNone (if pkgsOk l = true then newest l n else none)
theorem take_pgs {l : List Pg} {k : Nat} (hk : k < l.length) : l.take (k + 1) = l.take k ++ [pg l k] := by
  rw [List.take_add_one]
  unfold pg
  rw [List.getD_eq_getElem?_getD, List.getElem?_eq_getElem hk]
  rfl
theorem shelf_snoc {l : List Pg} {k : Nat} (hk : k < l.length) (n : Int) : shelf (l.take (k + 1)) n = if (pg l k).1 = n then shelf (l.take k) n ++ [pg l k] else shelf (l.take k) n := by
  rw [take_pgs hk]
  unfold shelf
  rw [List.filter_append]
  by_cases h : (pg l k).1 = n
  · rw [if_pos h, List.filter_cons_of_pos (by simpa using h), List.filter_nil]
  · rw [if_neg h, List.filter_cons_of_neg (by simpa using h), List.filter_nil, List.append_nil]
theorem shelf_rest {l : List Pg} {n : Int} {i : Nat} (hi : i ≤ l.length) (h : ∀ j, i ≤ j → j < l.length → (pg l j).1 ≠ n) : shelf l n = shelf (l.take i) n := by
  have : ∀ d, i + d ≤ l.length → shelf (l.take (i + d)) n = shelf (l.take i) n := fun d => by
    induction d with
    | zero => intro _; rfl
    | succ d ih =>
      intro hd
      rw [← Nat.add_assoc, shelf_snoc (by omega), if_neg (h _ (by omega) (by omega)), ih (by omega)]
  have h2 := this (l.length - i) (by omega)
  rw [show i + (l.length - i) = l.length by omega, List.take_length] at h2
  exact h2
theorem newest_none {l : List Pg} {n : Int} (h : ∀ j, 0 ≤ j → j < l.length → (pg l j).1 ≠ n) : newest l n = none := by
  unfold newest
  rw [shelf_rest (Nat.zero_le _) h]
  rfl
theorem newest_at {l : List Pg} {n : Int} {i : Nat} (hi : i < l.length) (hn : (pg l i).1 = n) (h : ∀ j, i + 1 ≤ j → j < l.length → (pg l j).1 ≠ n) : newest l n = some (pg l i) := by
  unfold newest
  rw [shelf_rest (i := i + 1) hi h, shelf_snoc hi, if_pos hn, List.getLast?_concat]
theorem newA_bad {l : List Pg} {n : Int} (h : pkgsOk l = false) : newA l n = ((0, 0, [], []), false) := by unfold newA; rw [h]; rfl
theorem newA_none {l : List Pg} {n : Int} (h : newest l n = none) : newA l n = ((0, 0, [], []), false) := by
  unfold newA
  rw [h]
  split <;> rfl
theorem newA_some {l : List Pg} {n : Int} {p : Pg} (hk : pkgsOk l = true) (h : newest l n = some p) : newA l n = (p, true) := by
  unfold newA
  rw [h, if_pos hk]
  rfl
theorem pOk_name {p : Pg} (h : pOk p = true) : 1 ≤ p.1 ∧ p.1 ≤ 4 := by
  unfold pOk Pk.pkgOk at h
  simp only [Bool.and_eq_true, Pk.inB_true] at h
  omega
theorem shelf_mem {l : List Pg} {n : Int} {p : Pg} (h : p ∈ shelf l n) : p ∈ l ∧ p.1 = n := by
  unfold shelf at h
  rw [List.mem_filter] at h
  exact ⟨h.1, by simpa using h.2⟩
theorem newest_mem {l : List Pg} {n : Int} {p : Pg} (h : newest l n = some p) : p ∈ l ∧ p.1 = n := shelf_mem (List.mem_of_getLast? h)
end Go.Proofs.YtkkkookgpphpiaaDoor.Ix
