/- Packages in a row, as plain data: one more in its place, where one is; no condition. -/
import Derived.Test.YthjmnkfpopfgbaaPgMath
namespace Go.Proofs.Ythjmnkfpopfgbaa.Ix
open Pk

/-- A package is ahead of another one, by name, then by version. -/
def ahead (p q : Pg) : Bool := less p.1 p.2.1 q.1 q.2.1
/-- A package more, in its place. -/
def wth (l : List Pg) (p : Pg) : List Pg := l.filter (fun x => ahead x p) ++ [p] ++ l.filter (fun x => ahead p x)
theorem filter_snoc {α : Type} (f : α → Bool) (l : List α) (x : α) : (l ++ [x]).filter f = l.filter f ++ (if f x = true then [x] else []) := by
  rw [List.filter_append]
  cases h : f x <;> simp [h]
theorem wth_len (l : List Pg) (p : Pg) : (wth l p).length ≤ 2 * l.length + 1 := by
  unfold wth
  rw [List.length_append, List.length_append]
  have h1 := List.length_filter_le (fun x => ahead x p) l
  have h2 := List.length_filter_le (fun x => ahead p x) l
  simp only [List.length_cons, List.length_nil]
  omega
/-- Of that name and version. -/
def named (p : Pg) (n v : Int) : Bool := decide (p.1 = n) && decide (p.2.1 = v)
theorem less_not {a b c d : Int} (h : less a b c d = true) : less c d a b = false := by
  unfold less at *
  simp only [Bool.or_eq_true, Bool.and_eq_true, decide_eq_true_eq, Bool.or_eq_false_iff, Bool.and_eq_false_iff, decide_eq_false_iff_not] at *
  omega
/-- No more than one more: of two that are ahead of each other there are none. -/
theorem wth_len1 (l : List Pg) (p : Pg) : (wth l p).length ≤ l.length + 1 := by
  unfold wth
  rw [List.length_append, List.length_append]
  have : (l.filter (fun x => ahead x p)).length + (l.filter (fun x => ahead p x)).length ≤ l.length := by
    induction l with
    | nil => simp
    | cons x l ih =>
      simp only [List.filter_cons, List.length_cons]
      cases h1 : ahead x p
      · cases h2 : ahead p x <;> simp <;> omega
      · have : ahead p x = false := less_not h1
        simp [this]; omega
  simp only [List.length_cons, List.length_nil]
  omega
end Go.Proofs.Ythjmnkfpopfgbaa.Ix
