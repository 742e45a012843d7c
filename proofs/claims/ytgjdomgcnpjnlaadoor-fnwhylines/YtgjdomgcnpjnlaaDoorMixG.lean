import Derived.Test.YtgjdomgcnpjnlaaDoorSPlanW
import Derived.Test.YtgjdomgcnpjnlaaDoorPlanMath2
/- What spec.PlanOk returns: whether packages can be in together; for every row of packages that can be read. -/
namespace Go.Proofs.YtgjdomgcnpjnlaaDoor
open Go.RowKit

attribute [local go_sem ↓] Go.wp_at_zero Go.wp_at_succ

end Go.Proofs.YtgjdomgcnpjnlaaDoor

/- What is told of what is wrong, as plain data. -/
namespace Go.Proofs.YtgjdomgcnpjnlaaDoor.Ix
open Pk

def nl (s : List UInt8) : List UInt8 := s ++ [10]
def told (ls : List (List UInt8)) : List UInt8 := ls.flatMap nl
def fineT : List UInt8 := [102, 105, 110, 101, 10]
def noneT : List UInt8 := [110, 111, 32, 112, 97, 99, 107, 97, 103, 101, 115, 10]
def why (l : List Pg) : List UInt8 := if pkgsOk l = true then (if (lines l).length = 0 then fineT else told (lines l)) else noneT
theorem told_app (a b : List (List UInt8)) : told (a ++ b) = told a ++ told b := by unfold told; rw [List.flatMap_append]
theorem told_one (s : List UInt8) : told [s] = s ++ [10] := by simp [told, nl]
theorem told_nil : told [] = [] := rfl
/-- Lines that are short. -/
def Short (ls : List (List UInt8)) : Prop := ∀ s ∈ ls, s.length ≤ 14
theorem Short.app {a b : List (List UInt8)} (ha : Short a) (hb : Short b) : Short (a ++ b) := fun s hs => by
  rcases List.mem_append.1 hs with h | h
  · exact ha s h
  · exact hb s h
theorem Short.flat {α : Type} {f : α → List (List UInt8)} (h : ∀ x, Short (f x)) (s : List α) : Short (s.flatMap f) := fun u hu => by
  obtain ⟨x, _, hx⟩ := List.mem_flatMap.1 hu
  exact h x u hx
theorem besideL_short (l : List Pg) (i : Nat) : Short (besideL l i) := fun s hs => by
  unfold besideL at hs
  split at hs
  · rw [List.mem_singleton] at hs
    subst hs
    exact of_decide_eq_true rfl
  · cases hs
theorem lackL_short (l : List Pg) (p : Pg) (d : Int × Int) : Short (lackL l p d) := fun s hs => by
  unfold lackL at hs
  split at hs
  · cases hs
  · rw [List.mem_singleton] at hs
    subst hs
    exact of_decide_eq_true rfl
theorem placeL_short (l : List Pg) (i : Nat) (p : Pg) (d : Int × Int) : Short (placeL l i p d) := fun s hs => by
  unfold placeL at hs
  split at hs
  · rw [List.mem_singleton] at hs
    subst hs
    exact of_decide_eq_true rfl
  · cases hs
theorem linesAt_short (l : List Pg) (i : Nat) : Short (linesAt l i) := ((besideL_short l i).app (Short.flat (lackL_short l _) _)).app (Short.flat (placeL_short l i _) _)
theorem linesTo_short (l : List Pg) (k : Nat) : Short (linesTo l k) := Short.flat (linesAt_short l) _
theorem told_len : ∀ ls : List (List UInt8), Short ls → (told ls).length ≤ 15 * ls.length
  | [], _ => Nat.le_refl _
  | s :: ls, h => by
    have h1 := told_len ls (fun x hx => h x (List.mem_cons_of_mem _ hx))
    have h2 := h s List.mem_cons_self
    show (nl s ++ told ls).length ≤ _
    unfold nl
    simp only [List.length_append, List.length_cons, List.length_nil]
    omega
theorem le_app {α : Type} {s u : List α} {n m : Nat} (h1 : s.length ≤ n) (h2 : u.length ≤ m) : (s ++ u).length ≤ n + m := by rw [List.length_append]; exact Nat.add_le_add h1 h2
theorem join_told : ∀ (s : List UInt8) (ls : List (List UInt8)), [10].intercalate (s :: ls) ++ [10] = told (s :: ls)
  | s, [] => by simp [told, nl, List.intercalate]
  | s, x :: ls => by
    have h := join_told x ls
    have e : [10].intercalate (s :: x :: ls) = s ++ [10] ++ [10].intercalate (x :: ls) := by simp [List.intercalate]
    rw [e, List.append_assoc, h]
    rfl
end Go.Proofs.YtgjdomgcnpjnlaaDoor.Ix
