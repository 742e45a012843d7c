/- Packages in a row, as plain data: whether they are ok and ascend; what an index tells of them; no condition. -/
import Derived.Test.YthjmnkfpopfgbaaIndexMath
import Derived.Test.YthjmnkfpopfgbaaSumMath
namespace Go.Proofs.Ythjmnkfpopfgbaa.Ix
open Pk

/-- A package: name, version, files, needs. -/
abbrev Pg := Int × Int × List (Int × Int) × List (Int × Int)
def pg (l : List Pg) (i : Nat) : Pg := l.getD i (0, 0, [], [])
def pOk (p : Pg) : Bool := Pk.pkgOk p.1 p.2.1 p.2.2.1 p.2.2.2
def pText (p : Pg) : List UInt8 := Pk.text p.1 p.2.1 p.2.2.1 p.2.2.2
def pkgGood (l : List Pg) (i : Nat) : Bool := pOk (pg l i) && (decide (i = 0) || less (pg l (i - 1)).1 (pg l (i - 1)).2.1 (pg l i).1 (pg l i).2.1)
def pkgsOk (l : List Pg) : Bool := (List.range l.length).all (pkgGood l)
/-- What is told of a package. -/
def metaP (p : Pg) : M := (p.1, p.2.1, Sm.sum (pText p))
/-- An index of packages is ok. -/
def ofOk (num til : Int) (l : List Pg) : Bool := pkgsOk l && idxOk num til (l.map metaP)
theorem pkgsOk_bad {l : List Pg} {i : Nat} (hi : i < l.length) (hb : pkgGood l i = false) : pkgsOk l = false := all_bad hi hb
theorem pkgsOk_good {l : List Pg} (h : ∀ i, i < l.length → pkgGood l i = true) : pkgsOk l = true := all_good h
theorem pkgsOk_at {l : List Pg} (h : pkgsOk l = true) : ∀ i, i < l.length → pkgGood l i = true := by
  intro i hi
  unfold pkgsOk at h
  rw [List.all_eq_true] at h
  exact h i (List.mem_range.2 hi)
theorem pg_mem {l : List Pg} {i : Nat} (hi : i < l.length) : pg l i ∈ l := by
  unfold pg
  rw [List.getD_eq_getElem?_getD, List.getElem?_eq_getElem hi]
  exact List.getElem_mem hi
theorem mem_pg {l : List Pg} {x : Pg} (h : x ∈ l) : ∃ i, i < l.length ∧ pg l i = x := by
  obtain ⟨i, hi, rfl⟩ := List.mem_iff_getElem.1 h
  exact ⟨i, hi, by unfold pg; rw [List.getD_eq_getElem?_getD, List.getElem?_eq_getElem hi]; rfl⟩
theorem take_pg (l : List Pg) (k : Nat) (h : k < l.length) : l.take (k + 1) = l.take k ++ [pg l k] := by
  rw [List.take_add_one, List.getElem?_eq_getElem h, Option.toList_some]
  unfold pg
  rw [List.getD_eq_getElem?_getD, List.getElem?_eq_getElem h]
  rfl
end Go.Proofs.Ythjmnkfpopfgbaa.Ix
