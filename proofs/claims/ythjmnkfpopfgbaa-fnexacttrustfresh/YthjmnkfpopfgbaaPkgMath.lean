/- Packages as plain data: which are ok, and their text; no condition. -/
import Derived.KernelRfl
namespace Go.Proofs.Ythjmnkfpopfgbaa.Pk

def inB (n lo hi : Int) : Bool := decide (lo ≤ n) && decide (n ≤ hi)
theorem inB_true {n lo hi : Int} : inB n lo hi = true ↔ lo ≤ n ∧ n ≤ hi := by unfold inB; simp
theorem inB_false {n lo hi : Int} : inB n lo hi = false ↔ ¬ (lo ≤ n ∧ n ≤ hi) := by unfold inB; simp

/-- The first, the second number of the pair at a place. -/
def fst (l : List (Int × Int)) (i : Nat) : Int := (l.getD i (0, 0)).1
def snd (l : List (Int × Int)) (i : Nat) : Int := (l.getD i (0, 0)).2

/-- The file at a place is ok. -/
def fileGood (l : List (Int × Int)) (i : Nat) : Bool := inB (fst l i) 0 5 && inB (snd l i) 0 9 && (decide (i = 0) || decide (fst l (i - 1) < fst l i))
def filesOk (l : List (Int × Int)) : Bool := decide (l.length ≤ 2) && (List.range l.length).all (fileGood l)
/-- The need at a place is ok. -/
def depGood (nm : Int) (l : List (Int × Int)) (i : Nat) : Bool := inB (fst l i) 1 4 && !decide (fst l i = nm) && inB (snd l i) 1 5 && (decide (i = 0) || decide (fst l (i - 1) < fst l i))
def depsOk (nm : Int) (l : List (Int × Int)) : Bool := decide (l.length ≤ 2) && (List.range l.length).all (depGood nm l)
def pkgOk (nm vr : Int) (fs ds : List (Int × Int)) : Bool := inB nm 1 4 && inB vr 1 5 && filesOk fs && depsOk nm ds

theorem all_bad {n : Nat} {g : Nat → Bool} {i : Nat} (hi : i < n) (hb : g i = false) : (List.range n).all g = false := by
  rw [Bool.eq_false_iff]
  intro h
  rw [List.all_eq_true] at h
  have := h i (List.mem_range.2 hi)
  rw [hb] at this
  cases this
theorem all_good {n : Nat} {g : Nat → Bool} (h : ∀ i, i < n → g i = true) : (List.range n).all g = true := by
  rw [List.all_eq_true]
  intro i hi
  exact h i (List.mem_range.1 hi)
theorem filesOk_bad {l : List (Int × Int)} {i : Nat} (hi : i < l.length) (hb : fileGood l i = false) : filesOk l = false := by unfold filesOk; rw [all_bad hi hb, Bool.and_false]
theorem filesOk_good {l : List (Int × Int)} (h : ∀ i, i < l.length → fileGood l i = true) : filesOk l = decide (l.length ≤ 2) := by unfold filesOk; rw [all_good h, Bool.and_true]
theorem depsOk_bad {nm : Int} {l : List (Int × Int)} {i : Nat} (hi : i < l.length) (hb : depGood nm l i = false) : depsOk nm l = false := by unfold depsOk; rw [all_bad hi hb, Bool.and_false]
theorem depsOk_good {nm : Int} {l : List (Int × Int)} (h : ∀ i, i < l.length → depGood nm l i = true) : depsOk nm l = decide (l.length ≤ 2) := by unfold depsOk; rw [all_good h, Bool.and_true]
theorem filesOk_get {l : List (Int × Int)} (h : filesOk l = true) : l.length ≤ 2 ∧ ∀ i, i < l.length → (0 ≤ fst l i ∧ fst l i ≤ 5) ∧ (0 ≤ snd l i ∧ snd l i ≤ 9) := by
  unfold filesOk at h
  rw [Bool.and_eq_true, List.all_eq_true] at h
  refine ⟨of_decide_eq_true h.1, fun i hi => ?_⟩
  have := h.2 i (List.mem_range.2 hi)
  unfold fileGood at this
  rw [Bool.and_eq_true, Bool.and_eq_true, inB_true, inB_true] at this
  exact this.1
theorem depsOk_get {nm : Int} {l : List (Int × Int)} (h : depsOk nm l = true) : l.length ≤ 2 ∧ ∀ i, i < l.length → (1 ≤ fst l i ∧ fst l i ≤ 4) ∧ (1 ≤ snd l i ∧ snd l i ≤ 5) := by
  unfold depsOk at h
  rw [Bool.and_eq_true, List.all_eq_true] at h
  refine ⟨of_decide_eq_true h.1, fun i hi => ?_⟩
  have := h.2 i (List.mem_range.2 hi)
  unfold depGood at this
  rw [Bool.and_eq_true, Bool.and_eq_true, Bool.and_eq_true, inB_true, inB_true] at this
  exact ⟨this.1.1.1, this.1.2⟩

/-- A byte of a number. -/
def b8 (n : Int) : UInt8 := UInt8.ofNat n.toNat
/-- A name and a version. -/
def nameT (nm vr : Int) : List UInt8 := [b8 (96 + nm), b8 (48 + vr)]
def fileT (x : Int × Int) : List UInt8 := [32, b8 (48 + x.1), 58, b8 (48 + x.2)]
def depT (x : Int × Int) : List UInt8 := 32 :: nameT x.1 x.2
/-- The text of a package that is ok. -/
def textOk (nm vr : Int) (fs ds : List (Int × Int)) : List UInt8 := nameT nm vr ++ fs.flatMap fileT ++ ds.flatMap depT
def text (nm vr : Int) (fs ds : List (Int × Int)) : List UInt8 := if pkgOk nm vr fs ds = true then textOk nm vr fs ds else []
end Go.Proofs.Ythjmnkfpopfgbaa.Pk
