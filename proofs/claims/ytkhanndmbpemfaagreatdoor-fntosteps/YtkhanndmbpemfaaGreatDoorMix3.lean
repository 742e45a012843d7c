import Derived.Test.YtkhanndmbpemfaaGreatDoorMathW
import Derived.Test.YtkhanndmbpemfaaGreatDoorMix1
import Derived.WalkLawsBesides
import Derived.Deep.RegionWith
import Derived.Deep.DrawnRows
import Derived.Deep.RegionHeld3
import Derived.Deep.AppendLies
/- Packages as plain data: without one they are ok still, with one twice they are not. -/
namespace Go.Proofs.YtkhanndmbpemfaaGreatDoor.Ix
open Pk

def cutP (l : List Pg) (k : Nat) : List Pg := l.take k ++ l.drop (k + 1)
def twoP (l : List Pg) (k : Nat) : List Pg := (l.take k ++ [pg l k]) ++ l.drop k
theorem cutP_length {l : List Pg} {k : Nat} (hk : k < l.length) : (cutP l k).length = l.length - 1 := by unfold cutP; rw [List.length_append, List.length_take, List.length_drop]; omega
theorem cutP_lt {l : List Pg} {k i : Nat} (hi : i < k) (hk : k < l.length) : pg (cutP l k) i = pg l i := by
  unfold cutP pg
  rw [List.getD_eq_getElem?_getD, List.getD_eq_getElem?_getD, List.getElem?_append_left (by rw [List.length_take]; omega), List.getElem?_take_of_lt hi]
theorem cutP_ge {l : List Pg} {k i : Nat} (hi : k ≤ i) (hk : k < l.length) : pg (cutP l k) i = pg l (i + 1) := by
  unfold cutP pg
  have hlen : (l.take k).length = k := by rw [List.length_take]; omega
  rw [List.getD_eq_getElem?_getD, List.getD_eq_getElem?_getD, List.getElem?_append_right (by omega), hlen, List.getElem?_drop, show k + 1 + (i - k) = i + 1 by omega]
theorem less_transP {a b c d e f : Int} (h1 : less a b c d = true) (h2 : less c d e f = true) : less a b e f = true := by
  unfold less at *
  simp only [Bool.or_eq_true, Bool.and_eq_true, decide_eq_true_eq] at *
  omega
theorem pkgs_less {l : List Pg} (h : pkgsOk l = true) {i : Nat} (hi : i + 1 < l.length) : less (pg l i).1 (pg l i).2.1 (pg l (i + 1)).1 (pg l (i + 1)).2.1 = true := by
  have := pkgsOk_at h (i + 1) hi
  unfold pkgGood at this
  rw [Bool.and_eq_true, Bool.or_eq_true] at this
  rcases this.2 with h | h
  · exact absurd (of_decide_eq_true h) (by omega)
  · simpa using h
theorem pkgs_pOk {l : List Pg} (h : pkgsOk l = true) {i : Nat} (hi : i < l.length) : pOk (pg l i) = true := by
  have := pkgsOk_at h i hi
  unfold pkgGood at this
  rw [Bool.and_eq_true] at this
  exact this.1
theorem cutP_ok {l : List Pg} {k : Nat} (h : pkgsOk l = true) (hk : k < l.length) : pkgsOk (cutP l k) = true := by
  refine pkgsOk_good (fun i hi => ?_)
  rw [cutP_length hk] at hi
  unfold pkgGood
  rcases Nat.lt_or_ge i k with hlt | hge
  · rw [cutP_lt hlt hk, cutP_lt (i := i - 1) (by omega) hk]
    exact pkgsOk_at h i (by omega)
  · rw [cutP_ge hge hk, pkgs_pOk h (by omega), Bool.true_and, Bool.or_eq_true]
    rcases Nat.eq_zero_or_pos i with h0 | hpos
    · exact .inl (decide_eq_true h0)
    · right
      obtain ⟨m, rfl⟩ : ∃ m, i = m + 1 := ⟨i - 1, by omega⟩
      rcases Nat.lt_or_ge m k with hm | hm
      · obtain rfl : k = m + 1 := by omega
        rw [Nat.add_sub_cancel, cutP_lt (by omega) hk]
        exact less_transP (pkgs_less h (by omega)) (pkgs_less h (i := m + 1) (by omega))
      · rw [Nat.add_sub_cancel, cutP_ge hm hk]
        exact pkgs_less h (i := m + 1) (by omega)
theorem twoP_length {l : List Pg} {k : Nat} (hk : k < l.length) : (twoP l k).length = l.length + 1 := by
  unfold twoP
  rw [List.length_append, List.length_append, List.length_take, List.length_drop, List.length_singleton]
  omega
theorem twoP_bad {l : List Pg} {k : Nat} (hk : k < l.length) : pkgsOk (twoP l k) = false := by
  have hlen : (l.take k).length = k := by rw [List.length_take]; omega
  have hlen2 : (l.take k ++ [pg l k]).length = k + 1 := by rw [List.length_append, hlen]; rfl
  refine pkgsOk_bad (i := k + 1) (by rw [twoP_length hk]; omega) ?_
  have e1 : pg (twoP l k) k = pg l k := by
    unfold twoP
    show List.getD _ _ _ = _
    rw [List.getD_eq_getElem?_getD, List.getElem?_append_left (by omega), List.getElem?_append_right (by omega), hlen, Nat.sub_self]
    rfl
  have e2 : pg (twoP l k) (k + 1) = pg l k := by
    unfold twoP
    show List.getD _ _ _ = List.getD _ _ _
    rw [List.getD_eq_getElem?_getD, List.getD_eq_getElem?_getD, List.getElem?_append_right (by omega), hlen2, Nat.sub_self, List.getElem?_drop, Nat.add_zero]
  have e3 : ∀ a b : Int, less a b a b = false := fun a b => by unfold less; simp
  unfold pkgGood
  rw [Nat.add_sub_cancel, e1, e2, e3, decide_eq_false (by omega), Bool.or_self, Bool.and_false]
end Go.Proofs.YtkhanndmbpemfaaGreatDoor.Ix

/- Packages as plain data: those of one name, and the newest of them. -/
namespace Go.Proofs.YtkhanndmbpemfaaGreatDoor.Ix
open Pk

def shelf (l : List Pg) (n : Int) : List Pg := l.filter (fun p => decide (p.1 = n))
def newest (l : List Pg) (n : Int) : Option Pg := (shelf l n).getLast?
def orNone : Option Pg → Pg × Bool
  | some p => (p, true)
  | none => ((0, 0, [], []), false)
def newA (l : List Pg) (n : Int) : Pg × Bool := orNone (if pkgsOk l = true then newest l n else none)
theorem take_pgs {l : List Pg} {k : Nat} (hk : k < l.length) : l.take (k + 1) = l.take k ++ [pg l k] := by
  rw [List.take_add_one]
  unfold pg
  rw [List.getD_eq_getElem?_getD, List.getElem?_eq_getElem hk]
  rfl
theorem shelf_snoc {l : List Pg} {k : Nat} (hk : k < l.length) (n : Int) : shelf (l.take (k + 1)) n = if (pg l k).1 = n then shelf (l.take k) n ++ [pg l k] else shelf (l.take k) n := by
  rw [take_pgs hk]
  unfold shelf
  rw [List.filter_append]
  by_cases h : (pg l k).1 = n
  · rw [if_pos h, List.filter_cons_of_pos (by simpa using h), List.filter_nil]
  · rw [if_neg h, List.filter_cons_of_neg (by simpa using h), List.filter_nil, List.append_nil]
theorem shelf_rest {l : List Pg} {n : Int} {i : Nat} (hi : i ≤ l.length) (h : ∀ j, i ≤ j → j < l.length → (pg l j).1 ≠ n) : shelf l n = shelf (l.take i) n := by
  have : ∀ d, i + d ≤ l.length → shelf (l.take (i + d)) n = shelf (l.take i) n := fun d => by
    induction d with
    | zero => intro _; rfl
    | succ d ih =>
      intro hd
      rw [← Nat.add_assoc, shelf_snoc (by omega), if_neg (h _ (by omega) (by omega)), ih (by omega)]
  have h2 := this (l.length - i) (by omega)
  rw [show i + (l.length - i) = l.length by omega, List.take_length] at h2
  exact h2
theorem newest_none {l : List Pg} {n : Int} (h : ∀ j, 0 ≤ j → j < l.length → (pg l j).1 ≠ n) : newest l n = none := by
  unfold newest
  rw [shelf_rest (Nat.zero_le _) h]
  rfl
theorem newest_at {l : List Pg} {n : Int} {i : Nat} (hi : i < l.length) (hn : (pg l i).1 = n) (h : ∀ j, i + 1 ≤ j → j < l.length → (pg l j).1 ≠ n) : newest l n = some (pg l i) := by
  unfold newest
  rw [shelf_rest (i := i + 1) hi h, shelf_snoc hi, if_pos hn, List.getLast?_concat]
theorem newA_bad {l : List Pg} {n : Int} (h : pkgsOk l = false) : newA l n = ((0, 0, [], []), false) := by unfold newA; rw [h]; rfl
theorem newA_none {l : List Pg} {n : Int} (h : newest l n = none) : newA l n = ((0, 0, [], []), false) := by
  unfold newA
  rw [h]
  split <;> rfl
theorem newA_some {l : List Pg} {n : Int} {p : Pg} (hk : pkgsOk l = true) (h : newest l n = some p) : newA l n = (p, true) := by
  unfold newA
  rw [h, if_pos hk]
  rfl
theorem pOk_name {p : Pg} (h : pOk p = true) : 1 ≤ p.1 ∧ p.1 ≤ 4 := by
  unfold pOk Pk.pkgOk at h
  simp only [Bool.and_eq_true, Pk.inB_true] at h
  omega
theorem shelf_mem {l : List Pg} {n : Int} {p : Pg} (h : p ∈ shelf l n) : p ∈ l ∧ p.1 = n := by
  unfold shelf at h
  rw [List.mem_filter] at h
  exact ⟨h.1, by simpa using h.2⟩
theorem newest_mem {l : List Pg} {n : Int} {p : Pg} (h : newest l n = some p) : p ∈ l ∧ p.1 = n := shelf_mem (List.mem_of_getLast? h)
end Go.Proofs.YtkhanndmbpemfaaGreatDoor.Ix

/- Packages as plain data: what is said of the newest of a name. -/
namespace Go.Proofs.YtkhanndmbpemfaaGreatDoor.Ix
open Pk

theorem pkgs_chain {l : List Pg} (h : pkgsOk l = true) {i : Nat} : ∀ d, i + d + 1 < l.length → less (pg l i).1 (pg l i).2.1 (pg l (i + d + 1)).1 (pg l (i + d + 1)).2.1 = true
  | 0, hi => pkgs_less h hi
  | d + 1, hi => less_transP (pkgs_chain h d (by omega)) (pkgs_less h (i := i + d + 1) hi)
theorem pkgs_lt {l : List Pg} (h : pkgsOk l = true) {i j : Nat} (hij : i < j) (hj : j < l.length) : less (pg l i).1 (pg l i).2.1 (pg l j).1 (pg l j).2.1 = true := by
  have := pkgs_chain h (i := i) (j - i - 1) (by omega)
  rw [show i + (j - i - 1) + 1 = j by omega] at this
  exact this
theorem last_ix {l : List Pg} {x : Int} : ∀ i, i ≤ l.length → (∀ j, i ≤ j → j < l.length → (pg l j).1 ≠ x) → (∃ m, m < l.length ∧ (pg l m).1 = x ∧ ∀ j, m + 1 ≤ j → j < l.length → (pg l j).1 ≠ x) ∨ ∀ j, 0 ≤ j → j < l.length → (pg l j).1 ≠ x
  | 0, _, h => .inr h
  | i + 1, hi, h => by
    by_cases hx : (pg l i).1 = x
    · exact .inl ⟨i, hi, hx, h⟩
    · refine last_ix i (by omega) (fun j h1 h2 => ?_)
      rcases Nat.lt_or_ge i j with h3 | h3
      · exact h j h3 h2
      · obtain rfl : j = i := by omega
        exact hx
theorem newest_cases (l : List Pg) (x : Int) : (newest l x = none ∧ ∀ j, j < l.length → (pg l j).1 ≠ x) ∨ ∃ m, m < l.length ∧ newest l x = some (pg l m) ∧ (pg l m).1 = x ∧ ∀ j, m + 1 ≤ j → j < l.length → (pg l j).1 ≠ x := by
  rcases last_ix (l := l) (x := x) l.length (Nat.le_refl _) (fun j h1 h2 => absurd h2 (by omega)) with ⟨m, hm, hx, hr⟩ | h
  · exact .inr ⟨m, hm, newest_at hm hx hr, hx, hr⟩
  · exact .inl ⟨newest_none h, fun j hj => h j (Nat.zero_le _) hj⟩
theorem newest_top {l : List Pg} {x : Int} {m : Nat} (hk : pkgsOk l = true) (hm : m < l.length) (hx : (pg l m).1 = x) (hr : ∀ j, m + 1 ≤ j → j < l.length → (pg l j).1 ≠ x) : ∀ i, i < l.length → (pg l i).1 = x → i ≠ m → (pg l i).2.1 < (pg l m).2.1 := by
  intro i hi h1 hne
  rcases Nat.lt_or_ge i m with h | h
  · have := pkgs_lt hk h hm
    unfold less at this
    simp only [Bool.or_eq_true, Bool.and_eq_true, decide_eq_true_eq] at this
    omega
  · exact absurd h1 (hr i (by omega) hi)
theorem pOk_lens {p : Pg} (h : pOk p = true) : p.2.2.1.length ≤ 2 ∧ p.2.2.2.length ≤ 2 := by
  unfold pOk Pk.pkgOk at h
  simp only [Bool.and_eq_true] at h
  exact ⟨(Pk.filesOk_get h.1.2).1, (Pk.depsOk_get h.2).1⟩
theorem newA_lens (l : List Pg) (x : Int) : (newA l x).1.2.2.1.length ≤ 2 ∧ (newA l x).1.2.2.2.length ≤ 2 := by
  cases hk : pkgsOk l
  · rw [newA_bad hk]; exact ⟨Nat.zero_le _, Nat.zero_le _⟩
  · rcases newest_cases l x with ⟨hn, _⟩ | ⟨m, hm, hn, _, _⟩
    · rw [newA_none hn]; exact ⟨Nat.zero_le _, Nat.zero_le _⟩
    · rw [newA_some hk hn]
      exact pOk_lens (pkgs_pOk hk hm)
def anyN (l : List Pg) (x : Int) (k : Nat) : Bool := (List.range k).any (fun j => (pg l j).1 == x)
theorem anyN_succ (l : List Pg) (x : Int) (k : Nat) : anyN l x (k + 1) = (anyN l x k || ((pg l k).1 == x)) := by unfold anyN; rw [List.range_succ, List.any_append]; simp
/-- What the law asks of the newest. -/
theorem newest_law {l : List Pg} {x : Int} (hk : pkgsOk l = true) : (∀ i, i < l.length → (pg l i).1 = x → (newA l x).2 = true ∧ (pg l i).2.1 ≤ (newA l x).1.2.1) ∧ (newA l x).2 = anyN l x l.length ∧ ((newA l x).2 = true → (newA l x).1 ∈ l ∧ (newA l x).1.1 = x) := by
  rcases newest_cases l x with ⟨hn, hno⟩ | ⟨m, hm, hn, hx, hr⟩
  · rw [newA_none hn]
    refine ⟨fun i hi h => absurd h (hno i hi), ?_, fun h => by cases h⟩
    symm
    unfold anyN
    rw [List.any_eq_false]
    intro j hj
    have := hno j (List.mem_range.1 hj)
    simpa using this
  · rw [newA_some hk hn]
    refine ⟨fun i hi h => ⟨rfl, ?_⟩, ?_, fun _ => ⟨pg_mem hm, hx⟩⟩
    · by_cases hne : i = m
      · subst hne; exact Int.le_refl _
      · have := newest_top hk hm hx hr i hi h hne
        exact Int.le_of_lt this
    · symm
      unfold anyN
      rw [List.any_eq_true]
      exact ⟨m, List.mem_range.2 hm, by simpa using hx⟩
theorem newA_true {l : List Pg} {x : Int} {p : Pg} (h : newA l x = (p, true)) : pkgsOk l = true ∧ newest l x = some p := by
  cases hk : pkgsOk l
  · rw [newA_bad hk] at h; cases h
  · refine ⟨rfl, ?_⟩
    cases hn : newest l x with
    | none => rw [newA_none hn] at h; cases h
    | some q => rw [newA_some hk hn] at h; injection h with h _; rw [h]
theorem more_law {l : List Pg} {x : Int} {p : Pg} (h : newA l x = (p, true)) : ∃ m, m < l.length ∧ pg l m = p ∧ (∀ i, i < l.length → i ≠ m → pg l i ≠ p) ∧ ((newA (cutP l m) x).2 = true → (newA (cutP l m) x).1.2.1 < p.2.1 ∧ (newA (cutP l m) x).1.1 = x) := by
  obtain ⟨hk, hn⟩ := newA_true h
  rcases newest_cases l x with ⟨h0, _⟩ | ⟨m, hm, hq, hx, hr⟩
  · rw [h0] at hn; cases hn
  · rw [hq] at hn
    have hp := Option.some.inj hn
    refine ⟨m, hm, hp, fun i hi hne e => ?_, fun hb => ?_⟩
    · rw [← hp] at e
      have : less (pg l m).1 (pg l m).2.1 (pg l m).1 (pg l m).2.1 = true := by
        rcases Nat.lt_or_ge i m with h1 | h1
        · have := pkgs_lt hk h1 hm
          rw [e] at this
          exact this
        · have := pkgs_lt hk (show m < i by omega) hi
          rw [e] at this
          exact this
      unfold less at this
      simp at this
    · have hck := cutP_ok hk hm
      rcases newest_cases (cutP l m) x with ⟨h0, _⟩ | ⟨j, hj, hq2, hx2, _⟩
      · rw [newA_none h0] at hb; cases hb
      · rw [newA_some hck hq2]
        rw [cutP_length hm] at hj
        refine ⟨?_, hx2⟩
        rw [← hp]
        show (pg (cutP l m) j).2.1 < _
        rcases Nat.lt_or_ge j m with h1 | h1
        · rw [cutP_lt h1 hm] at hx2 ⊢
          exact newest_top hk hm hx hr j (by omega) hx2 (by omega)
        · rw [cutP_ge h1 hm] at hx2 ⊢
          exact newest_top hk hm hx hr (j + 1) (by omega) hx2 (by omega)
end Go.Proofs.YtkhanndmbpemfaaGreatDoor.Ix

/- What is to be in, as plain data: what is wrong with packages, line by line. -/
namespace Go.Proofs.YtkhanndmbpemfaaGreatDoor.Ix
open Pk

def titleT (p : Pg) : List UInt8 := Pk.nameT p.1 p.2.1
def besideT : List UInt8 := [32, 98, 101, 115, 105, 100, 101, 32]
def lacksT : List UInt8 := [32, 108, 97, 99, 107, 115, 32]
def andT : List UInt8 := [32, 97, 110, 100, 32]
def atT : List UInt8 := [32, 97, 116, 32]
def meetsP (d : Int × Int) (p : Pg) : Bool := decide (p.1 = d.1) && decide (d.2 ≤ p.2.1)
def hasAt (path : Int) (p : Pg) : Bool := p.2.2.1.any (fun f => f.1 == path)
def met (l : List Pg) (d : Int × Int) : Option Pg := l.find? (meetsP d)
def owner (l : List Pg) (i : Nat) (path : Int) : Option Pg := (l.take i).find? (hasAt path)
def besideL (l : List Pg) (i : Nat) : List (List UInt8) := if i ≠ 0 ∧ (pg l (i - 1)).1 = (pg l i).1 then [titleT (pg l i) ++ besideT ++ titleT (pg l (i - 1))] else []
def lackL (l : List Pg) (p : Pg) (d : Int × Int) : List (List UInt8) := match met l d with
  | some _ => []
  | none => [titleT p ++ lacksT ++ Pk.nameT d.1 d.2]
def placeL (l : List Pg) (i : Nat) (p : Pg) (f : Int × Int) : List (List UInt8) := match owner l i f.1 with
  | some o => [titleT p ++ andT ++ titleT o ++ atT ++ [Pk.b8 (48 + f.1)]]
  | none => []
def linesAt (l : List Pg) (i : Nat) : List (List UInt8) := besideL l i ++ (pg l i).2.2.2.flatMap (lackL l (pg l i)) ++ (pg l i).2.2.1.flatMap (placeL l i (pg l i))
def linesTo (l : List Pg) (k : Nat) : List (List UInt8) := (List.range k).flatMap (linesAt l)
def lines (l : List Pg) : List (List UInt8) := linesTo l l.length
def planOk (l : List Pg) : Bool := pkgsOk l && decide ((lines l).length = 0)
theorem linesTo_succ (l : List Pg) (k : Nat) : linesTo l (k + 1) = linesTo l k ++ linesAt l k := by unfold linesTo; rw [List.range_succ, List.flatMap_append]; simp
theorem besideL_len (l : List Pg) (i : Nat) : (besideL l i).length ≤ 1 := by unfold besideL; split <;> simp
theorem lackL_len (l : List Pg) (p : Pg) (d : Int × Int) : (lackL l p d).length ≤ 1 := by unfold lackL; split <;> simp
theorem placeL_len (l : List Pg) (i : Nat) (p : Pg) (d : Int × Int) : (placeL l i p d).length ≤ 1 := by unfold placeL; split <;> simp
theorem flat_le {α β : Type} (f : α → List β) (h : ∀ x, (f x).length ≤ 1) : ∀ s : List α, (s.flatMap f).length ≤ s.length
  | [] => Nat.le_refl _
  | x :: s => by
    have := flat_le f h s
    have := h x
    rw [List.flatMap_cons, List.length_append, List.length_cons]
    omega
theorem linesAt_len {l : List Pg} {i : Nat} (h : pOk (pg l i) = true) : (linesAt l i).length ≤ 5 := by
  obtain ⟨h1, h2⟩ := pOk_lens h
  have a := besideL_len l i
  have b := flat_le (lackL l (pg l i)) (lackL_len l (pg l i)) (pg l i).2.2.2
  have c := flat_le (placeL l i (pg l i)) (placeL_len l i (pg l i)) (pg l i).2.2.1
  unfold linesAt
  rw [List.length_append, List.length_append]
  omega
theorem linesTo_len {l : List Pg} (h : pkgsOk l = true) : ∀ k, k ≤ l.length → (linesTo l k).length ≤ 5 * k
  | 0, _ => Nat.le_refl _
  | k + 1, hk => by
    have a := linesTo_len h k (by omega)
    have b := linesAt_len (pkgs_pOk h (i := k) (by omega))
    rw [linesTo_succ, List.length_append]
    omega
theorem take_cons_flat {α β : Type} (f : α → List β) (s : List α) (k : Nat) (x : α) (hx : s[k]? = some x) : (s.take (k + 1)).flatMap f = (s.take k).flatMap f ++ f x := by
  rw [List.take_add_one, hx, List.flatMap_append]
  simp
/-- The first that meets a need is there just if the newest does. -/
theorem mem_ix {l : List Pg} {p : Pg} (h : p ∈ l) : ∃ i, i < l.length ∧ pg l i = p := by
  obtain ⟨i, hi, e⟩ := List.getElem_of_mem h
  refine ⟨i, hi, ?_⟩
  unfold pg
  rw [List.getD_eq_getElem?_getD, List.getElem?_eq_getElem hi]
  exact e
def newMeets (l : List Pg) (d : Int × Int) : Bool := (orNone (newest l d.1)).2 && decide (d.2 ≤ (orNone (newest l d.1)).1.2.1)
theorem met_newest {l : List Pg} {d : Int × Int} (hk : pkgsOk l = true) : (met l d).isSome = newMeets l d := by
  unfold newMeets met
  rw [Bool.eq_iff_iff, List.find?_isSome]
  rcases newest_cases l d.1 with ⟨hn, hno⟩ | ⟨m, hm, hn, hx, hr⟩
  · rw [hn]
    refine ⟨fun ⟨p, hp, hm⟩ => ?_, fun h => by cases h⟩
    obtain ⟨i, hi, e⟩ := mem_ix hp
    unfold meetsP at hm
    simp only [Bool.and_eq_true, decide_eq_true_eq] at hm
    exact absurd (by rw [e]; exact hm.1) (hno i hi)
  · rw [hn]
    show _ ↔ (true && decide (d.2 ≤ (pg l m).2.1)) = true
    rw [Bool.true_and, decide_eq_true_eq]
    constructor
    · rintro ⟨p, hp, hmm⟩
      obtain ⟨i, hi, e⟩ := mem_ix hp
      unfold meetsP at hmm
      simp only [Bool.and_eq_true, decide_eq_true_eq] at hmm
      rw [← e] at hmm
      by_cases hne : i = m
      · rw [← hne]; exact hmm.2
      · have := newest_top hk hm hx hr i hi hmm.1 hne
        omega
    · intro h
      refine ⟨_, pg_mem hm, ?_⟩
      unfold meetsP
      simp only [Bool.and_eq_true, decide_eq_true_eq]
      exact ⟨hx, h⟩
theorem pOk_ver {p : Pg} (h : pOk p = true) : 1 ≤ p.2.1 ∧ p.2.1 ≤ 5 := by
  unfold pOk Pk.pkgOk at h
  simp only [Bool.and_eq_true, Pk.inB_true] at h
  omega
theorem pkgs_key {l : List Pg} (h : pkgsOk l = true) : ∀ i, i < l.length → 6 + (i : Int) ≤ (pg l i).1 * 5 + (pg l i).2.1
  | 0, hi => by
    have a := pOk_name (pkgs_pOk h hi)
    have b := pOk_ver (pkgs_pOk h hi)
    omega
  | i + 1, hi => by
    have a := pkgs_key h i (by omega)
    have b := pkgs_less h hi
    have c := pOk_ver (pkgs_pOk h (i := i) (by omega))
    have d := pOk_ver (pkgs_pOk h hi)
    unfold less at b
    simp only [Bool.or_eq_true, Bool.and_eq_true, decide_eq_true_eq] at b
    omega
/-- There are no more than twenty. -/
theorem pkgs_len {l : List Pg} (h : pkgsOk l = true) : l.length ≤ 20 := by
  rcases Nat.eq_zero_or_pos l.length with h0 | hp
  · omega
  · have a := pkgs_key h (l.length - 1) (by omega)
    have b := pOk_name (pkgs_pOk h (i := l.length - 1) (by omega))
    have c := pOk_ver (pkgs_pOk h (i := l.length - 1) (by omega))
    omega
theorem pOk_file {p : Pg} (h : pOk p = true) : ∀ i, i < p.2.2.1.length → (0 ≤ Pk.fst p.2.2.1 i ∧ Pk.fst p.2.2.1 i ≤ 5) ∧ (0 ≤ Pk.snd p.2.2.1 i ∧ Pk.snd p.2.2.1 i ≤ 9) := by
  unfold pOk Pk.pkgOk at h
  simp only [Bool.and_eq_true] at h
  exact (Pk.filesOk_get h.1.2).2
theorem pOk_dep {p : Pg} (h : pOk p = true) : ∀ i, i < p.2.2.2.length → (1 ≤ Pk.fst p.2.2.2 i ∧ Pk.fst p.2.2.2 i ≤ 4) ∧ (1 ≤ Pk.snd p.2.2.2 i ∧ Pk.snd p.2.2.2 i ≤ 5) := by
  unfold pOk Pk.pkgOk at h
  simp only [Bool.and_eq_true] at h
  exact (Pk.depsOk_get h.2).2
end Go.Proofs.YtkhanndmbpemfaaGreatDoor.Ix

/- What is to be in, as plain data: when nothing is wrong. -/
namespace Go.Proofs.YtkhanndmbpemfaaGreatDoor.Ix
open Pk

theorem flat_nil {α β : Type} {f : α → List β} {s : List α} : s.flatMap f = [] ↔ ∀ x ∈ s, f x = [] := by rw [List.flatMap_eq_nil_iff]
theorem linesAt_nil {l : List Pg} {i : Nat} : linesAt l i = [] ↔ besideL l i = [] ∧ (∀ d ∈ (pg l i).2.2.2, lackL l (pg l i) d = []) ∧ ∀ f ∈ (pg l i).2.2.1, placeL l i (pg l i) f = [] := by
  unfold linesAt
  rw [List.append_eq_nil_iff, List.append_eq_nil_iff, flat_nil, flat_nil, and_assoc]
theorem planOk_false {l : List Pg} {i : Nat} (hi : i < l.length) (h : linesAt l i ≠ []) : planOk l = false := by
  unfold planOk lines linesTo
  rw [decide_eq_false (fun h0 => h (flat_nil.1 (List.eq_nil_of_length_eq_zero h0) i (List.mem_range.2 hi))), Bool.and_false]
theorem planOk_true {l : List Pg} (hk : pkgsOk l = true) (h : ∀ i, i < l.length → linesAt l i = []) : planOk l = true := by
  unfold planOk lines linesTo
  rw [hk, flat_nil.2 (fun i hi => h i (List.mem_range.1 hi))]
  rfl
theorem planOk_pkgs {l : List Pg} (h : planOk l = true) : pkgsOk l = true := by unfold planOk at h; rw [Bool.and_eq_true] at h; exact h.1
theorem planOk_bad {l : List Pg} (h : pkgsOk l = false) : planOk l = false := by unfold planOk; rw [h]; rfl
theorem lackL_nil {l : List Pg} {p : Pg} {d : Int × Int} : lackL l p d = [] ↔ (met l d).isSome = true := by
  unfold lackL
  cases met l d <;> simp
theorem placeL_nil {l : List Pg} {i : Nat} {p : Pg} {f : Int × Int} : placeL l i p f = [] ↔ owner l i f.1 = none := by
  unfold placeL
  cases owner l i f.1 <;> simp
theorem besideL_nil {l : List Pg} {i : Nat} (hk : pkgsOk l = true) (hi : i < l.length) : besideL l i = [] ↔ (i = 0 ∨ (pg l (i - 1)).1 < (pg l i).1) := by
  unfold besideL
  rcases Nat.eq_zero_or_pos i with h0 | hp
  · subst h0
    simp
  · obtain ⟨m, rfl⟩ : ∃ m, i = m + 1 := ⟨i - 1, by omega⟩
    have := pkgs_less hk hi
    unfold less at this
    simp only [Bool.or_eq_true, Bool.and_eq_true, decide_eq_true_eq] at this
    rw [Nat.add_sub_cancel]
    constructor
    · intro h
      right
      by_cases e : (pg l m).1 = (pg l (m + 1)).1
      · rw [if_pos ⟨by omega, e⟩] at h; cases h
      · omega
    · rintro (h | h)
      · omega
      · rw [if_neg (fun e => by omega)]
/-- The place of a pair in a row. -/
theorem pair_mem {s : List (Int × Int)} {k : Nat} (hk : k < s.length) : (Pk.fst s k, Pk.snd s k) ∈ s ∧ s[k]? = some (Pk.fst s k, Pk.snd s k) := by
  have e : s[k]? = some (Pk.fst s k, Pk.snd s k) := by rw [List.getElem?_eq_getElem hk]; simp [Pk.fst, Pk.snd, hk]
  exact ⟨List.mem_of_getElem? e, e⟩
theorem mem_pair {s : List (Int × Int)} {x : Int × Int} (h : x ∈ s) : ∃ k, k < s.length ∧ x = (Pk.fst s k, Pk.snd s k) := by
  obtain ⟨k, hk, e⟩ := List.getElem_of_mem h
  refine ⟨k, hk, ?_⟩
  have := (pair_mem hk).2
  rw [List.getElem?_eq_getElem hk] at this
  rw [← e]
  exact Option.some.inj this
theorem hasAt_no {p : Pg} {path : Int} (h : ∀ k, k < p.2.2.1.length → Pk.fst p.2.2.1 k ≠ path) : hasAt path p = false := by
  unfold hasAt
  rw [List.any_eq_false]
  intro x hx
  obtain ⟨k, hk, e⟩ := mem_pair hx
  rw [e]
  simpa using h k hk
theorem hasAt_yes {p : Pg} {path : Int} {k : Nat} (hk : k < p.2.2.1.length) (h : Pk.fst p.2.2.1 k = path) : hasAt path p = true := by
  unfold hasAt
  rw [List.any_eq_true]
  exact ⟨_, (pair_mem hk).1, by simpa using h⟩
/-- The first that is so. -/
theorem find_at {l : List Pg} {q : Pg → Bool} {i : Nat} (hi : i < l.length) (hq : q (pg l i) = true) (hno : ∀ j, j < i → q (pg l j) = false) : l.find? q = some (pg l i) := by
  rw [List.find?_eq_some_iff_getElem]
  have e : ∀ j (hj : j < l.length), l[j] = pg l j := fun j hj => by unfold pg; rw [List.getD_eq_getElem?_getD, List.getElem?_eq_getElem hj]; rfl
  refine ⟨hq, i, hi, e i hi, fun j hj => ?_⟩
  rw [e j (by omega), hno j hj]
  rfl
theorem find_no {l : List Pg} {q : Pg → Bool} (hno : ∀ j, j < l.length → q (pg l j) = false) : l.find? q = none := by
  rw [List.find?_eq_none]
  intro p hp
  obtain ⟨i, hi, e⟩ := mem_ix hp
  rw [← e, hno i hi]
  simp
theorem take_pgk {l : List Pg} {i j : Nat} (hj : j < i) : pg (l.take i) j = pg l j := by
  unfold pg
  rw [List.getD_eq_getElem?_getD, List.getD_eq_getElem?_getD, List.getElem?_take_of_lt hj]
theorem owner_at {l : List Pg} {i n : Nat} {path : Int} (hi : i ≤ l.length) (hn : n < i) (h : hasAt path (pg l n) = true) (hno : ∀ j, j < n → hasAt path (pg l j) = false) : owner l i path = some (pg l n) := by
  unfold owner
  rw [← take_pgk hn]
  refine find_at (by rw [List.length_take]; omega) (by rw [take_pgk hn]; exact h) (fun j hj => by rw [take_pgk (by omega)]; exact hno j hj)
theorem owner_no {l : List Pg} {i : Nat} {path : Int} (hi : i ≤ l.length) (hno : ∀ j, j < i → hasAt path (pg l j) = false) : owner l i path = none := by
  unfold owner
  refine find_no (fun j hj => ?_)
  rw [List.length_take] at hj
  rw [take_pgk (by omega)]
  exact hno j (by omega)
end Go.Proofs.YtkhanndmbpemfaaGreatDoor.Ix

/- What spec.PkgText returns: the text of the package, or nothing; for every package; nothing old is written. -/
namespace Go.Proofs.YtkhanndmbpemfaaGreatDoor
open Go.RowKit

theorem b8_toNat {n : Int} (h0 : 0 ≤ n) (h1 : n < 256) : ((Pk.b8 n).toNat : Int) = n := by
  unfold Pk.b8
  rw [UInt8.toNat_ofNat']
  omega

/-- A row of one byte as a text. -/
theorem conv_one (w : World) (b : Nat) (n : Int) (c : Nat) (h0 : 0 ≤ n) (h1 : n < 256) (hc : w.cell? ⟨b, 0, none⟩ = some (.int .u8 n)) :
    (convert 42 9 (.slice (some ⟨b, 0, none⟩) 1 c)).run Tryz.prog w = .ok (.string ⟨#[Pk.b8 n]⟩) w := by
  have := run_convert_bytes_back (P := Tryz.prog) w 42 9 5 ⟨b, 0, none⟩ c [Pk.b8 n] Tryz.underlying42 Tryz.underlying5 Tryz.underlying9 (fun j hj => by
    obtain rfl : j = 0 := by simpa using hj
    have e : (⟨b, 0, none⟩ : Addr).add 0 = ⟨b, 0, none⟩ := rfl
    rw [e, hc]
    simp only [List.getElem_cons_zero]
    rw [b8_toNat h0 h1])
  exact this

attribute [local go_sem ↓] Go.wp_at_zero Go.wp_at_succ
theorem app_data (a b : List UInt8) : (⟨a.toArray⟩ ++ ⟨b.toArray⟩ : ByteArray) = ⟨(a ++ b).toArray⟩ := by
  apply ByteArray.ext
  simp
theorem name_eq (nm vr : Int) : (⟨#[Pk.b8 (97 + nm - 1)]⟩ ++ ⟨#[Pk.b8 (48 + vr)]⟩ : ByteArray) = ⟨(Pk.nameT nm vr).toArray⟩ := by
  rw [show 97 + nm - 1 = 96 + nm from by omega]
  exact app_data [Pk.b8 (96 + nm)] [Pk.b8 (48 + vr)]
theorem ret_str {a b : ByteArray} (h : a = b) : Ending.returned (.string a) = .returned (.string b) := by rw [h]

theorem text_bad {nm vr : Int} {fs ds : List (Int × Int)} (h : Pk.pkgOk nm vr fs ds = false) : Pk.text nm vr fs ds = [] := by unfold Pk.text; rw [h]; rfl

theorem take_flat (f : Int × Int → List UInt8) (l : List (Int × Int)) (k : Nat) (h : k < l.length) : (l.take (k + 1)).flatMap f = (l.take k).flatMap f ++ f (Pk.fst l k, Pk.snd l k) := by
  rw [List.take_succ_eq_append_getElem h, List.flatMap_append]
  simp [Pk.fst, Pk.snd, h]

theorem flat_len (f : Int × Int → List UInt8) (c : Nat) (hf : ∀ x, (f x).length = c) : ∀ l : List (Int × Int), (l.flatMap f).length = c * l.length
  | [] => rfl
  | x :: l => by rw [List.flatMap_cons, List.length_append, hf, flat_len f c hf l, List.length_cons, Nat.mul_succ, Nat.add_comm]
theorem file_len (nm vr : Int) (fs : List (Int × Int)) (k : Nat) : (Pk.nameT nm vr ++ (fs.take k).flatMap Pk.fileT).length ≤ 2 + 4 * k := by
  rw [List.length_append, flat_len Pk.fileT 4 (fun _ => rfl)]
  have : (fs.take k).length ≤ k := List.length_take_le _ _
  simp only [Pk.nameT, List.length_cons, List.length_nil]
  omega
theorem dep_len (a : List UInt8) (ds : List (Int × Int)) (k : Nat) : (a ++ (ds.take k).flatMap Pk.depT).length ≤ a.length + 3 * k := by
  rw [List.length_append, flat_len Pk.depT 3 (fun _ => rfl)]
  have : (ds.take k).length ≤ k := List.length_take_le _ _
  omega

theorem text_ok {nm vr : Int} {fs ds : List (Int × Int)} (h : Pk.pkgOk nm vr fs ds = true) : Pk.text nm vr fs ds = Pk.nameT nm vr ++ fs.flatMap Pk.fileT ++ ds.flatMap Pk.depT := by unfold Pk.text; rw [h]; rfl
theorem ret_val {a b : ByteArray} (h : a = b) : Value.string a = .string b := by rw [h]
theorem app_more (a b : List UInt8) : (⟨a.toArray⟩ ++ ⟨b.toArray⟩ : ByteArray) = ⟨(a ++ b).toArray⟩ := app_data a b
theorem file_more (nm vr : Int) (fs : List (Int × Int)) (k : Nat) (h : k < fs.length) {s : ByteArray} (hs : s = ⟨(Pk.nameT nm vr ++ (fs.take k).flatMap Pk.fileT).toArray⟩) :
    s ++ ⟨#[32]⟩ ++ ⟨#[Pk.b8 (48 + Pk.fst fs k)]⟩ ++ ⟨#[58]⟩ ++ ⟨#[Pk.b8 (48 + Pk.snd fs k)]⟩ = ⟨(Pk.nameT nm vr ++ (fs.take (k + 1)).flatMap Pk.fileT).toArray⟩ := by
  rw [hs, take_flat _ _ _ h]
  apply ByteArray.ext
  simp [Pk.fileT]

theorem dep_more (a : List UInt8) (ds : List (Int × Int)) (k : Nat) (h : k < ds.length) {s : ByteArray} (hs : s = ⟨(a ++ (ds.take k).flatMap Pk.depT).toArray⟩) :
    s ++ ⟨#[32]⟩ ++ ⟨(Pk.nameT (Pk.fst ds k) (Pk.snd ds k)).toArray⟩ = ⟨(a ++ (ds.take (k + 1)).flatMap Pk.depT).toArray⟩ := by
  rw [hs, take_flat _ _ _ h]
  apply ByteArray.ext
  simp [Pk.depT]

theorem pkgOk_get {nm vr : Int} {fs ds : List (Int × Int)} (h : Pk.pkgOk nm vr fs ds = true) : (1 ≤ nm ∧ nm ≤ 4) ∧ (1 ≤ vr ∧ vr ≤ 5) ∧ Pk.filesOk fs = true ∧ Pk.depsOk nm ds = true := by
  unfold Pk.pkgOk at h
  rw [Bool.and_eq_true, Bool.and_eq_true, Bool.and_eq_true, Pk.inB_true, Pk.inB_true] at h
  exact ⟨h.1.1.1, h.1.1.2, h.1.2, h.2⟩

end Go.Proofs.YtkhanndmbpemfaaGreatDoor
