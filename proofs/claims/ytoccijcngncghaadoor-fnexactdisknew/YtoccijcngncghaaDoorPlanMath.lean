import Derived.Test.YtoccijcngncghaaDoorMix13
/- What is to be in, as plain data: what is wrong with packages, line by line. -/
namespace Go.Proofs.YtoccijcngncghaaDoor.Ix
open Pk

def titleT (p : Pg) : List UInt8 := Pk.nameT p.1 p.2.1
def besideT : List UInt8 := [32, 98, 101, 115, 105, 100, 101, 32]
def lacksT : List UInt8 := [32, 108, 97, 99, 107, 115, 32]
def andT : List UInt8 := [32, 97, 110, 100, 32]
def atT : List UInt8 := [32, 97, 116, 32]
def meetsP (d : Int × Int) (p : Pg) : Bool := decide (p.1 = d.1) && decide (d.2 ≤ p.2.1)
def hasAt (path : Int) (p : Pg) : Bool := p.2.2.1.any (fun f => f.1 == path)
def met (l : List Pg) (d : Int × Int) : Option Pg := l.find? (meetsP d)
def owner (l : List Pg) (i : Nat) (path : Int) : Option Pg := (l.take i).find? (hasAt path)
def besideL (l : List Pg) (i : Nat) : List (List UInt8) := if i ≠ 0 ∧ (pg l (i - 1)).1 = (pg l i).1 then [titleT (pg l i) ++ besideT ++ titleT (pg l (i - 1))] else []
def lackL (l : List Pg) (p : Pg) (d : Int × Int) : List (List UInt8) := match met l d with
  | some _ => []
  | none => [titleT p ++ lacksT ++ Pk.nameT d.1 d.2]
def placeL (l : List Pg) (i : Nat) (p : Pg) (f : Int × Int) : List (List UInt8) := match owner l i f.1 with
  | some o => [titleT p ++ andT ++ titleT o ++ atT ++ [Pk.b8 (48 + f.1)]]
  | none => []
def linesAt (l : List Pg) (i : Nat) : List (List UInt8) := besideL l i ++ (pg l i).2.2.2.flatMap (lackL l (pg l i)) ++ (pg l i).2.2.1.flatMap (placeL l i (pg l i))
def linesTo (l : List Pg) (k : Nat) : List (List UInt8) := (List.range k).flatMap (linesAt l)
def lines (l : List Pg) : List (List UInt8) := linesTo l l.length
def planOk (l : List Pg) : Bool := pkgsOk l && decide ((lines l).length = 0)
theorem linesTo_succ (l : List Pg) (k : Nat) : linesTo l (k + 1) = linesTo l k ++ linesAt l k := by unfold linesTo; rw [List.range_succ, List.flatMap_append]; simp
theorem besideL_len (l : List Pg) (i : Nat) : (besideL l i).length ≤ 1 := by unfold besideL; split <;> simp
theorem lackL_len (l : List Pg) (p : Pg) (d : Int × Int) : (lackL l p d).length ≤ 1 := by unfold lackL; split <;> simp
theorem placeL_len (l : List Pg) (i : Nat) (p : Pg) (d : Int × Int) : (placeL l i p d).length ≤ 1 := by unfold placeL; split <;> simp
theorem flat_le {α β : Type} (f : α → List β) (h : ∀ x, (f x).length ≤ 1) : ∀ s : List α, (s.flatMap f).length ≤ s.length
  | [] => Nat.le_refl _
  | x :: s => by
    have := flat_le f h s
    have := h x
    rw [List.flatMap_cons, List.length_append, List.length_cons]
    omega
theorem linesAt_len {l : List Pg} {i : Nat} (h : pOk (pg l i) = true) : (linesAt l i).length ≤ 5 := by
  obtain ⟨h1, h2⟩ := pOk_lens h
  have a := besideL_len l i
  have b := flat_le (lackL l (pg l i)) (lackL_len l (pg l i)) (pg l i).2.2.2
  have c := flat_le (placeL l i (pg l i)) (placeL_len l i (pg l i)) (pg l i).2.2.1
  unfold linesAt
  rw [List.length_append, List.length_append]
  omega
theorem linesTo_len {l : List Pg} (h : pkgsOk l = true) : ∀ k, k ≤ l.length → (linesTo l k).length ≤ 5 * k
  | 0, _ => Nat.le_refl _
  | k + 1, hk => by
    have a := linesTo_len h k (by omega)
    have b := linesAt_len (pkgs_pOk h (i := k) (by omega))
    rw [linesTo_succ, List.length_append]
    omega
theorem take_cons_flat {α β : Type} (f : α → List β) (s : List α) (k : Nat) (x : α) (hx : s[k]? = some x) : (s.take (k + 1)).flatMap f = (s.take k).flatMap f ++ f x := by
  rw [List.take_add_one, hx, List.flatMap_append]
  simp
/-- The first that meets a need is there just if the newest does. -/
theorem mem_ix {l : List Pg} {p : Pg} (h : p ∈ l) : ∃ i, i < l.length ∧ pg l i = p := by
  obtain ⟨i, hi, e⟩ := List.getElem_of_mem h
  refine ⟨i, hi, ?_⟩
  unfold pg
  rw [List.getD_eq_getElem?_getD, List.getElem?_eq_getElem hi]
  exact e
def newMeets (l : List Pg) (d : Int × Int) : Bool := (orNone (newest l d.1)).2 && decide (d.2 ≤ (orNone (newest l d.1)).1.2.1)
theorem met_newest {l : List Pg} {d : Int × Int} (hk : pkgsOk l = true) : (met l d).isSome = newMeets l d := by
  unfold newMeets met
  rw [Bool.eq_iff_iff, List.find?_isSome]
  rcases newest_cases l d.1 with ⟨hn, hno⟩ | ⟨m, hm, hn, hx, hr⟩
  · rw [hn]
    refine ⟨fun ⟨p, hp, hm⟩ => ?_, fun h => by cases h⟩
    obtain ⟨i, hi, e⟩ := mem_ix hp
    unfold meetsP at hm
    simp only [Bool.and_eq_true, decide_eq_true_eq] at hm
    exact absurd (by rw [e]; exact hm.1) (hno i hi)
  · rw [hn]
    show _ ↔ (true && decide (d.2 ≤ (pg l m).2.1)) = true
    rw [Bool.true_and, decide_eq_true_eq]
    constructor
    · rintro ⟨p, hp, hmm⟩
      obtain ⟨i, hi, e⟩ := mem_ix hp
      unfold meetsP at hmm
      simp only [Bool.and_eq_true, decide_eq_true_eq] at hmm
      rw [← e] at hmm
      by_cases hne : i = m
      · rw [← hne]; exact hmm.2
      · have := newest_top hk hm hx hr i hi hmm.1 hne
        omega
    · intro h
      refine ⟨_, pg_mem hm, ?_⟩
      unfold meetsP
      simp only [Bool.and_eq_true, decide_eq_true_eq]
      exact ⟨hx, h⟩
theorem pOk_ver {p : Pg} (h : pOk p = true) : 1 ≤ p.2.1 ∧ p.2.1 ≤ 5 := by
  unfold pOk Pk.pkgOk at h
  simp only [Bool.and_eq_true, Pk.inB_true] at h
  omega
theorem pkgs_key {l : List Pg} (h : pkgsOk l = true) : ∀ i, i < l.length → 6 + (i : Int) ≤ (pg l i).1 * 5 + (pg l i).2.1
  | 0, hi => by
    have a := pOk_name (pkgs_pOk h hi)
    have b := pOk_ver (pkgs_pOk h hi)
    omega
  | i + 1, hi => by
    have a := pkgs_key h i (by omega)
    have b := pkgs_less h hi
    have c := pOk_ver (pkgs_pOk h (i := i) (by omega))
    have d := pOk_ver (pkgs_pOk h hi)
    unfold less at b
    simp only [Bool.or_eq_true, Bool.and_eq_true, decide_eq_true_eq] at b
    omega
/-- There are no more than twenty. -/
theorem pkgs_len {l : List Pg} (h : pkgsOk l = true) : l.length ≤ 20 := by
  rcases Nat.eq_zero_or_pos l.length with h0 | hp
  · omega
  · have a := pkgs_key h (l.length - 1) (by omega)
    have b := pOk_name (pkgs_pOk h (i := l.length - 1) (by omega))
    have c := pOk_ver (pkgs_pOk h (i := l.length - 1) (by omega))
    omega
theorem pOk_file {p : Pg} (h : pOk p = true) : ∀ i, i < p.2.2.1.length → (0 ≤ Pk.fst p.2.2.1 i ∧ Pk.fst p.2.2.1 i ≤ 5) ∧ (0 ≤ Pk.snd p.2.2.1 i ∧ Pk.snd p.2.2.1 i ≤ 9) := by
  unfold pOk Pk.pkgOk at h
  simp only [Bool.and_eq_true] at h
  exact (Pk.filesOk_get h.1.2).2
theorem pOk_dep {p : Pg} (h : pOk p = true) : ∀ i, i < p.2.2.2.length → (1 ≤ Pk.fst p.2.2.2 i ∧ Pk.fst p.2.2.2 i ≤ 4) ∧ (1 ≤ Pk.snd p.2.2.2 i ∧ Pk.snd p.2.2.2 i ≤ 5) := by
  unfold pOk Pk.pkgOk at h
  simp only [Bool.and_eq_true] at h
  exact (Pk.depsOk_get h.2).2
end Go.Proofs.YtoccijcngncghaaDoor.Ix
