import Derived.Test.YtcdbgkdccflbgaaGreatDoorMix13
import Derived.Test.YtcdbgkdccflbgaaGreatDoorMix7
/- What an index of packages tells of: each of them; of what it does not tell any more it does not tell. -/
namespace Go.Proofs.YtcdbgkdccflbgaaGreatDoor.Ix
open Pk

theorem of_get {num til : Int} {l : List Pg} (h : ofOk num til l = true) : pkgsOk l = true ∧ idxOk num til (l.map metaP) = true := by
  unfold ofOk at h
  rw [Bool.and_eq_true] at h
  exact h
theorem of_pOk {num til : Int} {l : List Pg} (h : ofOk num til l = true) {k : Nat} (hk : k < l.length) : pOk (pg l k) = true := by
  have := pkgsOk_at (of_get h).1 k hk
  unfold pkgGood at this
  rw [Bool.and_eq_true] at this
  exact this.1
theorem all_has {num til : Int} {l : List Pg} (h : ofOk num til l = true) {k : Nat} (hk : k < l.length) : has num til (l.map metaP) (pText (pg l k)) = some (pg l k) :=
  has_some.2 ⟨⟨of_pOk h hk, rfl⟩, (of_get h).2, List.mem_map.2 ⟨_, pg_mem hk, rfl⟩⟩
theorem map_at {l : List Pg} {i : Nat} (hi : i < l.length) : nm (l.map metaP) i = (pg l i).1 ∧ vr (l.map metaP) i = (pg l i).2.1 := by
  unfold nm vr pg
  rw [List.getD_eq_getElem?_getD, List.getD_eq_getElem?_getD, List.getElem?_map, List.getElem?_eq_getElem hi]
  exact ⟨rfl, rfl⟩
theorem metas_ne {ms : List M} (h : metasOk ms = true) {i j : Nat} (hij : i < j) (hj : j < ms.length) : ¬ (nm ms i = nm ms j ∧ vr ms i = vr ms j) := by
  intro e
  obtain ⟨d, rfl⟩ : ∃ d, j = i + d + 1 := ⟨j - i - 1, by omega⟩
  have := less_chain h (i := i) d hj
  rw [e.1, e.2, less_self] at this
  cases this
theorem other_mem {ms : List M} (h : metasOk ms = true) {i k : Nat} (hi : i < ms.length) (hk : k < ms.length) : ms[i] ∈ without ms k ↔ i ≠ k := by
  have at' : ∀ j (hj : j < ms.length), ms[j].1 = nm ms j ∧ ms[j].2.1 = vr ms j := fun j hj => by
    unfold nm vr
    rw [List.getD_eq_getElem?_getD, List.getElem?_eq_getElem hj]
    exact ⟨rfl, rfl⟩
  have inj : ∀ j (hj : j < ms.length), ms[j] = ms[i] → j = i := fun j hj e => by
    have e1 : nm ms j = nm ms i ∧ vr ms j = vr ms i := by rw [← (at' j hj).1, ← (at' j hj).2, ← (at' i hi).1, ← (at' i hi).2, e]; exact ⟨rfl, rfl⟩
    rcases Nat.lt_trichotomy j i with hl | he | hg
    · exact absurd e1 (metas_ne h hl hi)
    · exact he
    · exact absurd ⟨e1.1.symm, e1.2.symm⟩ (metas_ne h hg hj)
  unfold without
  rw [List.mem_append]
  constructor
  · rintro (hm | hm) e
    · obtain ⟨j, hj, hje⟩ := List.getElem_of_mem hm
      rw [List.length_take] at hj
      rw [List.getElem_take] at hje
      have := inj j (by omega) hje
      omega
    · obtain ⟨j, hj, hje⟩ := List.getElem_of_mem hm
      rw [List.length_drop] at hj
      rw [List.getElem_drop] at hje
      have := inj (k + 1 + j) (by omega) hje
      omega
  · intro hne
    rcases Nat.lt_or_ge i k with hl | hg
    · exact .inl (List.mem_iff_getElem.2 ⟨i, by rw [List.length_take]; omega, by rw [List.getElem_take]⟩)
    · exact .inr (List.mem_iff_getElem.2 ⟨i - (k + 1), by rw [List.length_drop]; omega, by rw [List.getElem_drop]; congr 1; omega⟩)
theorem other_has {num til : Int} {l : List Pg} (h : ofOk num til l = true) {i k : Nat} (hi : i < l.length) (hk : k < l.length) : hasB num til (without (l.map metaP) k) (pText (pg l i)) = decide (i ≠ k) := by
  have hlen : (l.map metaP).length = l.length := List.length_map _
  have hok := (of_get h).2
  have hms : metasOk (l.map metaP) = true := by
    unfold idxOk at hok
    rw [Bool.and_eq_true] at hok
    exact hok.2
  have hiff := other_mem hms (i := i) (k := k) (by omega) (by omega)
  have he : (l.map metaP)[i]'(by omega) = metaP (pg l i) := by
    rw [List.getElem_map]
    unfold pg
    rw [List.getD_eq_getElem?_getD, List.getElem?_eq_getElem hi]
    rfl
  rw [he] at hiff
  by_cases hne : i ≠ k
  · rw [decide_eq_true hne]
    exact (hasD_some (has_some.2 ⟨⟨of_pOk h hi, rfl⟩, idx_without hok (by omega), hiff.2 hne⟩)).2
  · rw [decide_eq_false hne]
    refine (hasD_none (has_no (rp_text (of_pOk h hi)) ?_)).2
    unfold tellsP
    rw [decide_eq_false (fun hm => hne (hiff.1 hm)), Bool.and_false]
end Go.Proofs.YtcdbgkdccflbgaaGreatDoor.Ix

/- What is kept of packages when just those stay of which an index tells, as plain data. -/
namespace Go.Proofs.YtcdbgkdccflbgaaGreatDoor.Ix
open Pk

def trim (num til : Int) (ms : List M) (l : List Pg) : List Pg := l.filter (tellsP num til ms)
theorem trim_snoc {num til : Int} {ms : List M} {l : List Pg} {k : Nat} (hk : k < l.length) : trim num til ms (l.take (k + 1)) = if tellsP num til ms (pg l k) = true then trim num til ms (l.take k) ++ [pg l k] else trim num til ms (l.take k) := by
  rw [take_pgs hk]
  unfold trim
  rw [List.filter_append]
  cases h : tellsP num til ms (pg l k)
  · rw [List.filter_cons_of_neg (by rw [h]; simp), List.filter_nil, List.append_nil, if_neg (by simp)]
  · rw [List.filter_cons_of_pos h, List.filter_nil, if_pos rfl]
theorem trim_len (num til : Int) (ms : List M) (l : List Pg) (k : Nat) : (trim num til ms (l.take k)).length ≤ k :=
  Nat.le_trans (List.length_filter_le _ _) (by rw [List.length_take]; omega)
theorem pks_pOk {l : List Pg} (h : pkgsOk l = true) {k : Nat} (hk : k < l.length) : pOk (pg l k) = true := by
  have := pkgsOk_at h k hk
  unfold pkgGood at this
  rw [Bool.and_eq_true] at this
  exact this.1
/-- What is told of the text of one that is kept is that one. -/
theorem has_kept {num til : Int} {ms : List M} {l : List Pg} (h : pkgsOk l = true) {k : Nat} (hk : k < l.length) :
    hasB num til ms (pText (pg l k)) = tellsP num til ms (pg l k) ∧ (tellsP num til ms (pg l k) = true → hasD num til ms (pText (pg l k)) = pg l k) := by
  have hr := rp_text (pks_pOk h hk)
  cases ht : tellsP num til ms (pg l k)
  · exact ⟨(hasD_none (has_no hr ht)).2, fun h => by cases h⟩
  · have := hasD_some (has_yes hr ht)
    exact ⟨this.2, fun _ => this.1⟩
/-- An index that is not ok tells of nothing. -/
theorem trim_bad {num til : Int} {ms : List M} (h : idxOk num til ms = false) (l : List Pg) : trim num til ms l = [] := by
  unfold trim
  rw [List.filter_eq_nil_iff]
  intro p _
  unfold tellsP
  rw [h]
  simp
end Go.Proofs.YtcdbgkdccflbgaaGreatDoor.Ix

/- What is to be in, as plain data: what is wrong with packages, line by line. -/
namespace Go.Proofs.YtcdbgkdccflbgaaGreatDoor.Ix
open Pk

def titleT (p : Pg) : List UInt8 := Pk.nameT p.1 p.2.1
def besideT : List UInt8 := [32, 98, 101, 115, 105, 100, 101, 32]
def lacksT : List UInt8 := [32, 108, 97, 99, 107, 115, 32]
def andT : List UInt8 := [32, 97, 110, 100, 32]
def atT : List UInt8 := [32, 97, 116, 32]
def meetsP (d : Int × Int) (p : Pg) : Bool := decide (p.1 = d.1) && decide (d.2 ≤ p.2.1)
def hasAt (path : Int) (p : Pg) : Bool := p.2.2.1.any (fun f => f.1 == path)
def met (l : List Pg) (d : Int × Int) : Option Pg := l.find? (meetsP d)
def owner (l : List Pg) (i : Nat) (path : Int) : Option Pg := (l.take i).find? (hasAt path)
def besideL (l : List Pg) (i : Nat) : List (List UInt8) := if i ≠ 0 ∧ (pg l (i - 1)).1 = (pg l i).1 then [titleT (pg l i) ++ besideT ++ titleT (pg l (i - 1))] else []
def lackL (l : List Pg) (p : Pg) (d : Int × Int) : List (List UInt8) := match met l d with
  | some _ => []
  | none => [titleT p ++ lacksT ++ Pk.nameT d.1 d.2]
def placeL (l : List Pg) (i : Nat) (p : Pg) (f : Int × Int) : List (List UInt8) := match owner l i f.1 with
  | some o => [titleT p ++ andT ++ titleT o ++ atT ++ [Pk.b8 (48 + f.1)]]
  | none => []
def linesAt (l : List Pg) (i : Nat) : List (List UInt8) := besideL l i ++ (pg l i).2.2.2.flatMap (lackL l (pg l i)) ++ (pg l i).2.2.1.flatMap (placeL l i (pg l i))
def linesTo (l : List Pg) (k : Nat) : List (List UInt8) := (List.range k).flatMap (linesAt l)
def lines (l : List Pg) : List (List UInt8) := linesTo l l.length
def planOk (l : List Pg) : Bool := pkgsOk l && decide ((lines l).length = 0)
theorem linesTo_succ (l : List Pg) (k : Nat) : linesTo l (k + 1) = linesTo l k ++ linesAt l k := by unfold linesTo; rw [List.range_succ, List.flatMap_append]; simp
theorem besideL_len (l : List Pg) (i : Nat) : (besideL l i).length ≤ 1 := by unfold besideL; split <;> simp
theorem lackL_len (l : List Pg) (p : Pg) (d : Int × Int) : (lackL l p d).length ≤ 1 := by unfold lackL; split <;> simp
theorem placeL_len (l : List Pg) (i : Nat) (p : Pg) (d : Int × Int) : (placeL l i p d).length ≤ 1 := by unfold placeL; split <;> simp
theorem flat_le {α β : Type} (f : α → List β) (h : ∀ x, (f x).length ≤ 1) : ∀ s : List α, (s.flatMap f).length ≤ s.length
  | [] => Nat.le_refl _
  | x :: s => by
    have := flat_le f h s
    have := h x
    rw [List.flatMap_cons, List.length_append, List.length_cons]
    omega
theorem linesAt_len {l : List Pg} {i : Nat} (h : pOk (pg l i) = true) : (linesAt l i).length ≤ 5 := by
  obtain ⟨h1, h2⟩ := pOk_lens h
  have a := besideL_len l i
  have b := flat_le (lackL l (pg l i)) (lackL_len l (pg l i)) (pg l i).2.2.2
  have c := flat_le (placeL l i (pg l i)) (placeL_len l i (pg l i)) (pg l i).2.2.1
  unfold linesAt
  rw [List.length_append, List.length_append]
  omega
theorem linesTo_len {l : List Pg} (h : pkgsOk l = true) : ∀ k, k ≤ l.length → (linesTo l k).length ≤ 5 * k
  | 0, _ => Nat.le_refl _
  | k + 1, hk => by
    have a := linesTo_len h k (by omega)
    have b := linesAt_len (pkgs_pOk h (i := k) (by omega))
    rw [linesTo_succ, List.length_append]
    omega
theorem take_cons_flat {α β : Type} (f : α → List β) (s : List α) (k : Nat) (x : α) (hx : s[k]? = some x) : (s.take (k + 1)).flatMap f = (s.take k).flatMap f ++ f x := by
  rw [List.take_add_one, hx, List.flatMap_append]
  simp
/-- The first that meets a need is there just if the newest does. -/
theorem mem_ix {l : List Pg} {p : Pg} (h : p ∈ l) : ∃ i, i < l.length ∧ pg l i = p := by
  obtain ⟨i, hi, e⟩ := List.getElem_of_mem h
  refine ⟨i, hi, ?_⟩
  unfold pg
  rw [List.getD_eq_getElem?_getD, List.getElem?_eq_getElem hi]
  exact e
def newMeets (l : List Pg) (d : Int × Int) : Bool := (orNone (newest l d.1)).2 && decide (d.2 ≤ (orNone (newest l d.1)).1.2.1)
theorem met_newest {l : List Pg} {d : Int × Int} (hk : pkgsOk l = true) : (met l d).isSome = newMeets l d := by
  unfold newMeets met
  rw [Bool.eq_iff_iff, List.find?_isSome]
  rcases newest_cases l d.1 with ⟨hn, hno⟩ | ⟨m, hm, hn, hx, hr⟩
  · rw [hn]
    refine ⟨fun ⟨p, hp, hm⟩ => ?_, fun h => by cases h⟩
    obtain ⟨i, hi, e⟩ := mem_ix hp
    unfold meetsP at hm
    simp only [Bool.and_eq_true, decide_eq_true_eq] at hm
    exact absurd (by rw [e]; exact hm.1) (hno i hi)
  · rw [hn]
    show _ ↔ (true && decide (d.2 ≤ (pg l m).2.1)) = true
    rw [Bool.true_and, decide_eq_true_eq]
    constructor
    · rintro ⟨p, hp, hmm⟩
      obtain ⟨i, hi, e⟩ := mem_ix hp
      unfold meetsP at hmm
      simp only [Bool.and_eq_true, decide_eq_true_eq] at hmm
      rw [← e] at hmm
      by_cases hne : i = m
      · rw [← hne]; exact hmm.2
      · have := newest_top hk hm hx hr i hi hmm.1 hne
        omega
    · intro h
      refine ⟨_, pg_mem hm, ?_⟩
      unfold meetsP
      simp only [Bool.and_eq_true, decide_eq_true_eq]
      exact ⟨hx, h⟩
theorem pOk_ver {p : Pg} (h : pOk p = true) : 1 ≤ p.2.1 ∧ p.2.1 ≤ 5 := by
  unfold pOk Pk.pkgOk at h
  simp only [Bool.and_eq_true, Pk.inB_true] at h
  omega
theorem pkgs_key {l : List Pg} (h : pkgsOk l = true) : ∀ i, i < l.length → 6 + (i : Int) ≤ (pg l i).1 * 5 + (pg l i).2.1
  | 0, hi => by
    have a := pOk_name (pkgs_pOk h hi)
    have b := pOk_ver (pkgs_pOk h hi)
    omega
  | i + 1, hi => by
    have a := pkgs_key h i (by omega)
    have b := pkgs_less h hi
    have c := pOk_ver (pkgs_pOk h (i := i) (by omega))
    have d := pOk_ver (pkgs_pOk h hi)
    unfold less at b
    simp only [Bool.or_eq_true, Bool.and_eq_true, decide_eq_true_eq] at b
    omega
/-- There are no more than twenty. -/
theorem pkgs_len {l : List Pg} (h : pkgsOk l = true) : l.length ≤ 20 := by
  rcases Nat.eq_zero_or_pos l.length with h0 | hp
  · omega
  · have a := pkgs_key h (l.length - 1) (by omega)
    have b := pOk_name (pkgs_pOk h (i := l.length - 1) (by omega))
    have c := pOk_ver (pkgs_pOk h (i := l.length - 1) (by omega))
    omega
theorem pOk_file {p : Pg} (h : pOk p = true) : ∀ i, i < p.2.2.1.length → (0 ≤ Pk.fst p.2.2.1 i ∧ Pk.fst p.2.2.1 i ≤ 5) ∧ (0 ≤ Pk.snd p.2.2.1 i ∧ Pk.snd p.2.2.1 i ≤ 9) := by
  unfold pOk Pk.pkgOk at h
  simp only [Bool.and_eq_true] at h
  exact (Pk.filesOk_get h.1.2).2
theorem pOk_dep {p : Pg} (h : pOk p = true) : ∀ i, i < p.2.2.2.length → (1 ≤ Pk.fst p.2.2.2 i ∧ Pk.fst p.2.2.2 i ≤ 4) ∧ (1 ≤ Pk.snd p.2.2.2 i ∧ Pk.snd p.2.2.2 i ≤ 5) := by
  unfold pOk Pk.pkgOk at h
  simp only [Bool.and_eq_true] at h
  exact (Pk.depsOk_get h.2).2
end Go.Proofs.YtcdbgkdccflbgaaGreatDoor.Ix
