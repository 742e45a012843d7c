import Derived.Test.YtlidgoomlllonaaDoorMixI
/- What is to be in, as plain data: spec's l13For. -/
namespace Go.Proofs.YtlidgoomlllonaaDoor.Ix
open Pk

/-- A package of a name is there. -/
def isN (l : List Pg) (n : Int) : Bool := (orNone (newest l n)).2
theorem orNone_some {o : Option Pg} (h : (orNone o).2 = true) : o = some (orNone o).1 := by
  cases o with
  | none => cases h
  | some p => rfl
theorem isN_true {l : List Pg} {n : Int} : isN l n = true ↔ ∃ x ∈ l, x.1 = n := by
  unfold isN
  constructor
  · intro h
    have := newest_mem (orNone_some h)
    exact ⟨_, this.1, this.2⟩
  · rintro ⟨x, hx, rfl⟩
    rcases newest_cases l x.1 with ⟨_, hn⟩ | ⟨m, hm, h1, _⟩
    · obtain ⟨i, hi, e⟩ := List.getElem_of_mem hx
      refine absurd ?_ (hn i hi)
      rw [show pg l i = x from by unfold pg; rw [List.getD_eq_getElem?_getD, List.getElem?_eq_getElem hi, e]; rfl]
    · rw [h1]; rfl
/-- The newer one of what is kept, and what is in. -/
def pick13 (st ha : List Pg) (n : Int) : Pg × Bool :=
  if ((orNone (newest st n)).2 && (!(orNone (newest ha n)).2 || decide ((orNone (newest ha n)).1.2.1 < (orNone (newest st n)).1.2.1))) = true then ((orNone (newest st n)).1, true) else orNone (newest ha n)
theorem pick13_mem {st ha : List Pg} {n : Int} (h : (pick13 st ha n).2 = true) : ((pick13 st ha n).1 ∈ st ∨ (pick13 st ha n).1 ∈ ha) ∧ (pick13 st ha n).1.1 = n := by
  unfold pick13 at *
  split at h
  · rename_i hc
    rw [if_pos hc]
    rw [Bool.and_eq_true] at hc
    have := newest_mem (orNone_some hc.1)
    exact ⟨.inl this.1, this.2⟩
  · rename_i hc
    rw [if_neg hc]
    have := newest_mem (orNone_some h)
    exact ⟨.inr this.1, this.2⟩
/-- What is wanted, by names. -/
def wSet (W : List Bool) (n : Int) : List Bool := W.set n.toNat true
def wAll (W : List Bool) (ns : List Int) : List Bool := ns.foldl wSet W
theorem wAll_len (ns : List Int) : ∀ W : List Bool, (wAll W ns).length = W.length := by
  unfold wAll
  induction ns with
  | nil => intro W; rfl
  | cons n ns ih => intro W; rw [List.foldl_cons, ih]; unfold wSet; rw [List.length_set]
theorem wAll_snoc (W : List Bool) (ns : List Int) (n : Int) : wAll W (ns ++ [n]) = (wAll W ns).set n.toNat true := by unfold wAll; rw [List.foldl_append]; rfl
/-- A name is wanted, and is not there. -/
def miss (W : List Bool) (out : List Pg) (n : Nat) : Bool := decide (1 ≤ n) && (W.getD n false && !isN out n)
def first (W : List Bool) (out : List Pg) : Option Nat := (List.range 5).find? (miss W out)
theorem first_none {W : List Bool} {out : List Pg} (h : ∀ m, m < 5 → miss W out m = false) : first W out = none := by
  unfold first
  rw [List.find?_eq_none]
  intro x hx
  rw [h x (List.mem_range.1 hx)]
  simp
theorem first_some {W : List Bool} {out : List Pg} {n : Nat} (hn : n < 5) (h1 : miss W out n = true) (h : ∀ m, m < n → miss W out m = false) : first W out = some n := by
  unfold first
  have e : List.range 5 = List.range n ++ (n :: (List.range 5).drop (n + 1)) := by
    have : n = 0 ∨ n = 1 ∨ n = 2 ∨ n = 3 ∨ n = 4 := by omega
    rcases this with rfl | rfl | rfl | rfl | rfl <;> rfl
  rw [e, List.find?_append, List.find?_eq_none.2 (fun x hx => by rw [h x (List.mem_range.1 hx)]; simp)]
  rw [List.find?_cons_of_pos h1]
  rfl
def forF (st ha : List Pg) : Nat → List Bool → List Pg → Option (List Pg)
  | 0, _, _ => none
  | f + 1, W, out => match first W out with
    | none => some out
    | some n => if (pick13 st ha n).2 = true then forF st ha f (wAll W ((pick13 st ha n).1.2.2.2.map (·.1))) (wth out (pick13 st ha n).1) else none
def forW (ha : List Pg) (name : Int) : List Bool := wAll (List.replicate 5 false) (name :: ha.map (·.1))
def forO (o : Option (List Pg)) : Option (List Pg) := match o with
  | none => none
  | some out => if planOk out = true then some out else none
/-- What is to be in. -/
def forD (st ha : List Pg) (name : Int) : Option (List Pg) := forO (forF st ha 5 (forW ha name) [])
theorem forF_end {st ha : List Pg} {f : Nat} {W : List Bool} {out : List Pg} (h : first W out = none) : forF st ha (f + 1) W out = some out := by
  show (match first W out with | none => _ | some n => _) = _
  rw [h]
theorem forF_no {st ha : List Pg} {f n : Nat} {W : List Bool} {out : List Pg} (h : first W out = some n) (hp : (pick13 st ha n).2 = false) : forF st ha (f + 1) W out = none := by
  show (match first W out with | none => _ | some n => _) = _
  rw [h]
  show (if (pick13 st ha n).2 = true then _ else _) = _
  rw [if_neg (by rw [hp]; simp)]
theorem forF_go {st ha : List Pg} {f n : Nat} {W : List Bool} {out : List Pg} (h : first W out = some n) (hp : (pick13 st ha n).2 = true) : forF st ha (f + 1) W out = forF st ha f (wAll W ((pick13 st ha n).1.2.2.2.map (·.1))) (wth out (pick13 st ha n).1) := by
  show (match first W out with | none => _ | some n => _) = _
  rw [h]
  show (if (pick13 st ha n).2 = true then _ else _) = _
  rw [if_pos hp]
theorem ahead_or {x p : Pg} (h : x.1 ≠ p.1) : (if ahead x p = true then 1 else 0) + (if ahead p x = true then 1 else 0) = 1 := by
  unfold ahead less
  rcases Int.lt_or_gt_of_ne h with h1 | h1
  · have h2 : ¬ p.1 < x.1 := by omega
    simp [h1, h2, Ne.symm h]
  · have h2 : ¬ x.1 < p.1 := by omega
    have h3 : p.1 < x.1 := h1
    simp [h3, h2, h]
theorem wth_more {l : List Pg} {p : Pg} (h : isN l p.1 = false) : (wth l p).length = l.length + 1 := by
  have hn : ∀ x ∈ l, x.1 ≠ p.1 := fun x hx e => by rw [isN_true.2 ⟨x, hx, e⟩] at h; cases h
  clear h
  unfold wth
  rw [List.length_append, List.length_append, List.length_singleton]
  induction l with
  | nil => rfl
  | cons x l ih =>
    have := ih (fun y hy => hn y (List.mem_cons_of_mem _ hy))
    have ho := ahead_or (hn x List.mem_cons_self)
    rw [List.filter_cons, List.filter_cons, List.length_cons]
    split <;> split <;> simp_all <;> omega
theorem wth_mem {l : List Pg} {p x : Pg} (h : x ∈ wth l p) : x ∈ l ∨ x = p := by
  unfold wth at h
  rw [List.mem_append, List.mem_append, List.mem_filter, List.mem_filter, List.mem_singleton] at h
  rcases h with (h | h) | h
  · exact .inl h.1
  · exact .inr h
  · exact .inl h.1
theorem wth_is {l : List Pg} {p : Pg} (h : isN l p.1 = false) (m : Int) : isN (wth l p) m = (isN l m || decide (m = p.1)) := by
  have hn : ∀ x ∈ l, x.1 ≠ p.1 := fun x hx e => by rw [isN_true.2 ⟨x, hx, e⟩] at h; cases h
  rw [Bool.eq_iff_iff, isN_true, Bool.or_eq_true, isN_true, decide_eq_true_eq]
  constructor
  · rintro ⟨x, hx, rfl⟩
    rcases wth_mem hx with h1 | h1
    · exact .inl ⟨x, h1, rfl⟩
    · exact .inr (by rw [h1])
  · rintro (⟨x, hx, rfl⟩ | rfl)
    · refine ⟨x, ?_, rfl⟩
      unfold wth
      rw [List.mem_append, List.mem_append, List.mem_filter, List.mem_filter]
      have ho := ahead_or (hn x hx)
      cases h1 : ahead x p
      · cases h2 : ahead p x
        · rw [h1, h2] at ho; simp at ho
        · exact .inr ⟨hx, rfl⟩
      · exact .inl (.inl ⟨hx, rfl⟩)
    · exact ⟨p, by unfold wth; simp, rfl⟩
/-- How many names are not there. -/
def lackN (l : List Pg) : Nat := (if isN l 1 = true then 0 else 1) + (if isN l 2 = true then 0 else 1) + (if isN l 3 = true then 0 else 1) + (if isN l 4 = true then 0 else 1)
theorem lackN_pos {l : List Pg} {n : Nat} (h1 : 1 ≤ n) (h2 : n < 5) (h : isN l n = false) : 1 ≤ lackN l := by
  unfold lackN
  have : (n : Int) = 1 ∨ (n : Int) = 2 ∨ (n : Int) = 3 ∨ (n : Int) = 4 := by omega
  rcases this with e | e | e | e
  all_goals
    rw [e] at h
    rw [h]
    simp only [Bool.false_eq_true, if_false]
    omega
theorem lackN_less {l : List Pg} {p : Pg} {n : Nat} (h1 : 1 ≤ n) (h2 : n < 5) (hp : p.1 = n) (h : isN l n = false) : lackN (wth l p) + 1 = lackN l := by
  have h' : isN l p.1 = false := by rw [hp]; exact h
  unfold lackN
  rw [wth_is h', wth_is h', wth_is h', wth_is h', hp]
  have : (n : Int) = 1 ∨ (n : Int) = 2 ∨ (n : Int) = 3 ∨ (n : Int) = 4 := by omega
  rcases this with e | e | e | e
  all_goals
    rw [e] at h ⊢
    rw [h]
    simp
    try omega
theorem lackN_nil : lackN [] = 4 := rfl
end Go.Proofs.YtlidgoomlllonaaDoor.Ix
