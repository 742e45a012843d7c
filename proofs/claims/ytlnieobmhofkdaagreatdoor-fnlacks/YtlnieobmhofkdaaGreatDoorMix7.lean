import Derived.Test.YtlnieobmhofkdaaGreatDoorMathW
import Derived.Test.YtlnieobmhofkdaaGreatDoorMix6
/- Packages as plain data: without one they are ok still, with one twice they are not. -/
namespace Go.Proofs.YtlnieobmhofkdaaGreatDoor.Ix
open Pk

def cutP (l : List Pg) (k : Nat) : List Pg := l.take k ++ l.drop (k + 1)
def twoP (l : List Pg) (k : Nat) : List Pg := (l.take k ++ [pg l k]) ++ l.drop k
theorem cutP_length {l : List Pg} {k : Nat} (hk : k < l.length) : (cutP l k).length = l.length - 1 := by unfold cutP; rw [List.length_append, List.length_take, List.length_drop]; omega
theorem cutP_lt {l : List Pg} {k i : Nat} (hi : i < k) (hk : k < l.length) : pg (cutP l k) i = pg l i := by
  unfold cutP pg
  rw [List.getD_eq_getElem?_getD, List.getD_eq_getElem?_getD, List.getElem?_append_left (by rw [List.length_take]; omega), List.getElem?_take_of_lt hi]
theorem cutP_ge {l : List Pg} {k i : Nat} (hi : k ≤ i) (hk : k < l.length) : pg (cutP l k) i = pg l (i + 1) := by
  unfold cutP pg
  have hlen : (l.take k).length = k := by rw [List.length_take]; omega
  rw [List.getD_eq_getElem?_getD, List.getD_eq_getElem?_getD, List.getElem?_append_right (by omega), hlen, List.getElem?_drop, show k + 1 + (i - k) = i + 1 by omega]
theorem less_transP {a b c d e f : Int} (h1 : less a b c d = true) (h2 : less c d e f = true) : less a b e f = true := by
  unfold less at *
  simp only [Bool.or_eq_true, Bool.and_eq_true, decide_eq_true_eq] at *
  omega
theorem pkgs_less {l : List Pg} (h : pkgsOk l = true) {i : Nat} (hi : i + 1 < l.length) : less (pg l i).1 (pg l i).2.1 (pg l (i + 1)).1 (pg l (i + 1)).2.1 = true := by
  have := pkgsOk_at h (i + 1) hi
  unfold pkgGood at this
  rw [Bool.and_eq_true, Bool.or_eq_true] at this
  rcases this.2 with h | h
  · exact absurd (of_decide_eq_true h) (by omega)
  · simpa using h
theorem pkgs_pOk {l : List Pg} (h : pkgsOk l = true) {i : Nat} (hi : i < l.length) : pOk (pg l i) = true := by
  have := pkgsOk_at h i hi
  unfold pkgGood at this
  rw [Bool.and_eq_true] at this
  exact this.1
theorem cutP_ok {l : List Pg} {k : Nat} (h : pkgsOk l = true) (hk : k < l.length) : pkgsOk (cutP l k) = true := by
  refine pkgsOk_good (fun i hi => ?_)
  rw [cutP_length hk] at hi
  unfold pkgGood
  rcases Nat.lt_or_ge i k with hlt | hge
  · rw [cutP_lt hlt hk, cutP_lt (i := i - 1) (by omega) hk]
    exact pkgsOk_at h i (by omega)
  · rw [cutP_ge hge hk, pkgs_pOk h (by omega), Bool.true_and, Bool.or_eq_true]
    rcases Nat.eq_zero_or_pos i with h0 | hpos
    · exact .inl (decide_eq_true h0)
    · right
      obtain ⟨m, rfl⟩ : ∃ m, i = m + 1 := ⟨i - 1, by omega⟩
      rcases Nat.lt_or_ge m k with hm | hm
      · obtain rfl : k = m + 1 := by omega
        rw [Nat.add_sub_cancel, cutP_lt (by omega) hk]
        exact less_transP (pkgs_less h (by omega)) (pkgs_less h (i := m + 1) (by omega))
      · rw [Nat.add_sub_cancel, cutP_ge hm hk]
        exact pkgs_less h (i := m + 1) (by omega)
theorem twoP_length {l : List Pg} {k : Nat} (hk : k < l.length) : (twoP l k).length = l.length + 1 := by
  unfold twoP
  rw [List.length_append, List.length_append, List.length_take, List.length_drop, List.length_singleton]
  omega
theorem twoP_bad {l : List Pg} {k : Nat} (hk : k < l.length) : pkgsOk (twoP l k) = false := by
  have hlen : (l.take k).length = k := by rw [List.length_take]; omega
  have hlen2 : (l.take k ++ [pg l k]).length = k + 1 := by rw [List.length_append, hlen]; rfl
  refine pkgsOk_bad (i := k + 1) (by rw [twoP_length hk]; omega) ?_
  have e1 : pg (twoP l k) k = pg l k := by
    unfold twoP
    show List.getD _ _ _ = _
    rw [List.getD_eq_getElem?_getD, List.getElem?_append_left (by omega), List.getElem?_append_right (by omega), hlen, Nat.sub_self]
    rfl
  have e2 : pg (twoP l k) (k + 1) = pg l k := by
    unfold twoP
    show List.getD _ _ _ = List.getD _ _ _
    rw [List.getD_eq_getElem?_getD, List.getD_eq_getElem?_getD, List.getElem?_append_right (by omega), hlen2, Nat.sub_self, List.getElem?_drop, Nat.add_zero]
  have e3 : ∀ a b : Int, less a b a b = false := fun a b => by unfold less; simp
  unfold pkgGood
  rw [Nat.add_sub_cancel, e1, e2, e3, decide_eq_false (by omega), Bool.or_self, Bool.and_false]
end Go.Proofs.YtlnieobmhofkdaaGreatDoor.Ix

/- Packages as plain data: those of one name, and the newest of them. -/
namespace Go.Proofs.YtlnieobmhofkdaaGreatDoor.Ix
open Pk

def shelf (l : List Pg) (n : Int) : List Pg := l.filter (fun p => decide (p.1 = n))
def newest (l : List Pg) (n : Int) : Option Pg := (shelf l n).getLast?
def orNone : Option Pg → Pg × Bool
  | some p => (p, true)
  | none => ((0, 0, [], []), false)
def newA (l : List Pg) (n : Int) : Pg × Bool := orNone (if pkgsOk l = true then newest l n else none)
theorem take_pgs {l : List Pg} {k : Nat} (hk : k < l.length) : l.take (k + 1) = l.take k ++ [pg l k] := by
  rw [List.take_add_one]
  unfold pg
  rw [List.getD_eq_getElem?_getD, List.getElem?_eq_getElem hk]
  rfl
theorem shelf_snoc {l : List Pg} {k : Nat} (hk : k < l.length) (n : Int) : shelf (l.take (k + 1)) n = if (pg l k).1 = n then shelf (l.take k) n ++ [pg l k] else shelf (l.take k) n := by
  rw [take_pgs hk]
  unfold shelf
  rw [List.filter_append]
  by_cases h : (pg l k).1 = n
  · rw [if_pos h, List.filter_cons_of_pos (by simpa using h), List.filter_nil]
  · rw [if_neg h, List.filter_cons_of_neg (by simpa using h), List.filter_nil, List.append_nil]
theorem shelf_rest {l : List Pg} {n : Int} {i : Nat} (hi : i ≤ l.length) (h : ∀ j, i ≤ j → j < l.length → (pg l j).1 ≠ n) : shelf l n = shelf (l.take i) n := by
  have : ∀ d, i + d ≤ l.length → shelf (l.take (i + d)) n = shelf (l.take i) n := fun d => by
    induction d with
    | zero => intro _; rfl
    | succ d ih =>
      intro hd
      rw [← Nat.add_assoc, shelf_snoc (by omega), if_neg (h _ (by omega) (by omega)), ih (by omega)]
  have h2 := this (l.length - i) (by omega)
  rw [show i + (l.length - i) = l.length by omega, List.take_length] at h2
  exact h2
theorem newest_none {l : List Pg} {n : Int} (h : ∀ j, 0 ≤ j → j < l.length → (pg l j).1 ≠ n) : newest l n = none := by
  unfold newest
  rw [shelf_rest (Nat.zero_le _) h]
  rfl
theorem newest_at {l : List Pg} {n : Int} {i : Nat} (hi : i < l.length) (hn : (pg l i).1 = n) (h : ∀ j, i + 1 ≤ j → j < l.length → (pg l j).1 ≠ n) : newest l n = some (pg l i) := by
  unfold newest
  rw [shelf_rest (i := i + 1) hi h, shelf_snoc hi, if_pos hn, List.getLast?_concat]
theorem newA_bad {l : List Pg} {n : Int} (h : pkgsOk l = false) : newA l n = ((0, 0, [], []), false) := by unfold newA; rw [h]; rfl
theorem newA_none {l : List Pg} {n : Int} (h : newest l n = none) : newA l n = ((0, 0, [], []), false) := by
  unfold newA
  rw [h]
  split <;> rfl
theorem newA_some {l : List Pg} {n : Int} {p : Pg} (hk : pkgsOk l = true) (h : newest l n = some p) : newA l n = (p, true) := by
  unfold newA
  rw [h, if_pos hk]
  rfl
theorem pOk_name {p : Pg} (h : pOk p = true) : 1 ≤ p.1 ∧ p.1 ≤ 4 := by
  unfold pOk Pk.pkgOk at h
  simp only [Bool.and_eq_true, Pk.inB_true] at h
  omega
theorem shelf_mem {l : List Pg} {n : Int} {p : Pg} (h : p ∈ shelf l n) : p ∈ l ∧ p.1 = n := by
  unfold shelf at h
  rw [List.mem_filter] at h
  exact ⟨h.1, by simpa using h.2⟩
theorem newest_mem {l : List Pg} {n : Int} {p : Pg} (h : newest l n = some p) : p ∈ l ∧ p.1 = n := shelf_mem (List.mem_of_getLast? h)
end Go.Proofs.YtlnieobmhofkdaaGreatDoor.Ix

/- Packages as plain data: what is said of the newest of a name. -/
namespace Go.Proofs.YtlnieobmhofkdaaGreatDoor.Ix
open Pk

theorem pkgs_chain {l : List Pg} (h : pkgsOk l = true) {i : Nat} : ∀ d, i + d + 1 < l.length → less (pg l i).1 (pg l i).2.1 (pg l (i + d + 1)).1 (pg l (i + d + 1)).2.1 = true
  | 0, hi => pkgs_less h hi
  | d + 1, hi => less_transP (pkgs_chain h d (by omega)) (pkgs_less h (i := i + d + 1) hi)
theorem pkgs_lt {l : List Pg} (h : pkgsOk l = true) {i j : Nat} (hij : i < j) (hj : j < l.length) : less (pg l i).1 (pg l i).2.1 (pg l j).1 (pg l j).2.1 = true := by
  have := pkgs_chain h (i := i) (j - i - 1) (by omega)
  rw [show i + (j - i - 1) + 1 = j by omega] at this
  exact this
theorem last_ix {l : List Pg} {x : Int} : ∀ i, i ≤ l.length → (∀ j, i ≤ j → j < l.length → (pg l j).1 ≠ x) → (∃ m, m < l.length ∧ (pg l m).1 = x ∧ ∀ j, m + 1 ≤ j → j < l.length → (pg l j).1 ≠ x) ∨ ∀ j, 0 ≤ j → j < l.length → (pg l j).1 ≠ x
  | 0, _, h => .inr h
  | i + 1, hi, h => by
    by_cases hx : (pg l i).1 = x
    · exact .inl ⟨i, hi, hx, h⟩
    · refine last_ix i (by omega) (fun j h1 h2 => ?_)
      rcases Nat.lt_or_ge i j with h3 | h3
      · exact h j h3 h2
      · obtain rfl : j = i := by omega
        exact hx
theorem newest_cases (l : List Pg) (x : Int) : (newest l x = none ∧ ∀ j, j < l.length → (pg l j).1 ≠ x) ∨ ∃ m, m < l.length ∧ newest l x = some (pg l m) ∧ (pg l m).1 = x ∧ ∀ j, m + 1 ≤ j → j < l.length → (pg l j).1 ≠ x := by
  rcases last_ix (l := l) (x := x) l.length (Nat.le_refl _) (fun j h1 h2 => absurd h2 (by omega)) with ⟨m, hm, hx, hr⟩ | h
  · exact .inr ⟨m, hm, newest_at hm hx hr, hx, hr⟩
  · exact .inl ⟨newest_none h, fun j hj => h j (Nat.zero_le _) hj⟩
theorem newest_top {l : List Pg} {x : Int} {m : Nat} (hk : pkgsOk l = true) (hm : m < l.length) (hx : (pg l m).1 = x) (hr : ∀ j, m + 1 ≤ j → j < l.length → (pg l j).1 ≠ x) : ∀ i, i < l.length → (pg l i).1 = x → i ≠ m → (pg l i).2.1 < (pg l m).2.1 := by
  intro i hi h1 hne
  rcases Nat.lt_or_ge i m with h | h
  · have := pkgs_lt hk h hm
    unfold less at this
    simp only [Bool.or_eq_true, Bool.and_eq_true, decide_eq_true_eq] at this
    omega
  · exact absurd h1 (hr i (by omega) hi)
theorem pOk_lens {p : Pg} (h : pOk p = true) : p.2.2.1.length ≤ 2 ∧ p.2.2.2.length ≤ 2 := by
  unfold pOk Pk.pkgOk at h
  simp only [Bool.and_eq_true] at h
  exact ⟨(Pk.filesOk_get h.1.2).1, (Pk.depsOk_get h.2).1⟩
theorem newA_lens (l : List Pg) (x : Int) : (newA l x).1.2.2.1.length ≤ 2 ∧ (newA l x).1.2.2.2.length ≤ 2 := by
  cases hk : pkgsOk l
  · rw [newA_bad hk]; exact ⟨Nat.zero_le _, Nat.zero_le _⟩
  · rcases newest_cases l x with ⟨hn, _⟩ | ⟨m, hm, hn, _, _⟩
    · rw [newA_none hn]; exact ⟨Nat.zero_le _, Nat.zero_le _⟩
    · rw [newA_some hk hn]
      exact pOk_lens (pkgs_pOk hk hm)
def anyN (l : List Pg) (x : Int) (k : Nat) : Bool := (List.range k).any (fun j => (pg l j).1 == x)
theorem anyN_succ (l : List Pg) (x : Int) (k : Nat) : anyN l x (k + 1) = (anyN l x k || ((pg l k).1 == x)) := by unfold anyN; rw [List.range_succ, List.any_append]; simp
/-- What the law asks of the newest. -/
theorem newest_law {l : List Pg} {x : Int} (hk : pkgsOk l = true) : (∀ i, i < l.length → (pg l i).1 = x → (newA l x).2 = true ∧ (pg l i).2.1 ≤ (newA l x).1.2.1) ∧ (newA l x).2 = anyN l x l.length ∧ ((newA l x).2 = true → (newA l x).1 ∈ l ∧ (newA l x).1.1 = x) := by
  rcases newest_cases l x with ⟨hn, hno⟩ | ⟨m, hm, hn, hx, hr⟩
  · rw [newA_none hn]
    refine ⟨fun i hi h => absurd h (hno i hi), ?_, fun h => by cases h⟩
    symm
    unfold anyN
    rw [List.any_eq_false]
    intro j hj
    have := hno j (List.mem_range.1 hj)
    simpa using this
  · rw [newA_some hk hn]
    refine ⟨fun i hi h => ⟨rfl, ?_⟩, ?_, fun _ => ⟨pg_mem hm, hx⟩⟩
    · by_cases hne : i = m
      · subst hne; exact Int.le_refl _
      · have := newest_top hk hm hx hr i hi h hne
        exact Int.le_of_lt this
    · symm
      unfold anyN
      rw [List.any_eq_true]
      exact ⟨m, List.mem_range.2 hm, by simpa using hx⟩
theorem newA_true {l : List Pg} {x : Int} {p : Pg} (h : newA l x = (p, true)) : pkgsOk l = true ∧ newest l x = some p := by
  cases hk : pkgsOk l
  · rw [newA_bad hk] at h; cases h
  · refine ⟨rfl, ?_⟩
    cases hn : newest l x with
    | none => rw [newA_none hn] at h; cases h
    | some q => rw [newA_some hk hn] at h; injection h with h _; rw [h]
theorem more_law {l : List Pg} {x : Int} {p : Pg} (h : newA l x = (p, true)) : ∃ m, m < l.length ∧ pg l m = p ∧ (∀ i, i < l.length → i ≠ m → pg l i ≠ p) ∧ ((newA (cutP l m) x).2 = true → (newA (cutP l m) x).1.2.1 < p.2.1 ∧ (newA (cutP l m) x).1.1 = x) := by
  obtain ⟨hk, hn⟩ := newA_true h
  rcases newest_cases l x with ⟨h0, _⟩ | ⟨m, hm, hq, hx, hr⟩
  · rw [h0] at hn; cases hn
  · rw [hq] at hn
    have hp := Option.some.inj hn
    refine ⟨m, hm, hp, fun i hi hne e => ?_, fun hb => ?_⟩
    · rw [← hp] at e
      have : less (pg l m).1 (pg l m).2.1 (pg l m).1 (pg l m).2.1 = true := by
        rcases Nat.lt_or_ge i m with h1 | h1
        · have := pkgs_lt hk h1 hm
          rw [e] at this
          exact this
        · have := pkgs_lt hk (show m < i by omega) hi
          rw [e] at this
          exact this
      unfold less at this
      simp at this
    · have hck := cutP_ok hk hm
      rcases newest_cases (cutP l m) x with ⟨h0, _⟩ | ⟨j, hj, hq2, hx2, _⟩
      · rw [newA_none h0] at hb; cases hb
      · rw [newA_some hck hq2]
        rw [cutP_length hm] at hj
        refine ⟨?_, hx2⟩
        rw [← hp]
        show (pg (cutP l m) j).2.1 < _
        rcases Nat.lt_or_ge j m with h1 | h1
        · rw [cutP_lt h1 hm] at hx2 ⊢
          exact newest_top hk hm hx hr j (by omega) hx2 (by omega)
        · rw [cutP_ge h1 hm] at hx2 ⊢
          exact newest_top hk hm hx hr (j + 1) (by omega) hx2 (by omega)
end Go.Proofs.YtlnieobmhofkdaaGreatDoor.Ix

/- Packages in order, as plain data: one more in its place keeps the order. -/
namespace Go.Proofs.YtlnieobmhofkdaaGreatDoor.Ix
open Pk

theorem pg_get {l : List Pg} {i : Nat} (hi : i < l.length) : pg l i = l[i] := by
  unfold pg
  rw [List.getD_eq_getElem?_getD, List.getElem?_eq_getElem hi]
  rfl
theorem ahead_trans {a b c : Pg} (h1 : ahead a b = true) (h2 : ahead b c = true) : ahead a c = true := by
  unfold ahead less at *
  simp only [Bool.or_eq_true, Bool.and_eq_true, decide_eq_true_eq] at *
  omega
theorem pkgsOk_pair {l : List Pg} : pkgsOk l = true ↔ (∀ x ∈ l, pOk x = true) ∧ l.Pairwise (fun x y => ahead x y = true) := by
  constructor
  · intro h
    refine ⟨fun x hx => ?_, ?_⟩
    · obtain ⟨i, hi, e⟩ := List.getElem_of_mem hx
      have := pkgs_pOk h hi
      rw [pg_get hi, e] at this
      exact this
    · rw [List.pairwise_iff_getElem]
      intro i j hi hj hij
      have := pkgs_lt h hij hj
      rw [pg_get hi, pg_get hj] at this
      exact this
  · rintro ⟨h1, h2⟩
    rw [List.pairwise_iff_getElem] at h2
    refine pkgsOk_good (fun i hi => ?_)
    unfold pkgGood
    rw [h1 _ (pg_mem hi), Bool.true_and]
    rcases Nat.eq_zero_or_pos i with h0 | h0
    · rw [decide_eq_true h0, Bool.true_or]
    · have := h2 (i - 1) i (by omega) hi (by omega)
      rw [pg_get hi, pg_get (show i - 1 < l.length by omega)]
      rw [Bool.or_eq_true]
      exact .inr this
theorem wth_ok {l : List Pg} {p : Pg} (h : pkgsOk l = true) (hp : pOk p = true) : pkgsOk (wth l p) = true := by
  rw [pkgsOk_pair] at h ⊢
  obtain ⟨h1, h2⟩ := h
  unfold wth
  refine ⟨fun x hx => ?_, ?_⟩
  · rw [List.mem_append, List.mem_append, List.mem_filter, List.mem_filter, List.mem_singleton] at hx
    rcases hx with (hx | hx) | hx
    · exact h1 x hx.1
    · rw [hx]; exact hp
    · exact h1 x hx.1
  · rw [List.pairwise_append, List.pairwise_append]
    refine ⟨⟨h2.filter _, List.pairwise_singleton _ _, fun a ha b hb => ?_⟩, h2.filter _, fun a ha b hb => ?_⟩
    · rw [List.mem_singleton] at hb
      rw [hb]
      exact (List.mem_filter.1 ha).2
    · have hb2 : ahead p b = true := (List.mem_filter.1 hb).2
      rw [List.mem_append, List.mem_singleton] at ha
      rcases ha with ha | ha
      · exact ahead_trans (List.mem_filter.1 ha).2 hb2
      · rw [ha]; exact hb2
end Go.Proofs.YtlnieobmhofkdaaGreatDoor.Ix

/- What spec's l71Pkgs returns, said further: the row of packages is owned. -/
namespace Go.Proofs.YtlnieobmhofkdaaGreatDoor
open Go.RowKit

theorem own_baseP {w : World} {B B' sz n : Nat} {t : TypeId} {v : Value} {xs : List Value} (h : w.ownsRow B t sz v n xs) (hB : B' ≤ B) : w.ownsRow B' t sz v n xs := by
  refine ⟨h.1, ?_⟩
  rcases h.2 with hn | ⟨g, cap, cur, rfl, hb1, rest⟩
  · exact .inl hn
  · exact .inr ⟨g, cap, cur, rfl, Nat.le_trans hB hb1, rest⟩
/-- A row of packages of one's own, the packages' rows in other blocks. -/
abbrev POx (B : Nat) (w : World) (v : Value) (l : List El) : Prop := POwn (fun b => B ≤ b ∧ v.ownBlock ≠ some b) B w v l
theorem POwn.kp {W w w' : World} {v : Value} {l : List El} {blk : Nat} (h : POx W.heap.size w v l) (hk : Kp w.heap.size blk w w') (hb : blk < W.heap.size) : POx W.heap.size w' v l :=
  ⟨own_keepS h.own (fun g _ _ hg hx => hk.block g (heapLt hx) (by omega)), fun e he => ⟨(h.el e he).1.keep hk.size (fun k hk1 hN => hk.block k hk1 (by omega)), (h.el e he).2.keep hk.size (fun k hk1 hN => hk.block k hk1 (by omega))⟩⟩
theorem POwn.empty (w : World) : POx w.heap.size (w.alloc (.cells #[] 42)) (.slice (some ⟨w.heap.size, 0, none⟩) 0 0) [] :=
  ⟨⟨by simp [flat4], .inr ⟨w.heap.size, 0, #[], rfl, Nat.le_refl _, heap_alloc_new _ _, Nat.le_refl _, by unfold maxLen; omega, by simp, by simp [flat4]⟩⟩, fun e he => by cases he⟩

set_option maxHeartbeats 4000000 in
set_option maxRecDepth 100000 in
theorem l71Pkgs_ok {B : Nat} (w : World) (blk p : Nat) (h : Rd B w blk p) (hB : B ≤ w.heap.size) (hp : p ≤ 800000000) :
    Calls Tryz.prog 81 #[.pointer (some ⟨blk, 0, none⟩)] w fun e w' => ∃ v els p', e = .returned v ∧ POx w.heap.size w' v els ∧ Ix.pkgsOk (els.map (·.1)) = true ∧ els.length ≤ 7 ∧ p' ≤ p + 400 ∧ Rd B w' blk p' ∧ Kp w.heap.size blk w w' := by
  have hlt := h.lt
  have HR0 := hide (h.later hB (below1 w (.cells #[] 42)))
  have HK0 : Hid (Kp w.heap.size blk w (w.alloc (.cells #[] 42))) := Kp.of_below (below1 w _)
  have hz0 := sz1 w (.cells #[] 42)
  have HZ0 := hide hz0
  have HE0 := hide (POwn.empty w)
  clear h hz0
  go_enter Tryz.func81, Tryz.ntmps81
  go_wp2_with fail
  refine (pick_any _ blk p 8 (unhide HR0) (by have := unhide HZ0; omega) (by omega) (by omega)).mono ?_
  generalize w.alloc _ = W0 at *
  rintro e w1 ⟨v1, rfl, v10, v11, hr1, hk1⟩
  have HR1 := hide hr1
  have HE1 := hide ((unhide HE0).kp hk1 hlt)
  have HK1 : Hid (Kp w.heap.size blk w w1) := (unhide HK0).trans hk1 (unhide HK0).size
  clear hr1 hk1 HR0 HK0 HE0
  go_wp2_with fail
  go_loopw [3, 4] (fun o n w' => ∃ (els : List El) (j : Int) (q : Nat), n = .int .i64 j ∧ 0 ≤ j ∧ (els.length : Int) + j ≤ 7 ∧ (q : Int) + 42 * j ≤ p + 300 ∧ Ix.pkgsOk (els.map (·.1)) = true ∧ POx w.heap.size w' o els ∧ Rd B w' blk q ∧ Kp w.heap.size blk w w') (fun _ n _ => (intOf n).toNat)
  case atStart => exact ⟨[], v1, p + 1, rfl, v10, by simp; omega, by omega, rfl, unhide HE1, unhide HR1, unhide HK1⟩
  case round =>
    clear HR1 HK1 HZ0 HE1
    clear W0
    obtain ⟨els, j, q, rfl, j0, hlen, hq, hko, hpk, hr, hkp⟩ := hrel
    have HO := hide hpk
    have HP := hide ((hpk.weak (M := fun b => w.heap.size ≤ b) (fun b hb => hb.1)).pks (fun b hb => hb) (by omega))
    have hll : (els.map (·.1)).length = els.length := List.length_map _
    have HLL := hide hll
    obtain ⟨l, hl⟩ : ∃ l, l = els.map (·.1) := ⟨_, rfl⟩
    rw [← hl] at HP HLL hko
    have HKO := hide hko
    have HLX := hide hl
    clear hko
    have hlen2 : l.length = els.length := unhide HLL
    clear hll hl HLL
    have HLE := hide hlen2
    have hle7 : (l.length : Int) + j ≤ 7 := by omega
    clear hlen2
    have HR := hide hr
    have HK := hide hkp
    have hsz := hkp.size
    clear hpk hr hkp v10 v11
    obtain ⟨a, c, hv⟩ := (unhide HP).slice
    subst hv
    by_cases hgo : 0 < j
    · go_wp2_with fail
      refine (pick_any _ blk q 4 (unhide HR) (by omega) (by omega) (by omega)).mono ?_
      rintro e w2 ⟨v2, rfl, v20, v21, hr2, hk2⟩
      have HP2 := hide ((unhide HP).kp hk2 hlt)
      have HO2 := hide ((unhide HO).kp hk2 hlt)
      have HK2 := hide ((unhide HK).trans hk2 (unhide HK).size)
      have HR2 := hide hr2
      have hsz2 := (unhide HK2).size
      clear HP HO HR HK hr2 hk2
      have e2 : IntKind.i64.wrap (1 + v2) = 1 + v2 := wrap_small v20 (by omega)
      go_wp2_with fail
      refine (pick_any _ blk (q + 1) 3 (unhide HR2) (by omega) (by omega) (by omega)).mono ?_
      rintro e w3 ⟨v3, rfl, v30, v31, hr3, hk3⟩
      have HP3 := hide ((unhide HP2).kp hk3 hlt)
      have HO3 := hide ((unhide HO2).kp hk3 hlt)
      have HK3 := hide ((unhide HK2).trans hk3 (unhide HK2).size)
      have HR3 := hide hr3
      have hsz3 := (unhide HK3).size
      clear HP2 HO2 HR2 HK2 hr3 hk3
      have e3 : IntKind.i64.wrap (1 + v3) = 1 + v3 := wrap_small v30 (by omega)
      go_wp2_with fail
      refine (l71Pkg_ok _ blk (q + 1 + 1) (1 + v2) (1 + v3) (unhide HR3) (by omega) (by omega)).mono ?_
      rintro e w4 ⟨fv, dv, fs, ds, q4, rfl, hf2, hd2, ⟨hfo, hdo⟩, hq4, of4, od4, hr4, hk4⟩
      have HPO : Hid (Ix.pOk (1 + v2, 1 + v3, fs, ds) = true) := by
        show Pk.pkgOk (1 + v2) (1 + v3) fs ds = true
        unfold Pk.pkgOk
        rw [hfo, hdo, Pk.inB_true.2 ⟨by omega, by omega⟩, Pk.inB_true.2 ⟨by omega, by omega⟩]
        rfl
      clear hfo hdo
      have hN : ∀ b, w3.heap.size ≤ b → w.heap.size ≤ b := fun b hb => Nat.le_trans hsz3 hb
      have HF4 := hide (PrsN.own of4 (by omega) hN)
      have HD4 := hide (PrsN.own od4 (by omega) hN)
      have HP4 := hide ((unhide HP3).kp hk4 hlt)
      have HO4 := hide ((unhide HO3).kp hk4 hlt)
      have HK4 := hide ((unhide HK3).trans hk4 (unhide HK3).size)
      have HR4 := hide hr4
      have hsz4 := (unhide HK4).size
      obtain ⟨fa, fc, hfv⟩ := (unhide HF4).slice
      obtain ⟨da, dc, hdv⟩ := (unhide HD4).slice
      subst hfv hdv
      clear HP3 HO3 HR3 HK3 of4 od4 hr4 hk4
      have HB5 := hide (below1 w4 (.cells #[.int .i64 (1 + v2), .int .i64 (1 + v3), .slice fa fs.length fc, .slice da ds.length dc] 42))
      have HP5 := hide ((unhide HP4).later (unhide HB5))
      have HO5 := hide ((unhide HO4).later (unhide HB5))
      have HF5 := hide ((unhide HF4).later (unhide HB5))
      have HD5 := hide ((unhide HD4).later (unhide HB5))
      have HR5 := hide ((unhide HR4).later (by omega) (unhide HB5))
      have HK5 := hide ((unhide HK4).trans (Kp.of_below (blk := blk) (unhide HB5)) (unhide HK4).size)
      have hsz5 := (unhide HK5).size
      obtain ⟨z5, y0, y1, y2, y3⟩ := box4i' w4 (.int .i64 (1 + v2)) (.int .i64 (1 + v3)) (.slice fa fs.length fc) (.slice da ds.length dc) 42
      have HZ5 := hide z5
      clear HP4 HO4 HF4 HD4 HR4 HK4 z5
      go_wp2_with fail
      refine (l12Find_any _ _ l (1 + v2) (1 + v3) (unhide HP5)).mono ?_
      generalize w4.alloc _ = W5 at *
      rintro e w6 ⟨rfl, r, rfl, hfind⟩
      rcases hfind with ⟨rfl, hno⟩ | ⟨r0, r1, _⟩
      · clear hno
        go_wp2_with fail
        refine (l12With_any _ _ l (1 + v2, 1 + v3, fs, ds) _ _ (unhide HP5).bound (unhide HF5).bound (unhide HD5).bound (by omega)).mono ?_
        rintro e w7 ⟨ov, els7, rfl, hpo, hmap, hb7⟩
        have hwl := wthlen hmap (Ix.wth_len1 l (1 + v2, 1 + v3, fs, ds))
        have HP7 : Hid (POx w.heap.size w7 ov els7) := POwn.weak ⟨own_baseP hpo.own hsz5, hpo.el⟩ (fun b hb => ⟨hb.1, fun e => by have := (own_row hpo.own b e).1; have := hb.2; omega⟩)
        have HR7 := hide ((unhide HR5).later (by omega) hb7)
        have HK7 := hide ((unhide HK5).trans (Kp.of_below (blk := blk) hb7) (unhide HK5).size)
        have HKO7 : Hid (Ix.pkgsOk (els7.map (·.1)) = true) := by
          show Ix.pkgsOk (els7.map (·.1)) = true
          rw [hmap]
          exact Ix.wth_ok (unhide HKO) (unhide HPO)
        clear hpo hmap hb7 HP5 HO5 HF5 HD5 HR5 HK5
        obtain ⟨oa, oc, hov⟩ := own_formS (unhide HP7).own
        subst hov
        go_wp2
        go_roundw
        case rel => exact ⟨els7, j - 1, q4, by go_num, by omega, by have := unhide HLE; omega, by omega, unhide HKO7, unhide HP7, unhide HR7, unhide HK7⟩
        case measure => simp [intOf]; omega
      · have r0' : ¬ r < 0 := by omega
        go_wp2
        go_roundw
        case rel => exact ⟨els, j - 1, q4, by go_num, by omega, by omega, by omega, (by rw [← unhide HLX]; exact unhide HKO), unhide HO5, unhide HR5, unhide HK5⟩
        case measure => simp [intOf]; omega
    · obtain rfl : j = 0 := by omega
      go_wp2
      go_ret
      exact ⟨.slice a l.length c, rfl, els, unhide HO, (by rw [← unhide HLX]; exact unhide HKO), by omega, q, by omega, unhide HR, unhide HK⟩
theorem l71Pkgs_own {B : Nat} (w : World) (blk p : Nat) (h : Rd B w blk p) (hB : B ≤ w.heap.size) (hp : p ≤ 800000000) :
    Calls Tryz.prog 81 #[.pointer (some ⟨blk, 0, none⟩)] w fun e w' => ∃ v els p', e = .returned v ∧ POx w.heap.size w' v els ∧ els.length ≤ 7 ∧ p' ≤ p + 400 ∧ Rd B w' blk p' ∧ Kp w.heap.size blk w w' :=
  (l71Pkgs_ok w blk p h hB hp).mono (by
    rintro e w' ⟨v, els, p', he, h1, _, h2, h3, h4, h5⟩
    exact ⟨v, els, p', he, h1, h2, h3, h4, h5⟩)
end Go.Proofs.YtlnieobmhofkdaaGreatDoor
