import Derived.Test.YtoccijcngncghaaDoorMix13
import Derived.Test.YtoccijcngncghaaDoorAnsPW
import Derived.Test.YtoccijcngncghaaDoorSzGW
import Derived.Test.YtoccijcngncghaaDoorMix12
import Derived.Test.YtoccijcngncghaaDoorPlanMath
import Derived.Test.YtoccijcngncghaaDoorMix11
import Derived.Test.YtoccijcngncghaaDoorCopyIW
/- Packages in order, as plain data: one more in its place keeps the order. -/
namespace Go.Proofs.YtoccijcngncghaaDoor.Ix
open Pk

theorem pg_get {l : List Pg} {i : Nat} (hi : i < l.length) : pg l i = l[i] := by
  unfold pg
  rw [List.getD_eq_getElem?_getD, List.getElem?_eq_getElem hi]
  rfl
theorem ahead_trans {a b c : Pg} (h1 : ahead a b = true) (h2 : ahead b c = true) : ahead a c = true := by
  unfold ahead less at *
  simp only [Bool.or_eq_true, Bool.and_eq_true, decide_eq_true_eq] at *
  omega
theorem pkgsOk_pair {l : List Pg} : pkgsOk l = true ↔ (∀ x ∈ l, pOk x = true) ∧ l.Pairwise (fun x y => ahead x y = true) := by
  constructor
  · intro h
    refine ⟨fun x hx => ?_, ?_⟩
    · obtain ⟨i, hi, e⟩ := List.getElem_of_mem hx
      have := pkgs_pOk h hi
      rw [pg_get hi, e] at this
      exact this
    · rw [List.pairwise_iff_getElem]
      intro i j hi hj hij
      have := pkgs_lt h hij hj
      rw [pg_get hi, pg_get hj] at this
      exact this
  · rintro ⟨h1, h2⟩
    rw [List.pairwise_iff_getElem] at h2
    refine pkgsOk_good (fun i hi => ?_)
    unfold pkgGood
    rw [h1 _ (pg_mem hi), Bool.true_and]
    rcases Nat.eq_zero_or_pos i with h0 | h0
    · rw [decide_eq_true h0, Bool.true_or]
    · have := h2 (i - 1) i (by omega) hi (by omega)
      rw [pg_get hi, pg_get (show i - 1 < l.length by omega)]
      rw [Bool.or_eq_true]
      exact .inr this
theorem wth_ok {l : List Pg} {p : Pg} (h : pkgsOk l = true) (hp : pOk p = true) : pkgsOk (wth l p) = true := by
  rw [pkgsOk_pair] at h ⊢
  obtain ⟨h1, h2⟩ := h
  unfold wth
  refine ⟨fun x hx => ?_, ?_⟩
  · rw [List.mem_append, List.mem_append, List.mem_filter, List.mem_filter, List.mem_singleton] at hx
    rcases hx with (hx | hx) | hx
    · exact h1 x hx.1
    · rw [hx]; exact hp
    · exact h1 x hx.1
  · rw [List.pairwise_append, List.pairwise_append]
    refine ⟨⟨h2.filter _, List.pairwise_singleton _ _, fun a ha b hb => ?_⟩, h2.filter _, fun a ha b hb => ?_⟩
    · rw [List.mem_singleton] at hb
      rw [hb]
      exact (List.mem_filter.1 ha).2
    · have hb2 : ahead p b = true := (List.mem_filter.1 hb).2
      rw [List.mem_append, List.mem_singleton] at ha
      rcases ha with ha | ha
      · exact ahead_trans (List.mem_filter.1 ha).2 hb2
      · rw [ha]; exact hb2
end Go.Proofs.YtoccijcngncghaaDoor.Ix

/- Rows of packages that are not long; what of marks' frames the exact laws use. -/
namespace Go.Proofs.YtoccijcngncghaaDoor
open Go.RowKit

def small (A : List Ix.Pg) : Prop := A.length ≤ 1000 ∧ ∀ p ∈ A, p.2.2.1.length ≤ 1000 ∧ p.2.2.2.length ≤ 1000
theorem small.els {A : List Ix.Pg} (h : small A) {els : List El} (hm : els.map (·.1) = A) : els.length ≤ 1000 ∧ ∀ e ∈ els, e.1.2.2.1.length ≤ 1000 ∧ e.1.2.2.2.length ≤ 1000 :=
  ⟨by rw [← List.length_map (f := fun x : El => x.1), hm]; exact h.1, fun e he => h.2 e.1 (by rw [← hm]; exact List.mem_map.2 ⟨e, he, rfl⟩)⟩
theorem small.sub {A l : List Ix.Pg} (h : small l) (hs : ∀ p ∈ A, p ∈ l) (hl : A.length ≤ l.length) : small A := ⟨Nat.le_trans hl h.1, fun p hp => h.2 p (hs p hp)⟩
theorem small.nil : small [] := ⟨Nat.zero_le _, fun p hp => (by cases hp)⟩
theorem small_pkgs {l : List Ix.Pg} (h : Ix.pkgsOk l = true) : small l := by
  refine ⟨by have := Ix.pkgs_len h; omega, fun p hp => ?_⟩
  obtain ⟨i, hi, hie⟩ := List.getElem_of_mem hp
  have hq := Ix.pkgs_pOk h hi
  rw [Ix.pg_get hi, hie] at hq
  unfold Ix.pOk Pk.pkgOk at hq
  rw [Bool.and_eq_true, Bool.and_eq_true, Bool.and_eq_true] at hq
  have h1 := (Pk.filesOk_get hq.1.2).1
  have h2 := (Pk.depsOk_get hq.2).1
  exact ⟨by omega, by omega⟩
theorem PAns.pksA {B : Nat} {w : World} {v : Value} {els : List El} {A : List Ix.Pg} (h : PAns B w v els) (hm : els.map (·.1) = A) (hA : small A) : Pks (fun b => B ≤ b) w v A := by
  obtain ⟨h1, h2⟩ := hA.els hm
  have := h.pks h1 h2
  rw [hm] at this
  exact this
theorem PAns.fr {N : Nat → Prop} {B : Nat} {w w' : World} {v : Value} {l : List El} (h : PAns B w v l) (hs : Fr N w w') (hN : ∀ g, blkP v l g → ¬ N g) : PAns B w' v l := h.keep (fun g hg => hs.block g (h.lt g hg).2 (hN g hg))
theorem WrP.keepN {N : Nat → Prop} {w w' : World} {g n : Nat} (h : WrP N w g n) (hb : ∀ k, k < w.heap.size → N k → w'.heap[k]? = w.heap[k]?) : WrP N w' g n := by
  obtain ⟨C, h1, h2, h3, h4⟩ := h
  refine ⟨C, (hb _ (heapLt h1) h3).trans h1, h2, h3, fun i hi => ?_⟩
  obtain ⟨x, y, g1, n1, g2, n2, k1, k2, k3, k4, k5⟩ := h4 i hi
  exact ⟨x, y, g1, n1, g2, n2, k1, k2, k3, k4.keep (hb _ k4.lt k2.1), k5.keep (hb _ k5.lt k2.2)⟩
theorem WrP.fr {N M : Nat → Prop} {w w' : World} {g n : Nat} (h : WrP N w g n) (hs : Fr M w w') (hd : ∀ b, N b → ¬ M b) : WrP N w' g n := h.keepN (fun k hk hn => hs.block k hk (hd k hn))
theorem WrP.stays {N M : Nat → Prop} {w w' : World} {g n : Nat} (h : WrP N w g n) (hs : Stays M w w') (hd : ∀ b, N b → ¬ M b) : WrP N w' g n := h.keepN (fun k hk hn => hs.block k hk (hd k hn))
theorem WrP.lt {N : Nat → Prop} {w : World} {g n : Nat} (h : WrP N w g n) : g < w.heap.size := by obtain ⟨C, h1, _⟩ := h; exact heapLt h1
/-- From a world on, all that was there stays. -/
theorem Stays.belowB {N : Nat → Prop} {w w' : World} {B : Nat} (h : Stays N w w') (hB : B ≤ w.heap.size) (hN : ∀ b, b < B → ¬ N b) : Below B w w' := ⟨h.os, h.tape, h.output, h.size, fun k hk => h.block k (by omega) (hN k hk)⟩
theorem FillI.lt {w : World} {g k : Nat} {l : List Int} (h : FillI w g l k) : g < w.heap.size := by obtain ⟨C, h1, _⟩ := h; exact heapLt h1
theorem FillM.lt {w : World} {g k : Nat} {l : List Ix.M} (h : FillM w g l k) : g < w.heap.size := by obtain ⟨C, h1, _⟩ := h; exact heapLt h1
theorem FillP.lt {w : World} {g k : Nat} {l : List Ix.Pg} (h : FillP w g l k) : g < w.heap.size := by obtain ⟨C, h1, _⟩ := h; exact heapLt h1
theorem PairsIn.later {w w' : World} {x : Option Addr × Nat × Nat} (h : PairsIn w x) (hb : Below w.heap.size w w') : PairsIn w' x := ⟨h.1, fun hs => by obtain ⟨l, h1, h2⟩ := h.2 hs; exact ⟨l, h1, h2.later hb⟩⟩
theorem PkgsIn.later {w w' : World} {a : Option Addr} {n c : Nat} (h : PkgsIn w a n c) (hb : Below w.heap.size w w') : PkgsIn w' a n c := by
  refine ⟨h.1, fun hs => ?_⟩
  obtain ⟨q, hrow, hp⟩ := h.2 hs
  refine ⟨q, fun hn => ?_, fun i hi => ⟨(hp i hi).1.later hb, (hp i hi).2.later hb⟩⟩
  obtain ⟨b, off, ha, hbs, hc⟩ := hrow hn
  refine ⟨b, off, ha, Nat.lt_of_lt_of_le hbs hb.size, fun i hi => ?_⟩
  obtain ⟨c0, c1, c2, c3⟩ := hc i hi
  exact ⟨(hb.cell hbs).trans c0, (hb.cell hbs).trans c1, (hb.cell hbs).trans c2, (hb.cell hbs).trans c3⟩
end Go.Proofs.YtoccijcngncghaaDoor

/- What is to be in, as plain data: when nothing is wrong. -/
namespace Go.Proofs.YtoccijcngncghaaDoor.Ix
open Pk

theorem flat_nil {α β : Type} {f : α → List β} {s : List α} : s.flatMap f = [] ↔ ∀ x ∈ s, f x = [] := by rw [List.flatMap_eq_nil_iff]
theorem linesAt_nil {l : List Pg} {i : Nat} : linesAt l i = [] ↔ besideL l i = [] ∧ (∀ d ∈ (pg l i).2.2.2, lackL l (pg l i) d = []) ∧ ∀ f ∈ (pg l i).2.2.1, placeL l i (pg l i) f = [] := by
  unfold linesAt
  rw [List.append_eq_nil_iff, List.append_eq_nil_iff, flat_nil, flat_nil, and_assoc]
theorem planOk_false {l : List Pg} {i : Nat} (hi : i < l.length) (h : linesAt l i ≠ []) : planOk l = false := by
  unfold planOk lines linesTo
  rw [decide_eq_false (fun h0 => h (flat_nil.1 (List.eq_nil_of_length_eq_zero h0) i (List.mem_range.2 hi))), Bool.and_false]
theorem planOk_true {l : List Pg} (hk : pkgsOk l = true) (h : ∀ i, i < l.length → linesAt l i = []) : planOk l = true := by
  unfold planOk lines linesTo
  rw [hk, flat_nil.2 (fun i hi => h i (List.mem_range.1 hi))]
  rfl
theorem planOk_pkgs {l : List Pg} (h : planOk l = true) : pkgsOk l = true := by unfold planOk at h; rw [Bool.and_eq_true] at h; exact h.1
theorem planOk_bad {l : List Pg} (h : pkgsOk l = false) : planOk l = false := by unfold planOk; rw [h]; rfl
theorem lackL_nil {l : List Pg} {p : Pg} {d : Int × Int} : lackL l p d = [] ↔ (met l d).isSome = true := by
  unfold lackL
  cases met l d <;> simp
theorem placeL_nil {l : List Pg} {i : Nat} {p : Pg} {f : Int × Int} : placeL l i p f = [] ↔ owner l i f.1 = none := by
  unfold placeL
  cases owner l i f.1 <;> simp
theorem besideL_nil {l : List Pg} {i : Nat} (hk : pkgsOk l = true) (hi : i < l.length) : besideL l i = [] ↔ (i = 0 ∨ (pg l (i - 1)).1 < (pg l i).1) := by
  unfold besideL
  rcases Nat.eq_zero_or_pos i with h0 | hp
  · subst h0
    simp
  · obtain ⟨m, rfl⟩ : ∃ m, i = m + 1 := ⟨i - 1, by omega⟩
    have := pkgs_less hk hi
    unfold less at this
    simp only [Bool.or_eq_true, Bool.and_eq_true, decide_eq_true_eq] at this
    rw [Nat.add_sub_cancel]
    constructor
    · intro h
      right
      by_cases e : (pg l m).1 = (pg l (m + 1)).1
      · rw [if_pos ⟨by omega, e⟩] at h; cases h
      · omega
    · rintro (h | h)
      · omega
      · rw [if_neg (fun e => by omega)]
/-- The place of a pair in a row. -/
theorem pair_mem {s : List (Int × Int)} {k : Nat} (hk : k < s.length) : (Pk.fst s k, Pk.snd s k) ∈ s ∧ s[k]? = some (Pk.fst s k, Pk.snd s k) := by
  have e : s[k]? = some (Pk.fst s k, Pk.snd s k) := by rw [List.getElem?_eq_getElem hk]; simp [Pk.fst, Pk.snd, hk]
  exact ⟨List.mem_of_getElem? e, e⟩
theorem mem_pair {s : List (Int × Int)} {x : Int × Int} (h : x ∈ s) : ∃ k, k < s.length ∧ x = (Pk.fst s k, Pk.snd s k) := by
  obtain ⟨k, hk, e⟩ := List.getElem_of_mem h
  refine ⟨k, hk, ?_⟩
  have := (pair_mem hk).2
  rw [List.getElem?_eq_getElem hk] at this
  rw [← e]
  exact Option.some.inj this
theorem hasAt_no {p : Pg} {path : Int} (h : ∀ k, k < p.2.2.1.length → Pk.fst p.2.2.1 k ≠ path) : hasAt path p = false := by
  unfold hasAt
  rw [List.any_eq_false]
  intro x hx
  obtain ⟨k, hk, e⟩ := mem_pair hx
  rw [e]
  simpa using h k hk
theorem hasAt_yes {p : Pg} {path : Int} {k : Nat} (hk : k < p.2.2.1.length) (h : Pk.fst p.2.2.1 k = path) : hasAt path p = true := by
  unfold hasAt
  rw [List.any_eq_true]
  exact ⟨_, (pair_mem hk).1, by simpa using h⟩
/-- The first that is so. -/
theorem find_at {l : List Pg} {q : Pg → Bool} {i : Nat} (hi : i < l.length) (hq : q (pg l i) = true) (hno : ∀ j, j < i → q (pg l j) = false) : l.find? q = some (pg l i) := by
  rw [List.find?_eq_some_iff_getElem]
  have e : ∀ j (hj : j < l.length), l[j] = pg l j := fun j hj => by unfold pg; rw [List.getD_eq_getElem?_getD, List.getElem?_eq_getElem hj]; rfl
  refine ⟨hq, i, hi, e i hi, fun j hj => ?_⟩
  rw [e j (by omega), hno j hj]
  rfl
theorem find_no {l : List Pg} {q : Pg → Bool} (hno : ∀ j, j < l.length → q (pg l j) = false) : l.find? q = none := by
  rw [List.find?_eq_none]
  intro p hp
  obtain ⟨i, hi, e⟩ := mem_ix hp
  rw [← e, hno i hi]
  simp
theorem take_pgk {l : List Pg} {i j : Nat} (hj : j < i) : pg (l.take i) j = pg l j := by
  unfold pg
  rw [List.getD_eq_getElem?_getD, List.getD_eq_getElem?_getD, List.getElem?_take_of_lt hj]
theorem owner_at {l : List Pg} {i n : Nat} {path : Int} (hi : i ≤ l.length) (hn : n < i) (h : hasAt path (pg l n) = true) (hno : ∀ j, j < n → hasAt path (pg l j) = false) : owner l i path = some (pg l n) := by
  unfold owner
  rw [← take_pgk hn]
  refine find_at (by rw [List.length_take]; omega) (by rw [take_pgk hn]; exact h) (fun j hj => by rw [take_pgk (by omega)]; exact hno j hj)
theorem owner_no {l : List Pg} {i : Nat} {path : Int} (hi : i ≤ l.length) (hno : ∀ j, j < i → hasAt path (pg l j) = false) : owner l i path = none := by
  unfold owner
  refine find_no (fun j hj => ?_)
  rw [List.length_take] at hj
  rw [take_pgk (by omega)]
  exact hno j (by omega)
end Go.Proofs.YtoccijcngncghaaDoor.Ix
