import Derived.Test.YtoccijcngncghaaDoorMarkTW
import Derived.Test.YtoccijcngncghaaDoorMathW
/- What the laws' markRoot, heldRoot, markIndex, heldIndex, markTrust and heldTrust do: marks are laid into the rows, and nowhere else; they are read again. -/
namespace Go.Proofs.YtoccijcngncghaaDoor
open Go.RowKit

/-- All that was there stays but blocks among N. -/
structure Fr (N : Nat → Prop) (w w' : World) : Prop where
  os : w'.os = w.os
  tape : w'.tape = w.tape
  output : w'.output = w.output
  size : w.heap.size ≤ w'.heap.size
  block : ∀ k, k < w.heap.size → ¬ N k → w'.heap[k]? = w.heap[k]?
theorem Fr.trans {N M : Nat → Prop} {w w1 w2 : World} (h : Fr N w w1) (h2 : Fr M w1 w2) : Fr (fun k => N k ∨ M k) w w2 :=
  ⟨h2.os.trans h.os, h2.tape.trans h.tape, h2.output.trans h.output, Nat.le_trans h.size h2.size, fun k hk hn => (h2.block k (Nat.lt_of_lt_of_le hk h.size) (fun hm => hn (.inr hm))).trans (h.block k hk (fun hm => hn (.inl hm)))⟩
theorem Fr.of_below {N : Nat → Prop} {w w' : World} (h : Below w.heap.size w w') : Fr N w w' := ⟨h.os, h.tape, h.output, h.size, fun k hk _ => h.block k hk⟩
theorem Fr.of_grown {w w' : World} {r : Option Nat} (h : w.grownBy w' r) : Fr (fun k => r = some k) w w' := ⟨h.os, h.tape, h.output, h.size, fun k hk hn => h.block k hk (fun e => hn e.symm)⟩
theorem Fr.weak {N M : Nat → Prop} {w w' : World} (h : Fr N w w') (hm : ∀ k, N k → M k) : Fr M w w' := ⟨h.os, h.tape, h.output, h.size, fun k hk hn => h.block k hk (fun hx => hn (hm k hx))⟩
theorem Fr.below {N : Nat → Prop} {B : Nat} {w w' : World} (h : Fr N w w') (hB : B ≤ w.heap.size) (hN : ∀ k, N k → B ≤ k) : Below B w w' :=
  ⟨h.os, h.tape, h.output, h.size, fun k hk => h.block k (by omega) (fun hn => by have := hN k hn; omega)⟩
theorem Fr.own {N : Nat → Prop} {w w' : World} {B sz n : Nat} {t : TypeId} {v : Value} {xs : List Value} (h : Fr N w w') (ho : w.ownsRow B t sz v n xs) (hN : ∀ k, v.ownBlock = some k → ¬ N k) : w'.ownsRow B t sz v n xs :=
  own_keepS ho (fun g _ e _ hg => h.block g (heapLt hg) (hN g e))

/-- A row of numbers and a row of metas are not one. -/
theorem own_two {w : World} {B C : Nat} {v u : Value} {l : List Int} {m : List Ix.M} (h : OwI B w v l) (h2 : OwM C w u m) : ∀ k, v.ownBlock = some k → ¬ u.ownBlock = some k := by
  intro k hv hu
  obtain ⟨_, c, hc⟩ := own_row h k hv
  obtain ⟨_, c2, hc2⟩ := own_row h2 k hu
  rw [hc] at hc2
  injection hc2 with hc2
  injection hc2 with _ hc2 _
  revert hc2
  decide
end Go.Proofs.YtoccijcngncghaaDoor

/- Packages as plain data: without one they are ok still, with one twice they are not. -/
namespace Go.Proofs.YtoccijcngncghaaDoor.Ix
open Pk

def cutP (l : List Pg) (k : Nat) : List Pg := l.take k ++ l.drop (k + 1)
def twoP (l : List Pg) (k : Nat) : List Pg := (l.take k ++ [pg l k]) ++ l.drop k
theorem cutP_length {l : List Pg} {k : Nat} (hk : k < l.length) : (cutP l k).length = l.length - 1 := by unfold cutP; rw [List.length_append, List.length_take, List.length_drop]; omega
theorem cutP_lt {l : List Pg} {k i : Nat} (hi : i < k) (hk : k < l.length) : pg (cutP l k) i = pg l i := by
  unfold cutP pg
  rw [List.getD_eq_getElem?_getD, List.getD_eq_getElem?_getD, List.getElem?_append_left (by rw [List.length_take]; omega), List.getElem?_take_of_lt hi]
theorem cutP_ge {l : List Pg} {k i : Nat} (hi : k ≤ i) (hk : k < l.length) : pg (cutP l k) i = pg l (i + 1) := by
  unfold cutP pg
  have hlen : (l.take k).length = k := by rw [List.length_take]; omega
  rw [List.getD_eq_getElem?_getD, List.getD_eq_getElem?_getD, List.getElem?_append_right (by omega), hlen, List.getElem?_drop, show k + 1 + (i - k) = i + 1 by omega]
theorem less_transP {a b c d e f : Int} (h1 : less a b c d = true) (h2 : less c d e f = true) : less a b e f = true := by
  unfold less at *
  simp only [Bool.or_eq_true, Bool.and_eq_true, decide_eq_true_eq] at *
  omega
theorem pkgs_less {l : List Pg} (h : pkgsOk l = true) {i : Nat} (hi : i + 1 < l.length) : less (pg l i).1 (pg l i).2.1 (pg l (i + 1)).1 (pg l (i + 1)).2.1 = true := by
  have := pkgsOk_at h (i + 1) hi
  unfold pkgGood at this
  rw [Bool.and_eq_true, Bool.or_eq_true] at this
  rcases this.2 with h | h
  · exact absurd (of_decide_eq_true h) (by omega)
  · simpa using h
theorem pkgs_pOk {l : List Pg} (h : pkgsOk l = true) {i : Nat} (hi : i < l.length) : pOk (pg l i) = true := by
  have := pkgsOk_at h i hi
  unfold pkgGood at this
  rw [Bool.and_eq_true] at this
  exact this.1
theorem cutP_ok {l : List Pg} {k : Nat} (h : pkgsOk l = true) (hk : k < l.length) : pkgsOk (cutP l k) = true := by
  refine pkgsOk_good (fun i hi => ?_)
  rw [cutP_length hk] at hi
  unfold pkgGood
  rcases Nat.lt_or_ge i k with hlt | hge
  · rw [cutP_lt hlt hk, cutP_lt (i := i - 1) (by omega) hk]
    exact pkgsOk_at h i (by omega)
  · rw [cutP_ge hge hk, pkgs_pOk h (by omega), Bool.true_and, Bool.or_eq_true]
    rcases Nat.eq_zero_or_pos i with h0 | hpos
    · exact .inl (decide_eq_true h0)
    · right
      obtain ⟨m, rfl⟩ : ∃ m, i = m + 1 := ⟨i - 1, by omega⟩
      rcases Nat.lt_or_ge m k with hm | hm
      · obtain rfl : k = m + 1 := by omega
        rw [Nat.add_sub_cancel, cutP_lt (by omega) hk]
        exact less_transP (pkgs_less h (by omega)) (pkgs_less h (i := m + 1) (by omega))
      · rw [Nat.add_sub_cancel, cutP_ge hm hk]
        exact pkgs_less h (i := m + 1) (by omega)
theorem twoP_length {l : List Pg} {k : Nat} (hk : k < l.length) : (twoP l k).length = l.length + 1 := by
  unfold twoP
  rw [List.length_append, List.length_append, List.length_take, List.length_drop, List.length_singleton]
  omega
theorem twoP_bad {l : List Pg} {k : Nat} (hk : k < l.length) : pkgsOk (twoP l k) = false := by
  have hlen : (l.take k).length = k := by rw [List.length_take]; omega
  have hlen2 : (l.take k ++ [pg l k]).length = k + 1 := by rw [List.length_append, hlen]; rfl
  refine pkgsOk_bad (i := k + 1) (by rw [twoP_length hk]; omega) ?_
  have e1 : pg (twoP l k) k = pg l k := by
    unfold twoP
    show List.getD _ _ _ = _
    rw [List.getD_eq_getElem?_getD, List.getElem?_append_left (by omega), List.getElem?_append_right (by omega), hlen, Nat.sub_self]
    rfl
  have e2 : pg (twoP l k) (k + 1) = pg l k := by
    unfold twoP
    show List.getD _ _ _ = List.getD _ _ _
    rw [List.getD_eq_getElem?_getD, List.getD_eq_getElem?_getD, List.getElem?_append_right (by omega), hlen2, Nat.sub_self, List.getElem?_drop, Nat.add_zero]
  have e3 : ∀ a b : Int, less a b a b = false := fun a b => by unfold less; simp
  unfold pkgGood
  rw [Nat.add_sub_cancel, e1, e2, e3, decide_eq_false (by omega), Bool.or_self, Bool.and_false]
end Go.Proofs.YtoccijcngncghaaDoor.Ix
