/- What the laws of chapter 2 say of keys and roots as plain data. -/
import Derived.Test.YtneaceieaafjdaaKeyMath
namespace Go.Proofs.Ytneaceieaafjdaa.Ky
open Pk

theorem rootOk_get {n d : Int} {k : List Int} (h : rootOk n k d = true) : (1 ≤ n ∧ n ≤ 9) ∧ keysOk k = true ∧ 1 ≤ d ∧ d ≤ (k.length : Int) := by
  unfold rootOk at h
  rw [Bool.and_eq_true, Bool.and_eq_true, inB_true, inB_true] at h
  exact ⟨h.1.1, h.1.2, h.2⟩
theorem rootOk_mk {n d : Int} {k : List Int} (h1 : 1 ≤ n ∧ n ≤ 9) (h2 : keysOk k = true) (h3 : 1 ≤ d ∧ d ≤ (k.length : Int)) : rootOk n k d = true := by
  unfold rootOk
  rw [Bool.and_eq_true, Bool.and_eq_true, inB_true, inB_true]
  exact ⟨⟨h1, h2⟩, h3⟩
theorem signed_own {n d : Int} {k : List Int} (h : rootOk n k d = true) : signed n k d k = true := by
  obtain ⟨_, hk, _, hd⟩ := rootOk_get h
  unfold signed
  rw [h, hk, cnt_self, decide_eq_true hd]
  rfl
theorem signed_few {n d : Int} {k by' : List Int} (hc : (cnt k by' : Int) < d) : signed n k d by' = false := by
  unfold signed
  rw [decide_eq_false (by omega), Bool.and_false]
theorem signed_none {n d : Int} {k : List Int} (h : rootOk n k d = true) : signed n k d [] = false := signed_few (by obtain ⟨_, _, hd, _⟩ := rootOk_get h; rw [cnt_nil]; omega)

theorem signed_mk {n d : Int} {k by' : List Int} (h : rootOk n k d = true) (hb : keysOk by' = true) : signed n k d by' = decide (d ≤ (cnt k by' : Int)) := by unfold signed; rw [h, hb]; rfl
theorem signed_get {n d : Int} {k by' : List Int} (h : signed n k d by' = true) : rootOk n k d = true ∧ keysOk by' = true ∧ d ≤ (cnt k by' : Int) := by
  unfold signed at h
  rw [Bool.and_eq_true, Bool.and_eq_true] at h
  exact ⟨h.1.1, h.1.2, of_decide_eq_true h.2⟩
theorem next_get {n d n2 d2 : Int} {k k2 by' : List Int} (h : next n k d n2 k2 d2 by' = true) : signed n k d by' = true ∧ signed n2 k2 d2 by' = true ∧ n2 = n + 1 := by
  unfold next at h
  rw [Bool.and_eq_true, Bool.and_eq_true] at h
  exact ⟨h.1.1, h.1.2, of_decide_eq_true h.2⟩
theorem next_num {n d n2 d2 : Int} {k k2 by' : List Int} (h : n2 ≠ n + 1) : next n k d n2 k2 d2 by' = false := by unfold next; rw [decide_eq_false h, Bool.and_false]
theorem next_few {n d n2 d2 : Int} {k k2 by' : List Int} (h : signed n k d by' = false) : next n k d n2 k2 d2 by' = false := by unfold next; rw [h]; rfl
/-- Signed by the keys of the one ahead alone, and by its own alone. -/
theorem next_old {n d n2 d2 : Int} {k k2 by' : List Int} (h : next n k d n2 k2 d2 by' = true) : next n k d n2 k2 d2 k = decide (d2 ≤ (cnt k k2 : Int)) := by
  obtain ⟨h1, h2, h3⟩ := next_get h
  obtain ⟨r1, _, _⟩ := signed_get h1
  obtain ⟨r2, _, _⟩ := signed_get h2
  obtain ⟨_, k1, _⟩ := rootOk_get r1
  obtain ⟨_, k2', _⟩ := rootOk_get r2
  unfold next
  rw [signed_own r1, signed_mk r2 k1, decide_eq_true h3, cnt_comm k2' k1]
  simp
theorem next_own {n d n2 d2 : Int} {k k2 by' : List Int} (h : next n k d n2 k2 d2 by' = true) : next n k d n2 k2 d2 k2 = decide (d ≤ (cnt k k2 : Int)) := by
  obtain ⟨h1, h2, h3⟩ := next_get h
  obtain ⟨r1, _, _⟩ := signed_get h1
  obtain ⟨r2, _, _⟩ := signed_get h2
  obtain ⟨_, k2', _⟩ := rootOk_get r2
  unfold next
  rw [signed_own r2, signed_mk r1 k2', decide_eq_true h3]
  simp

/-- Keys without the one at a place. -/
def without (k : List Int) (i : Nat) : List Int := k.take i ++ k.drop (i + 1)
theorem without_len {k : List Int} {i : Nat} (hi : i < k.length) : (without k i).length = k.length - 1 := by unfold without; rw [List.length_append, List.length_take, List.length_drop]; omega
theorem without_ok {k : List Int} {i : Nat} (h : keysOk k = true) (hi : i < k.length) : keysOk (without k i) = true := by
  have h6 := ok_len h
  exact List.all_eq_true.1 (ok_all (p := fun k => (List.range 6).all fun i => keysOk (without k i)) (by decide +kernel) h) i (List.mem_range.2 (by omega))
theorem twice_bad {k : List Int} {i : Nat} (h : keysOk k = true) (hi : i < k.length) : keysOk (k ++ [nth k i]) = false := by
  have h6 := ok_len h
  have := List.all_eq_true.1 (ok_all (p := fun k => (List.range 6).all fun i => !decide (i < k.length) || !keysOk (k ++ [nth k i])) (by decide +kernel) h) i (List.mem_range.2 (by omega))
  simpa [hi] using this
theorem root_less {n d : Int} {k : List Int} {i : Nat} (h : rootOk n k d = true) (hi : i < k.length) : rootOk n (without k i) d = decide (d < (k.length : Int)) := by
  obtain ⟨hn, hk, d0, d1⟩ := rootOk_get h
  rw [Bool.eq_iff_iff]
  constructor
  · intro h'
    obtain ⟨_, _, _, d2⟩ := rootOk_get h'
    rw [without_len hi] at d2
    exact decide_eq_true (by omega)
  · intro h'
    have h' := of_decide_eq_true h'
    exact rootOk_mk hn (without_ok hk hi) ⟨d0, by rw [without_len hi]; omega⟩
theorem root_one {n d : Int} {k : List Int} (h : rootOk n k d = true) : rootOk n k 1 = true := by
  obtain ⟨hn, hk, d0, d1⟩ := rootOk_get h
  exact rootOk_mk hn hk ⟨by omega, by omega⟩
theorem root_zero (n : Int) (k : List Int) : rootOk n k 0 = false := by
  rw [Bool.eq_false_iff]
  intro h
  obtain ⟨_, _, d0, _⟩ := rootOk_get h
  omega
theorem cnt_take {k : List Int} {m : Nat} (h : keysOk k = true) (hm : m ≤ 6) : cnt k (k.take m) ≤ m :=
  of_decide_eq_true (List.all_eq_true.1 (ok_all (p := fun k => (List.range 7).all fun m => decide (cnt k (k.take m) ≤ m)) (by decide +kernel) h) m (List.mem_range.2 (by omega)))
theorem same_next {n d : Int} {k : List Int} (h : rootOk n k d = true) : next n k d (n + 1) k d k = decide (n < 9) := by
  obtain ⟨hn, hk, d0, d1⟩ := rootOk_get h
  unfold next
  rw [signed_own h, decide_eq_true rfl, Bool.and_true, Bool.true_and, Bool.eq_iff_iff]
  constructor
  · intro h'
    obtain ⟨r, _, _⟩ := signed_get h'
    obtain ⟨h1, _⟩ := rootOk_get r
    exact decide_eq_true (by omega)
  · intro h'
    have h' := of_decide_eq_true h'
    exact signed_own (rootOk_mk ⟨by omega, by omega⟩ hk ⟨d0, d1⟩)
theorem same_few {n d : Int} {k : List Int} {m : Nat} (h : rootOk n k d = true) (hm : (m : Int) = d - 1) : next n k d (n + 1) k d (k.take m) = false := by
  obtain ⟨hn, hk, d0, d1⟩ := rootOk_get h
  have h6 := ok_len hk
  exact next_few (signed_few (by have := cnt_take (m := m) hk (by omega); omega))

/-- The keys from 1 to k. -/
def upTo (k : Nat) : List Int := (List.range k).map fun (j : Nat) => (j : Int) + 1
theorem upTo_succ (k : Nat) : upTo (k + 1) = upTo k ++ [(k : Int) + 1] := by unfold upTo; rw [List.range_succ, List.map_append]; rfl
/-- Those that sign, and one more; those that sign, without one. -/
def plus (b : List Int) (key : Int) (k : Nat) : List Int := (upTo k).filter fun n => isIn b n || n == key
def less (b : List Int) (key : Int) (k : Nat) : List Int := (upTo k).filter fun n => isIn b n && n != key
theorem plus_succ (b : List Int) (key : Int) (k : Nat) : plus b key (k + 1) = plus b key k ++ (if (isIn b ((k : Int) + 1) || ((k : Int) + 1) == key) then [(k : Int) + 1] else []) := by
  unfold plus
  rw [upTo_succ, List.filter_append]
  congr 1
  simp only [List.filter_cons, List.filter_nil]
theorem less_succ (b : List Int) (key : Int) (k : Nat) : less b key (k + 1) = less b key k ++ (if (isIn b ((k : Int) + 1) && ((k : Int) + 1) != key) then [(k : Int) + 1] else []) := by
  unfold less
  rw [upTo_succ, List.filter_append]
  congr 1
  simp only [List.filter_cons, List.filter_nil]
theorem upTo_len (k : Nat) : (upTo k).length = k := by simp [upTo]
theorem plus_len (b : List Int) (key : Int) (k : Nat) : (plus b key k).length ≤ k := Nat.le_trans (List.length_filter_le _ _) (Nat.le_of_eq (upTo_len k))
theorem less_len (b : List Int) (key : Int) (k : Nat) : (less b key k).length ≤ k := Nat.le_trans (List.length_filter_le _ _) (Nat.le_of_eq (upTo_len k))
theorem plus_ok {b : List Int} {key : Int} (h : keysOk b = true) (h0 : 1 ≤ key) (h1 : key ≤ 6) : keysOk (plus b key 6) = true ∧ keysOk (less b key 6) = true ∧ ∀ x ∈ b, x ∈ plus b key 6 := by
  have := List.all_eq_true.1 (ok_all (p := fun b => (upTo 6).all fun key => keysOk (plus b key 6) && keysOk (less b key 6) && b.all fun x => decide (x ∈ plus b key 6)) (by decide +kernel) h) key (by
    have : key = 1 ∨ key = 2 ∨ key = 3 ∨ key = 4 ∨ key = 5 ∨ key = 6 := by omega
    rcases this with rfl | rfl | rfl | rfl | rfl | rfl <;> decide)
  rw [Bool.and_eq_true, Bool.and_eq_true, List.all_eq_true] at this
  exact ⟨this.1.1, this.1.2, fun x hx => of_decide_eq_true (this.2 x hx)⟩
theorem has_is {b : List Int} {k : Nat} (h : keysOk b = true) (hk : k < 6) : ((cnt b [(k : Int) + 1] : Int) == 1) = isIn b ((k : Int) + 1) :=
  of_decide_eq_true (List.all_eq_true.1 (ok_all (p := fun b => (List.range 6).all fun (k : Nat) => decide (((cnt b [(k : Int) + 1] : Int) == 1) = isIn b ((k : Int) + 1))) (by decide +kernel) h) k (List.mem_range.2 hk))
theorem signed_plus {n d key : Int} {k b : List Int} (h : signed n k d b = true) (h0 : 1 ≤ key) (h1 : key ≤ 6) : signed n k d (plus b key 6) = true := by
  obtain ⟨r, hb, hc⟩ := signed_get h
  obtain ⟨p1, _, p3⟩ := plus_ok hb h0 h1
  rw [signed_mk r p1]
  have := cnt_mono (a := k) p3
  exact decide_eq_true (by omega)
theorem all_ok : keysOk (upTo 6) = true := by decide +kernel
theorem all_both {a : List Int} (h : keysOk a = true) : kboth (upTo 6) a = (a.length : Int) := by
  rw [kboth_ok all_ok h, cnt_comm all_ok h]
  have := of_decide_eq_true (ok_all (p := fun a => decide (cnt a (upTo 6) = a.length)) (by decide +kernel) h)
  rw [this]
theorem nine_bad (a : List Int) : kboth a (upTo 6 ++ [9]) = -1 := kboth_bad (by rw [show keysOk (upTo 6 ++ [9]) = false by decide +kernel, Bool.and_false])
theorem nil_both {a : List Int} (h : keysOk a = true) : kboth a [] = 0 := by rw [kboth_ok h rfl, cnt_nil]; rfl
end Go.Proofs.Ytneaceieaafjdaa.Ky
