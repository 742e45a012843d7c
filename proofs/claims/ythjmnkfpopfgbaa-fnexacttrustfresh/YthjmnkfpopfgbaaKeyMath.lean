/- Keys and roots as plain data: which are ok, how many are among both, what is signed; no condition. -/
import Derived.Test.YthjmnkfpopfgbaaPkgMath
namespace Go.Proofs.Ythjmnkfpopfgbaa.Ky
open Pk

/-- The key at a place. -/
def nth (l : List Int) (i : Nat) : Int := l.getD i 0
def keyGood (l : List Int) (i : Nat) : Bool := inB (nth l i) 1 6 && (decide (i = 0) || decide (nth l (i - 1) < nth l i))
def keysOk (l : List Int) : Bool := (List.range l.length).all (keyGood l)
/-- Whether a key is among keys. -/
def isIn (l : List Int) (x : Int) : Bool := l.contains x
/-- How many of the one are among the other. -/
def cnt (a b : List Int) : Nat := a.countP fun x => b.contains x
/-- The same, each as often as it is there. -/
def both (a b : List Int) : Nat := (a.map fun x => b.count x).sum
def kboth (a b : List Int) : Int := if keysOk a && keysOk b then (cnt a b : Int) else -1
def rootOk (n : Int) (k : List Int) (d : Int) : Bool := inB n 1 9 && keysOk k && inB d 1 k.length
def signed (n : Int) (k : List Int) (d : Int) (by' : List Int) : Bool := rootOk n k d && keysOk by' && decide (d ≤ (cnt k by' : Int))
def next (n : Int) (k : List Int) (d : Int) (n2 : Int) (k2 : List Int) (d2 : Int) (by' : List Int) : Bool := signed n k d by' && signed n2 k2 d2 by' && decide (n2 = n + 1)

theorem keysOk_bad {l : List Int} {i : Nat} (hi : i < l.length) (hb : keyGood l i = false) : keysOk l = false := all_bad hi hb
theorem keysOk_good {l : List Int} (h : ∀ i, i < l.length → keyGood l i = true) : keysOk l = true := all_good h

theorem nth_get (l : List Int) (i : Nat) (hi : i < l.length) : nth l i = l[i] := by unfold nth; simp [List.getD, hi]

/-- Ascending from a number on, up to 6. -/
def asc : Int → List Int → Prop
  | _, [] => True
  | lo, x :: t => lo ≤ x ∧ x ≤ 6 ∧ asc (x + 1) t

theorem asc_mono : ∀ {l : List Int} {lo lo' : Int}, lo' ≤ lo → asc lo l → asc lo' l
  | [], _, _, _, _ => True.intro
  | _ :: _, _, _, h, ⟨h1, h2, h3⟩ => ⟨Int.le_trans h h1, h2, h3⟩

theorem asc_of_good : ∀ (l : List Int) (lo : Int), (∀ i, i < l.length → 1 ≤ nth l i ∧ nth l i ≤ 6) → (∀ i, i + 1 < l.length → nth l i < nth l (i + 1)) → (0 < l.length → lo ≤ nth l 0) → asc lo l
  | [], _, _, _, _ => True.intro
  | x :: t, lo, h1, h2, h3 => by
    refine ⟨h3 (by simp), (h1 0 (by simp)).2, asc_of_good t (x + 1) (fun i hi => h1 (i + 1) (by simpa using hi)) (fun i hi => h2 (i + 1) (by simpa using hi)) (fun hp => ?_)⟩
    have e : x < nth t 0 := h2 0 (by simpa using hp)
    omega

theorem good_get {l : List Int} (h : keysOk l = true) : (∀ i, i < l.length → 1 ≤ nth l i ∧ nth l i ≤ 6) ∧ ∀ i, i + 1 < l.length → nth l i < nth l (i + 1) := by
  unfold keysOk at h
  rw [List.all_eq_true] at h
  refine ⟨fun i hi => ?_, fun i hi => ?_⟩
  · have := h i (List.mem_range.2 hi)
    unfold keyGood at this
    rw [Bool.and_eq_true, inB_true] at this
    exact this.1
  · have := h (i + 1) (List.mem_range.2 hi)
    unfold keyGood at this
    rw [Bool.and_eq_true] at this
    simpa using this.2

theorem asc_ok {l : List Int} (h : keysOk l = true) : asc 1 l := by
  obtain ⟨h1, h2⟩ := good_get h
  exact asc_of_good l 1 h1 h2 (fun hp => (h1 0 hp).1)

theorem ok_asc : ∀ {l : List Int} {lo : Int}, 1 ≤ lo → asc lo l → (∀ i, i < l.length → lo ≤ nth l i ∧ nth l i ≤ 6) ∧ ∀ i, i + 1 < l.length → nth l i < nth l (i + 1)
  | [], _, _, _ => ⟨fun i hi => by simp at hi, fun i hi => by simp at hi⟩
  | x :: t, lo, hlo, ⟨h1, h2, h3⟩ => by
    obtain ⟨g1, g2⟩ := ok_asc (lo := x + 1) (by omega) h3
    refine ⟨fun i hi => ?_, fun i hi => ?_⟩
    · rcases i with _ | i
      · exact ⟨h1, h2⟩
      · have := g1 i (by simpa using hi)
        have e : nth (x :: t) (i + 1) = nth t i := rfl
        rw [e]
        omega
    · rcases i with _ | i
      · have := (g1 0 (by simpa using hi)).1
        have e : nth (x :: t) 0 = x := rfl
        have e' : nth (x :: t) (0 + 1) = nth t 0 := rfl
        rw [e, e']
        omega
      · exact g2 i (by simpa using hi)

theorem keysOk_asc {l : List Int} (h : asc 1 l) : keysOk l = true := by
  obtain ⟨h1, h2⟩ := ok_asc (by omega) h
  refine keysOk_good fun i hi => ?_
  have hb := h1 i hi
  unfold keyGood
  rw [Bool.and_eq_true, inB_true]
  refine ⟨hb, ?_⟩
  rcases i with _ | i
  · rfl
  · simpa using h2 i hi

/-- All keys that are ok, from a number on. -/
def subs : Nat → List (List Int)
  | 0 => [[]]
  | n + 1 => subs n ++ (subs n).map ((6 - (n : Int)) :: ·)

theorem mem_subs : ∀ (n : Nat) (l : List Int), asc (7 - (n : Int)) l → l ∈ subs n
  | 0, [], _ => by simp [subs]
  | 0, x :: t, ⟨h1, h2, _⟩ => by omega
  | n + 1, [], _ => by
    unfold subs
    exact List.mem_append_left _ (mem_subs n [] True.intro)
  | n + 1, x :: t, ⟨h1, h2, h3⟩ => by
    unfold subs
    by_cases hx : x = 6 - (n : Int)
    · subst hx
      exact List.mem_append_right _ (List.mem_map.2 ⟨t, mem_subs n t (asc_mono (by omega) h3), rfl⟩)
    · exact List.mem_append_left _ (mem_subs n (x :: t) ⟨by omega, h2, h3⟩)

theorem ok_mem {l : List Int} (h : keysOk l = true) : l ∈ subs 6 := mem_subs 6 l (asc_ok h)

theorem ok_all {p : List Int → Bool} (hp : (subs 6).all p = true) {l : List Int} (h : keysOk l = true) : p l = true := List.all_eq_true.1 hp l (ok_mem h)
theorem ok_all2 {p : List Int → List Int → Bool} (hp : (subs 6).all (fun a => (subs 6).all (p a)) = true) {a b : List Int} (ha : keysOk a = true) (hb : keysOk b = true) : p a b = true := ok_all (ok_all hp ha) hb

theorem ok_len {l : List Int} (h : keysOk l = true) : l.length ≤ 6 := of_decide_eq_true (ok_all (p := fun l => decide (l.length ≤ 6)) (by decide +kernel) h)
theorem ok_in {l : List Int} (h : keysOk l = true) : ∀ x ∈ l, 1 ≤ x ∧ x ≤ 6 := by
  have := ok_all (p := fun l => l.all fun x => decide (1 ≤ x) && decide (x ≤ 6)) (by decide +kernel) h
  intro x hx
  have := List.all_eq_true.1 this x hx
  simpa using this
theorem nodup_ok {l : List Int} (h : keysOk l = true) : l.Nodup := of_decide_eq_true (ok_all (p := fun l => decide l.Nodup) (by decide +kernel) h)

theorem both_cnt (a b : List Int) (h : keysOk b = true) : both a b = cnt a b := by
  have hn := nodup_ok h
  induction a with
  | nil => rfl
  | cons x t ih =>
    unfold both cnt at *
    rw [List.map_cons, List.sum_cons, List.countP_cons, ih]
    by_cases hx : x ∈ b
    · rw [List.Nodup.count hn, if_pos hx, if_pos (by simpa using hx)]; omega
    · rw [List.count_eq_zero.2 hx, if_neg (by simpa using hx)]; omega

theorem cnt_le (a b : List Int) : cnt a b ≤ a.length := List.countP_le_length
theorem cnt_nil (a : List Int) : cnt a [] = 0 := by unfold cnt; simp
theorem cnt_self (a : List Int) : cnt a a = a.length := by unfold cnt; rw [List.countP_eq_length]; intro x hx; simpa using hx
theorem cnt_comm {a b : List Int} (ha : keysOk a = true) (hb : keysOk b = true) : cnt a b = cnt b a :=
  of_decide_eq_true (ok_all2 (p := fun a b => decide (cnt a b = cnt b a)) (by decide +kernel) ha hb)
theorem cnt_mono {a b c : List Int} (h : ∀ x ∈ b, x ∈ c) : cnt a b ≤ cnt a c := by
  unfold cnt
  exact List.countP_mono_left fun x _ hx => by simpa using h x (by simpa using hx)

theorem both_snoc (a : List Int) (i : Nat) (hi : i < a.length) (b : List Int) : both (a.take (i + 1)) b = both (a.take i) b + b.count (nth a i) := by
  unfold both
  rw [List.take_add_one, List.map_append, List.sum_append, nth_get a i hi]
  simp [hi]
theorem count_snoc (b : List Int) (k : Nat) (hk : k < b.length) (x : Int) : (b.take (k + 1)).count x = (b.take k).count x + (if x = nth b k then 1 else 0) := by
  rw [List.take_add_one, List.count_append, nth_get b k hk]
  simp [hk, List.count_singleton]
  by_cases h : x = b[k]
  · simp [h]
  · simp [h]; intro h'; exact absurd h'.symm h
theorem cnt_snoc (a : List Int) (i : Nat) (hi : i < a.length) (b : List Int) : cnt (a.take (i + 1)) b = cnt (a.take i) b + (if isIn b (nth a i) then 1 else 0) := by
  unfold cnt isIn
  rw [List.take_add_one, List.countP_append, nth_get a i hi]
  simp [hi, List.countP_singleton]
theorem both_le (a b : List Int) : both a b ≤ a.length * b.length := by
  induction a with
  | nil => simp [both]
  | cons x t ih =>
    unfold both at *
    rw [List.map_cons, List.sum_cons, List.length_cons, Nat.add_mul]
    have := List.count_le_length (a := x) (l := b)
    omega

theorem both_bd {a b : List Int} (k : Nat) (ha : a.length ≤ 1000) (hb : b.length ≤ 1000) : both (a.take k) b ≤ 1000000 := by
  have h1 := both_le (a.take k) b
  have h2 : (a.take k).length ≤ 1000 := by rw [List.length_take]; omega
  exact Nat.le_trans h1 (Nat.mul_le_mul h2 hb)

theorem kboth_ok {a b : List Int} (ha : keysOk a = true) (hb : keysOk b = true) : kboth a b = (cnt a b : Int) := by unfold kboth; rw [ha, hb]; rfl
theorem kboth_bad {a b : List Int} (h : (keysOk a && keysOk b) = false) : kboth a b = -1 := by unfold kboth; rw [h]; rfl

/-- What is among both, key by key. -/
def msum (a b : List Int) (k : Nat) : Nat := ((List.range k).map fun (j : Nat) => cnt a [(j : Int) + 1] * cnt b [(j : Int) + 1]).sum
theorem msum_succ (a b : List Int) (k : Nat) : msum a b (k + 1) = msum a b k + cnt a [(k : Int) + 1] * cnt b [(k : Int) + 1] := by
  unfold msum
  rw [List.range_succ, List.map_append, List.sum_append]
  simp
theorem msum_all {a b : List Int} (ha : keysOk a = true) (hb : keysOk b = true) : msum a b 6 = cnt a b :=
  of_decide_eq_true (ok_all2 (p := fun a b => decide (msum a b 6 = cnt a b)) (by decide +kernel) ha hb)
theorem ok_one {k : Nat} (hk : k < 6) : keysOk [(k : Int) + 1] = true := by
  refine keysOk_asc ⟨by omega, by omega, True.intro⟩
theorem msum_bd (a b : List Int) (ha : a.length ≤ 10) (hb : b.length ≤ 10) : ∀ k, msum a b k ≤ k * 100
  | 0 => by simp [msum]
  | k + 1 => by
    rw [msum_succ]
    have h1 := msum_bd a b ha hb k
    have h2 := Nat.mul_le_mul (Nat.le_trans (cnt_le a [(k : Int) + 1]) ha) (Nat.le_trans (cnt_le b [(k : Int) + 1]) hb)
    omega
end Go.Proofs.Ythjmnkfpopfgbaa.Ky
