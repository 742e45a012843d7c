/- Packages as plain data: which are ok, and their text; no condition. The sum of a text as plain arithmetic: byte by byte, modulo 9973; no condition. Indexes as plain data: which are ok; no condition. Packages in a row, as plain data: whether they are ok and ascend; what an index tells of them; no condition. Packages in a row, as plain data: one more in its place, where one is; no condition. Keys and roots as plain data: which are ok, how many are among both, what is signed; no condition. What the laws of chapter 2 say of keys and roots as plain data. Trust as plain data: whether it is ok, what is taken; no condition. Trust as plain data: what TrustNew, TrustRoot and TrustIndex answer; no condition. Trust as plain data: what the laws of TrustIndex say; no condition. -/
import Derived.KernelRfl
namespace Go.Proofs.YtlnieobmhofkdaaGreat.Pk

def inB (n lo hi : Int) : Bool := decide (lo ≤ n) && decide (n ≤ hi)
theorem inB_true {n lo hi : Int} : inB n lo hi = true ↔ lo ≤ n ∧ n ≤ hi := by unfold inB; simp
theorem inB_false {n lo hi : Int} : inB n lo hi = false ↔ ¬ (lo ≤ n ∧ n ≤ hi) := by unfold inB; simp

/-- The first, the second number of the pair at a place. -/
def fst (l : List (Int × Int)) (i : Nat) : Int := (l.getD i (0, 0)).1
def snd (l : List (Int × Int)) (i : Nat) : Int := (l.getD i (0, 0)).2

/-- The file at a place is ok. -/
def fileGood (l : List (Int × Int)) (i : Nat) : Bool := inB (fst l i) 0 5 && inB (snd l i) 0 9 && (decide (i = 0) || decide (fst l (i - 1) < fst l i))
def filesOk (l : List (Int × Int)) : Bool := decide (l.length ≤ 2) && (List.range l.length).all (fileGood l)
/-- The need at a place is ok. -/
def depGood (nm : Int) (l : List (Int × Int)) (i : Nat) : Bool := inB (fst l i) 1 4 && !decide (fst l i = nm) && inB (snd l i) 1 5 && (decide (i = 0) || decide (fst l (i - 1) < fst l i))
def depsOk (nm : Int) (l : List (Int × Int)) : Bool := decide (l.length ≤ 2) && (List.range l.length).all (depGood nm l)
def pkgOk (nm vr : Int) (fs ds : List (Int × Int)) : Bool := inB nm 1 4 && inB vr 1 5 && filesOk fs && depsOk nm ds

theorem all_bad {n : Nat} {g : Nat → Bool} {i : Nat} (hi : i < n) (hb : g i = false) : (List.range n).all g = false := by
  rw [Bool.eq_false_iff]
  intro h
  rw [List.all_eq_true] at h
  have := h i (List.mem_range.2 hi)
  rw [hb] at this
  cases this
theorem all_good {n : Nat} {g : Nat → Bool} (h : ∀ i, i < n → g i = true) : (List.range n).all g = true := by
  rw [List.all_eq_true]
  intro i hi
  exact h i (List.mem_range.1 hi)
theorem filesOk_bad {l : List (Int × Int)} {i : Nat} (hi : i < l.length) (hb : fileGood l i = false) : filesOk l = false := by unfold filesOk; rw [all_bad hi hb, Bool.and_false]
theorem filesOk_good {l : List (Int × Int)} (h : ∀ i, i < l.length → fileGood l i = true) : filesOk l = decide (l.length ≤ 2) := by unfold filesOk; rw [all_good h, Bool.and_true]
theorem depsOk_bad {nm : Int} {l : List (Int × Int)} {i : Nat} (hi : i < l.length) (hb : depGood nm l i = false) : depsOk nm l = false := by unfold depsOk; rw [all_bad hi hb, Bool.and_false]
theorem depsOk_good {nm : Int} {l : List (Int × Int)} (h : ∀ i, i < l.length → depGood nm l i = true) : depsOk nm l = decide (l.length ≤ 2) := by unfold depsOk; rw [all_good h, Bool.and_true]
theorem filesOk_get {l : List (Int × Int)} (h : filesOk l = true) : l.length ≤ 2 ∧ ∀ i, i < l.length → (0 ≤ fst l i ∧ fst l i ≤ 5) ∧ (0 ≤ snd l i ∧ snd l i ≤ 9) := by
  unfold filesOk at h
  rw [Bool.and_eq_true, List.all_eq_true] at h
  refine ⟨of_decide_eq_true h.1, fun i hi => ?_⟩
  have := h.2 i (List.mem_range.2 hi)
  unfold fileGood at this
  rw [Bool.and_eq_true, Bool.and_eq_true, inB_true, inB_true] at this
  exact this.1
theorem depsOk_get {nm : Int} {l : List (Int × Int)} (h : depsOk nm l = true) : l.length ≤ 2 ∧ ∀ i, i < l.length → (1 ≤ fst l i ∧ fst l i ≤ 4) ∧ (1 ≤ snd l i ∧ snd l i ≤ 5) := by
  unfold depsOk at h
  rw [Bool.and_eq_true, List.all_eq_true] at h
  refine ⟨of_decide_eq_true h.1, fun i hi => ?_⟩
  have := h.2 i (List.mem_range.2 hi)
  unfold depGood at this
  rw [Bool.and_eq_true, Bool.and_eq_true, Bool.and_eq_true, inB_true, inB_true] at this
  exact ⟨this.1.1.1, this.1.2⟩

/-- A byte of a number. -/
def b8 (n : Int) : UInt8 := UInt8.ofNat n.toNat
/-- A name and a version. -/
def nameT (nm vr : Int) : List UInt8 := [b8 (96 + nm), b8 (48 + vr)]
def fileT (x : Int × Int) : List UInt8 := [32, b8 (48 + x.1), 58, b8 (48 + x.2)]
def depT (x : Int × Int) : List UInt8 := 32 :: nameT x.1 x.2
/-- The text of a package that is ok. -/
def textOk (nm vr : Int) (fs ds : List (Int × Int)) : List UInt8 := nameT nm vr ++ fs.flatMap fileT ++ ds.flatMap depT
def text (nm vr : Int) (fs ds : List (Int × Int)) : List UInt8 := if pkgOk nm vr fs ds = true then textOk nm vr fs ds else []
end Go.Proofs.YtlnieobmhofkdaaGreat.Pk
namespace Go.Proofs.YtlnieobmhofkdaaGreat.Sm

/-- One byte more. -/
def step (n : Int) (c : UInt8) : Int := (31 * n + (c.toNat : Int) + 1) % 9973
/-- From a number on over a text. -/
def go (n : Int) (l : List UInt8) : Int := l.foldl step n
/-- The sum of a text. -/
def sum (l : List UInt8) : Int := go 7 l

theorem step_bd (n : Int) (c : UInt8) : 0 ≤ step n c ∧ step n c < 9973 := by unfold step; omega
theorem go_nil (n : Int) : go n [] = n := rfl
theorem go_cons (n : Int) (c : UInt8) (l : List UInt8) : go n (c :: l) = go (step n c) l := rfl
theorem go_append (n : Int) (a b : List UInt8) : go n (a ++ b) = go (go n a) b := by unfold go; rw [List.foldl_append]
theorem go_snoc (n : Int) (l : List UInt8) (c : UInt8) : go n (l ++ [c]) = step (go n l) c := by rw [go_append]; rfl
theorem go_bd : ∀ (l : List UInt8) (n : Int), 0 ≤ n → n < 9973 → 0 ≤ go n l ∧ go n l < 9973
  | [], n, h0, h1 => ⟨h0, h1⟩
  | c :: l, n, _, _ => by rw [go_cons]; exact go_bd l _ (step_bd n c).1 (step_bd n c).2
theorem sum_bd (l : List UInt8) : 0 ≤ sum l ∧ sum l < 9973 := go_bd l 7 (by omega) (by omega)
theorem step_inj {x y : Int} (c : UInt8) (hx : 0 ≤ x) (hx' : x < 9973) (hy : 0 ≤ y) (hy' : y < 9973) (h : step x c = step y c) : x = y := by
  unfold step at h; omega
theorem go_inj : ∀ (l : List UInt8) {x y : Int}, 0 ≤ x → x < 9973 → 0 ≤ y → y < 9973 → go x l = go y l → x = y
  | [], _, _, _, _, _, _, h => h
  | c :: l, x, y, hx, hx', hy, hy', h => by
    rw [go_cons, go_cons] at h
    exact step_inj c hx hx' hy hy' (go_inj l (step_bd x c).1 (step_bd x c).2 (step_bd y c).1 (step_bd y c).2 h)
theorem step_ne {n : Int} {c d : UInt8} (h : step n c = step n d) : c = d := by
  unfold step at h
  have h1 := c.toNat_lt
  have h2 := d.toNat_lt
  apply UInt8.toNat_inj.1
  omega
theorem sum_append (a b : List UInt8) : sum (a ++ b) = go (sum a) b := go_append 7 a b
theorem sum_snoc (l : List UInt8) (c : UInt8) : sum (l ++ [c]) = step (sum l) c := go_snoc 7 l c
/-- A byte that is changed is found. -/
theorem sum_change (a b : List UInt8) {c d : UInt8} (hcd : c ≠ d) : sum (a ++ (d :: b)) ≠ sum (a ++ (c :: b)) := by
  intro h
  rw [sum_append, sum_append, go_cons, go_cons] at h
  exact hcd (step_ne (go_inj b (step_bd _ _).1 (step_bd _ _).2 (step_bd _ _).1 (step_bd _ _).2 h)).symm
/-- What is behind two texts does not matter. -/
theorem sum_two (a b t : List UInt8) : sum (a ++ t) = sum (b ++ t) ↔ sum a = sum b := by
  rw [sum_append, sum_append]
  constructor
  · intro h; exact go_inj t (sum_bd a).1 (sum_bd a).2 (sum_bd b).1 (sum_bd b).2 h
  · intro h; rw [h]
theorem take_snoc (s : ByteArray) (k : Nat) (h : k < s.size) : s.data.toList.take (k + 1) = s.data.toList.take k ++ [s[k]] := by
  rw [List.take_succ_eq_append_getElem (by simpa using h)]; rfl
theorem sum_take (s : ByteArray) (k : Nat) (h : k < s.size) : sum (s.data.toList.take (k + 1)) = (31 * sum (s.data.toList.take k) + (s[k].toNat : Int) + 1) % 9973 := by
  rw [take_snoc s k h, sum_snoc]; rfl
end Go.Proofs.YtlnieobmhofkdaaGreat.Sm
namespace Go.Proofs.YtlnieobmhofkdaaGreat.Ix
open Pk

/-- What an index tells of a package: name, version, sum. -/
abbrev M := Int × Int × Int
def nm (l : List M) (i : Nat) : Int := (l.getD i (0, 0, 0)).1
def vr (l : List M) (i : Nat) : Int := (l.getD i (0, 0, 0)).2.1
def sm (l : List M) (i : Nat) : Int := (l.getD i (0, 0, 0)).2.2
def less (n v m w : Int) : Bool := decide (n < m) || (decide (n = m) && decide (v < w))
def mOk (n v s : Int) : Bool := inB n 1 4 && inB v 1 5 && inB s 0 9972
def good (l : List M) (i : Nat) : Bool := mOk (nm l i) (vr l i) (sm l i) && (decide (i = 0) || less (nm l (i - 1)) (vr l (i - 1)) (nm l i) (vr l i))
def metasOk (l : List M) : Bool := (List.range l.length).all (good l)
def idxOk (num til : Int) (l : List M) : Bool := inB num 1 30 && inB til 0 60 && decide (l.length ≤ 8) && metasOk l
/-- The last one; nothing, if there is none. -/
def last (l : List M) : M := l.getLastD (0, 0, 0)

theorem metasOk_bad {l : List M} {i : Nat} (hi : i < l.length) (hb : good l i = false) : metasOk l = false := all_bad hi hb
theorem metasOk_good {l : List M} (h : ∀ i, i < l.length → good l i = true) : metasOk l = true := all_good h
theorem metasOk_at {l : List M} (h : metasOk l = true) : ∀ i, i < l.length → good l i = true := by
  intro i hi
  unfold metasOk at h
  rw [List.all_eq_true] at h
  exact h i (List.mem_range.2 hi)
theorem getD_left (p t : List M) (i : Nat) (hi : i < p.length) : (p ++ t).getD i (0, 0, 0) = p.getD i (0, 0, 0) := by
  rw [List.getD_eq_getElem?_getD, List.getD_eq_getElem?_getD, List.getElem?_append_left hi]
theorem good_left (p t : List M) (i : Nat) (hi : i < p.length) : good (p ++ t) i = good p i := by
  unfold good nm vr sm
  rw [getD_left p t i hi]
  rcases Nat.eq_zero_or_pos i with rfl | h0
  · simp
  · rw [getD_left p t (i - 1) (by omega)]
theorem getD_last (p : List M) (x : M) : (p ++ [x]).getD p.length (0, 0, 0) = x := by
  rw [List.getD_eq_getElem?_getD, List.getElem?_append_right (Nat.le_refl _)]
  simp
theorem last_at (p : List M) : last p = p.getD (p.length - 1) (0, 0, 0) := by
  unfold last
  rw [List.getLastD_eq_getLast?, List.getLast?_eq_getElem?, List.getD_eq_getElem?_getD]
theorem last_snoc (p : List M) (x : M) : last (p ++ [x]) = x := by unfold last; simp
theorem less_zero {n v s : Int} (h : mOk n v s = true) : less 0 0 n v = true := by
  unfold mOk at h
  rw [Bool.and_eq_true, Bool.and_eq_true, inB_true, inB_true] at h
  unfold less
  rw [decide_eq_true (by omega), Bool.true_or]
theorem good_last (p : List M) (x : M) : good (p ++ [x]) p.length = (mOk x.1 x.2.1 x.2.2 && less (last p).1 (last p).2.1 x.1 x.2.1) := by
  unfold good nm vr sm
  rw [getD_last]
  rcases Nat.eq_zero_or_pos p.length with h0 | h0
  · obtain rfl := List.length_eq_zero_iff.1 h0
    cases hm : mOk x.1 x.2.1 x.2.2
    · simp
    · have := less_zero hm
      simp [last, this]
  · rw [getD_left p [x] (p.length - 1) (by omega), last_at p, decide_eq_false (by omega : ¬ p.length = 0), Bool.false_or]
theorem metasOk_snoc (p : List M) (x : M) : metasOk (p ++ [x]) = (metasOk p && (mOk x.1 x.2.1 x.2.2 && less (last p).1 (last p).2.1 x.1 x.2.1)) := by
  rw [← good_last]
  unfold metasOk
  rw [List.length_append, List.length_singleton, List.range_succ, List.all_append, List.all_cons, List.all_nil, Bool.and_true]
  congr 1
  rw [Bool.eq_iff_iff, List.all_eq_true, List.all_eq_true]
  constructor
  · intro h i hi; rw [← good_left p [x] i (List.mem_range.1 hi)]; exact h i hi
  · intro h i hi; rw [good_left p [x] i (List.mem_range.1 hi)]; exact h i hi
theorem metasOk_prefix {p l : List M} (h : p <+: l) (hl : metasOk l = true) : metasOk p = true := by
  obtain ⟨t, rfl⟩ := h
  refine metasOk_good fun i hi => ?_
  rw [← good_left p t i hi]
  exact metasOk_at hl i (by rw [List.length_append]; omega)
theorem metasOk_stop {p l : List M} (h : p <+: l) (hp : metasOk p = false) : metasOk l = false := by
  cases hl : metasOk l
  · rfl
  · rw [metasOk_prefix h hl] at hp; cases hp
/-- What has come when k rounds are over. -/
def upto (l : List M) (k : Nat) : List M := (List.range k).map fun j => (nm l j, vr l j, sm l j)
theorem upto_succ (l : List M) (k : Nat) : upto l (k + 1) = upto l k ++ [(nm l k, vr l k, sm l k)] := by simp [upto, List.range_succ]
theorem upto_length (l : List M) (k : Nat) : (upto l k).length = k := by simp [upto]
theorem upto_take (l : List M) {k : Nat} (hk : k ≤ l.length) : upto l k = l.take k := by
  apply List.ext_getElem
  · simp [upto, hk]
  · intro i h1 h2
    have : i < l.length := by simp [upto] at h1; omega
    simp [upto, nm, vr, sm, this]
theorem upto_all (l : List M) : upto l l.length = l := by rw [upto_take l (Nat.le_refl _), List.take_length]
end Go.Proofs.YtlnieobmhofkdaaGreat.Ix
namespace Go.Proofs.YtlnieobmhofkdaaGreat.Ix
open Pk

/-- A package: name, version, files, needs. -/
abbrev Pg := Int × Int × List (Int × Int) × List (Int × Int)
def pg (l : List Pg) (i : Nat) : Pg := l.getD i (0, 0, [], [])
def pOk (p : Pg) : Bool := Pk.pkgOk p.1 p.2.1 p.2.2.1 p.2.2.2
def pText (p : Pg) : List UInt8 := Pk.text p.1 p.2.1 p.2.2.1 p.2.2.2
def pkgGood (l : List Pg) (i : Nat) : Bool := pOk (pg l i) && (decide (i = 0) || less (pg l (i - 1)).1 (pg l (i - 1)).2.1 (pg l i).1 (pg l i).2.1)
def pkgsOk (l : List Pg) : Bool := (List.range l.length).all (pkgGood l)
/-- What is told of a package. -/
def metaP (p : Pg) : M := (p.1, p.2.1, Sm.sum (pText p))
/-- An index of packages is ok. -/
def ofOk (num til : Int) (l : List Pg) : Bool := pkgsOk l && idxOk num til (l.map metaP)
theorem pkgsOk_bad {l : List Pg} {i : Nat} (hi : i < l.length) (hb : pkgGood l i = false) : pkgsOk l = false := all_bad hi hb
theorem pkgsOk_good {l : List Pg} (h : ∀ i, i < l.length → pkgGood l i = true) : pkgsOk l = true := all_good h
theorem pkgsOk_at {l : List Pg} (h : pkgsOk l = true) : ∀ i, i < l.length → pkgGood l i = true := by
  intro i hi
  unfold pkgsOk at h
  rw [List.all_eq_true] at h
  exact h i (List.mem_range.2 hi)
theorem pg_mem {l : List Pg} {i : Nat} (hi : i < l.length) : pg l i ∈ l := by
  unfold pg
  rw [List.getD_eq_getElem?_getD, List.getElem?_eq_getElem hi]
  exact List.getElem_mem hi
theorem mem_pg {l : List Pg} {x : Pg} (h : x ∈ l) : ∃ i, i < l.length ∧ pg l i = x := by
  obtain ⟨i, hi, rfl⟩ := List.mem_iff_getElem.1 h
  exact ⟨i, hi, by unfold pg; rw [List.getD_eq_getElem?_getD, List.getElem?_eq_getElem hi]; rfl⟩
theorem take_pg (l : List Pg) (k : Nat) (h : k < l.length) : l.take (k + 1) = l.take k ++ [pg l k] := by
  rw [List.take_add_one, List.getElem?_eq_getElem h, Option.toList_some]
  unfold pg
  rw [List.getD_eq_getElem?_getD, List.getElem?_eq_getElem h]
  rfl
end Go.Proofs.YtlnieobmhofkdaaGreat.Ix
namespace Go.Proofs.YtlnieobmhofkdaaGreat.Ix
open Pk

/-- A package is ahead of another one, by name, then by version. -/
def ahead (p q : Pg) : Bool := less p.1 p.2.1 q.1 q.2.1
/-- A package more, in its place. -/
def wth (l : List Pg) (p : Pg) : List Pg := l.filter (fun x => ahead x p) ++ [p] ++ l.filter (fun x => ahead p x)
theorem filter_snoc {α : Type} (f : α → Bool) (l : List α) (x : α) : (l ++ [x]).filter f = l.filter f ++ (if f x = true then [x] else []) := by
  rw [List.filter_append]
  cases h : f x <;> simp [h]
theorem wth_len (l : List Pg) (p : Pg) : (wth l p).length ≤ 2 * l.length + 1 := by
  unfold wth
  rw [List.length_append, List.length_append]
  have h1 := List.length_filter_le (fun x => ahead x p) l
  have h2 := List.length_filter_le (fun x => ahead p x) l
  simp only [List.length_cons, List.length_nil]
  omega
/-- Of that name and version. -/
def named (p : Pg) (n v : Int) : Bool := decide (p.1 = n) && decide (p.2.1 = v)
theorem less_not {a b c d : Int} (h : less a b c d = true) : less c d a b = false := by
  unfold less at *
  simp only [Bool.or_eq_true, Bool.and_eq_true, decide_eq_true_eq, Bool.or_eq_false_iff, Bool.and_eq_false_iff, decide_eq_false_iff_not] at *
  omega
/-- No more than one more: of two that are ahead of each other there are none. -/
theorem wth_len1 (l : List Pg) (p : Pg) : (wth l p).length ≤ l.length + 1 := by
  unfold wth
  rw [List.length_append, List.length_append]
  have : (l.filter (fun x => ahead x p)).length + (l.filter (fun x => ahead p x)).length ≤ l.length := by
    induction l with
    | nil => simp
    | cons x l ih =>
      simp only [List.filter_cons, List.length_cons]
      cases h1 : ahead x p
      · cases h2 : ahead p x <;> simp <;> omega
      · have : ahead p x = false := less_not h1
        simp [this]; omega
  simp only [List.length_cons, List.length_nil]
  omega
end Go.Proofs.YtlnieobmhofkdaaGreat.Ix
namespace Go.Proofs.YtlnieobmhofkdaaGreat.Ky
open Pk

/-- The key at a place. -/
def nth (l : List Int) (i : Nat) : Int := l.getD i 0
def keyGood (l : List Int) (i : Nat) : Bool := inB (nth l i) 1 6 && (decide (i = 0) || decide (nth l (i - 1) < nth l i))
def keysOk (l : List Int) : Bool := (List.range l.length).all (keyGood l)
/-- Whether a key is among keys. -/
def isIn (l : List Int) (x : Int) : Bool := l.contains x
/-- How many of the one are among the other. -/
def cnt (a b : List Int) : Nat := a.countP fun x => b.contains x
/-- The same, each as often as it is there. -/
def both (a b : List Int) : Nat := (a.map fun x => b.count x).sum
def kboth (a b : List Int) : Int := if keysOk a && keysOk b then (cnt a b : Int) else -1
def rootOk (n : Int) (k : List Int) (d : Int) : Bool := inB n 1 9 && keysOk k && inB d 1 k.length
def signed (n : Int) (k : List Int) (d : Int) (by' : List Int) : Bool := rootOk n k d && keysOk by' && decide (d ≤ (cnt k by' : Int))
def next (n : Int) (k : List Int) (d : Int) (n2 : Int) (k2 : List Int) (d2 : Int) (by' : List Int) : Bool := signed n k d by' && signed n2 k2 d2 by' && decide (n2 = n + 1)

theorem keysOk_bad {l : List Int} {i : Nat} (hi : i < l.length) (hb : keyGood l i = false) : keysOk l = false := all_bad hi hb
theorem keysOk_good {l : List Int} (h : ∀ i, i < l.length → keyGood l i = true) : keysOk l = true := all_good h

theorem nth_get (l : List Int) (i : Nat) (hi : i < l.length) : nth l i = l[i] := by unfold nth; simp [List.getD, hi]

/-- Ascending from a number on, up to 6. -/
def asc : Int → List Int → Prop
  | _, [] => True
  | lo, x :: t => lo ≤ x ∧ x ≤ 6 ∧ asc (x + 1) t

theorem asc_mono : ∀ {l : List Int} {lo lo' : Int}, lo' ≤ lo → asc lo l → asc lo' l
  | [], _, _, _, _ => True.intro
  | _ :: _, _, _, h, ⟨h1, h2, h3⟩ => ⟨Int.le_trans h h1, h2, h3⟩

theorem asc_of_good : ∀ (l : List Int) (lo : Int), (∀ i, i < l.length → 1 ≤ nth l i ∧ nth l i ≤ 6) → (∀ i, i + 1 < l.length → nth l i < nth l (i + 1)) → (0 < l.length → lo ≤ nth l 0) → asc lo l
  | [], _, _, _, _ => True.intro
  | x :: t, lo, h1, h2, h3 => by
    refine ⟨h3 (by simp), (h1 0 (by simp)).2, asc_of_good t (x + 1) (fun i hi => h1 (i + 1) (by simpa using hi)) (fun i hi => h2 (i + 1) (by simpa using hi)) (fun hp => ?_)⟩
    have e : x < nth t 0 := h2 0 (by simpa using hp)
    omega

theorem good_get {l : List Int} (h : keysOk l = true) : (∀ i, i < l.length → 1 ≤ nth l i ∧ nth l i ≤ 6) ∧ ∀ i, i + 1 < l.length → nth l i < nth l (i + 1) := by
  unfold keysOk at h
  rw [List.all_eq_true] at h
  refine ⟨fun i hi => ?_, fun i hi => ?_⟩
  · have := h i (List.mem_range.2 hi)
    unfold keyGood at this
    rw [Bool.and_eq_true, inB_true] at this
    exact this.1
  · have := h (i + 1) (List.mem_range.2 hi)
    unfold keyGood at this
    rw [Bool.and_eq_true] at this
    simpa using this.2

theorem asc_ok {l : List Int} (h : keysOk l = true) : asc 1 l := by
  obtain ⟨h1, h2⟩ := good_get h
  exact asc_of_good l 1 h1 h2 (fun hp => (h1 0 hp).1)

theorem ok_asc : ∀ {l : List Int} {lo : Int}, 1 ≤ lo → asc lo l → (∀ i, i < l.length → lo ≤ nth l i ∧ nth l i ≤ 6) ∧ ∀ i, i + 1 < l.length → nth l i < nth l (i + 1)
  | [], _, _, _ => ⟨fun i hi => by simp at hi, fun i hi => by simp at hi⟩
  | x :: t, lo, hlo, ⟨h1, h2, h3⟩ => by
    obtain ⟨g1, g2⟩ := ok_asc (lo := x + 1) (by omega) h3
    refine ⟨fun i hi => ?_, fun i hi => ?_⟩
    · rcases i with _ | i
      · exact ⟨h1, h2⟩
      · have := g1 i (by simpa using hi)
        have e : nth (x :: t) (i + 1) = nth t i := rfl
        rw [e]
        omega
    · rcases i with _ | i
      · have := (g1 0 (by simpa using hi)).1
        have e : nth (x :: t) 0 = x := rfl
        have e' : nth (x :: t) (0 + 1) = nth t 0 := rfl
        rw [e, e']
        omega
      · exact g2 i (by simpa using hi)

theorem keysOk_asc {l : List Int} (h : asc 1 l) : keysOk l = true := by
  obtain ⟨h1, h2⟩ := ok_asc (by omega) h
  refine keysOk_good fun i hi => ?_
  have hb := h1 i hi
  unfold keyGood
  rw [Bool.and_eq_true, inB_true]
  refine ⟨hb, ?_⟩
  rcases i with _ | i
  · rfl
  · simpa using h2 i hi

/-- All keys that are ok, from a number on. -/
def subs : Nat → List (List Int)
  | 0 => [[]]
  | n + 1 => subs n ++ (subs n).map ((6 - (n : Int)) :: ·)

theorem mem_subs : ∀ (n : Nat) (l : List Int), asc (7 - (n : Int)) l → l ∈ subs n
  | 0, [], _ => by simp [subs]
  | 0, x :: t, ⟨h1, h2, _⟩ => by omega
  | n + 1, [], _ => by
    unfold subs
    exact List.mem_append_left _ (mem_subs n [] True.intro)
  | n + 1, x :: t, ⟨h1, h2, h3⟩ => by
    unfold subs
    by_cases hx : x = 6 - (n : Int)
    · subst hx
      exact List.mem_append_right _ (List.mem_map.2 ⟨t, mem_subs n t (asc_mono (by omega) h3), rfl⟩)
    · exact List.mem_append_left _ (mem_subs n (x :: t) ⟨by omega, h2, h3⟩)

theorem ok_mem {l : List Int} (h : keysOk l = true) : l ∈ subs 6 := mem_subs 6 l (asc_ok h)

theorem ok_all {p : List Int → Bool} (hp : (subs 6).all p = true) {l : List Int} (h : keysOk l = true) : p l = true := List.all_eq_true.1 hp l (ok_mem h)
theorem ok_all2 {p : List Int → List Int → Bool} (hp : (subs 6).all (fun a => (subs 6).all (p a)) = true) {a b : List Int} (ha : keysOk a = true) (hb : keysOk b = true) : p a b = true := ok_all (ok_all hp ha) hb

theorem ok_len {l : List Int} (h : keysOk l = true) : l.length ≤ 6 := of_decide_eq_true (ok_all (p := fun l => decide (l.length ≤ 6)) (by decide +kernel) h)
theorem ok_in {l : List Int} (h : keysOk l = true) : ∀ x ∈ l, 1 ≤ x ∧ x ≤ 6 := by
  have := ok_all (p := fun l => l.all fun x => decide (1 ≤ x) && decide (x ≤ 6)) (by decide +kernel) h
  intro x hx
  have := List.all_eq_true.1 this x hx
  simpa using this
theorem nodup_ok {l : List Int} (h : keysOk l = true) : l.Nodup := of_decide_eq_true (ok_all (p := fun l => decide l.Nodup) (by decide +kernel) h)

theorem both_cnt (a b : List Int) (h : keysOk b = true) : both a b = cnt a b := by
  have hn := nodup_ok h
  induction a with
  | nil => rfl
  | cons x t ih =>
    unfold both cnt at *
    rw [List.map_cons, List.sum_cons, List.countP_cons, ih]
    by_cases hx : x ∈ b
    · rw [List.Nodup.count hn, if_pos hx, if_pos (by simpa using hx)]; omega
    · rw [List.count_eq_zero.2 hx, if_neg (by simpa using hx)]; omega

theorem cnt_le (a b : List Int) : cnt a b ≤ a.length := List.countP_le_length
theorem cnt_nil (a : List Int) : cnt a [] = 0 := by unfold cnt; simp
theorem cnt_self (a : List Int) : cnt a a = a.length := by unfold cnt; rw [List.countP_eq_length]; intro x hx; simpa using hx
theorem cnt_comm {a b : List Int} (ha : keysOk a = true) (hb : keysOk b = true) : cnt a b = cnt b a :=
  of_decide_eq_true (ok_all2 (p := fun a b => decide (cnt a b = cnt b a)) (by decide +kernel) ha hb)
theorem cnt_mono {a b c : List Int} (h : ∀ x ∈ b, x ∈ c) : cnt a b ≤ cnt a c := by
  unfold cnt
  exact List.countP_mono_left fun x _ hx => by simpa using h x (by simpa using hx)

theorem both_snoc (a : List Int) (i : Nat) (hi : i < a.length) (b : List Int) : both (a.take (i + 1)) b = both (a.take i) b + b.count (nth a i) := by
  unfold both
  rw [List.take_add_one, List.map_append, List.sum_append, nth_get a i hi]
  simp [hi]
theorem count_snoc (b : List Int) (k : Nat) (hk : k < b.length) (x : Int) : (b.take (k + 1)).count x = (b.take k).count x + (if x = nth b k then 1 else 0) := by
  rw [List.take_add_one, List.count_append, nth_get b k hk]
  simp [hk, List.count_singleton]
  by_cases h : x = b[k]
  · simp [h]
  · simp [h]; intro h'; exact absurd h'.symm h
theorem cnt_snoc (a : List Int) (i : Nat) (hi : i < a.length) (b : List Int) : cnt (a.take (i + 1)) b = cnt (a.take i) b + (if isIn b (nth a i) then 1 else 0) := by
  unfold cnt isIn
  rw [List.take_add_one, List.countP_append, nth_get a i hi]
  simp [hi, List.countP_singleton]
theorem both_le (a b : List Int) : both a b ≤ a.length * b.length := by
  induction a with
  | nil => simp [both]
  | cons x t ih =>
    unfold both at *
    rw [List.map_cons, List.sum_cons, List.length_cons, Nat.add_mul]
    have := List.count_le_length (a := x) (l := b)
    omega

theorem both_bd {a b : List Int} (k : Nat) (ha : a.length ≤ 1000) (hb : b.length ≤ 1000) : both (a.take k) b ≤ 1000000 := by
  have h1 := both_le (a.take k) b
  have h2 : (a.take k).length ≤ 1000 := by rw [List.length_take]; omega
  exact Nat.le_trans h1 (Nat.mul_le_mul h2 hb)

theorem kboth_ok {a b : List Int} (ha : keysOk a = true) (hb : keysOk b = true) : kboth a b = (cnt a b : Int) := by unfold kboth; rw [ha, hb]; rfl
theorem kboth_bad {a b : List Int} (h : (keysOk a && keysOk b) = false) : kboth a b = -1 := by unfold kboth; rw [h]; rfl

/-- What is among both, key by key. -/
def msum (a b : List Int) (k : Nat) : Nat := ((List.range k).map fun (j : Nat) => cnt a [(j : Int) + 1] * cnt b [(j : Int) + 1]).sum
theorem msum_succ (a b : List Int) (k : Nat) : msum a b (k + 1) = msum a b k + cnt a [(k : Int) + 1] * cnt b [(k : Int) + 1] := by
  unfold msum
  rw [List.range_succ, List.map_append, List.sum_append]
  simp
theorem msum_all {a b : List Int} (ha : keysOk a = true) (hb : keysOk b = true) : msum a b 6 = cnt a b :=
  of_decide_eq_true (ok_all2 (p := fun a b => decide (msum a b 6 = cnt a b)) (by decide +kernel) ha hb)
theorem ok_one {k : Nat} (hk : k < 6) : keysOk [(k : Int) + 1] = true := by
  refine keysOk_asc ⟨by omega, by omega, True.intro⟩
theorem msum_bd (a b : List Int) (ha : a.length ≤ 10) (hb : b.length ≤ 10) : ∀ k, msum a b k ≤ k * 100
  | 0 => by simp [msum]
  | k + 1 => by
    rw [msum_succ]
    have h1 := msum_bd a b ha hb k
    have h2 := Nat.mul_le_mul (Nat.le_trans (cnt_le a [(k : Int) + 1]) ha) (Nat.le_trans (cnt_le b [(k : Int) + 1]) hb)
    omega
end Go.Proofs.YtlnieobmhofkdaaGreat.Ky
namespace Go.Proofs.YtlnieobmhofkdaaGreat.Ky
open Pk

theorem rootOk_get {n d : Int} {k : List Int} (h : rootOk n k d = true) : (1 ≤ n ∧ n ≤ 9) ∧ keysOk k = true ∧ 1 ≤ d ∧ d ≤ (k.length : Int) := by
  unfold rootOk at h
  rw [Bool.and_eq_true, Bool.and_eq_true, inB_true, inB_true] at h
  exact ⟨h.1.1, h.1.2, h.2⟩
theorem rootOk_mk {n d : Int} {k : List Int} (h1 : 1 ≤ n ∧ n ≤ 9) (h2 : keysOk k = true) (h3 : 1 ≤ d ∧ d ≤ (k.length : Int)) : rootOk n k d = true := by
  unfold rootOk
  rw [Bool.and_eq_true, Bool.and_eq_true, inB_true, inB_true]
  exact ⟨⟨h1, h2⟩, h3⟩
theorem signed_own {n d : Int} {k : List Int} (h : rootOk n k d = true) : signed n k d k = true := by
  obtain ⟨_, hk, _, hd⟩ := rootOk_get h
  unfold signed
  rw [h, hk, cnt_self, decide_eq_true hd]
  rfl
theorem signed_few {n d : Int} {k by' : List Int} (hc : (cnt k by' : Int) < d) : signed n k d by' = false := by
  unfold signed
  rw [decide_eq_false (by omega), Bool.and_false]
theorem signed_none {n d : Int} {k : List Int} (h : rootOk n k d = true) : signed n k d [] = false := signed_few (by obtain ⟨_, _, hd, _⟩ := rootOk_get h; rw [cnt_nil]; omega)

theorem signed_mk {n d : Int} {k by' : List Int} (h : rootOk n k d = true) (hb : keysOk by' = true) : signed n k d by' = decide (d ≤ (cnt k by' : Int)) := by unfold signed; rw [h, hb]; rfl
theorem signed_get {n d : Int} {k by' : List Int} (h : signed n k d by' = true) : rootOk n k d = true ∧ keysOk by' = true ∧ d ≤ (cnt k by' : Int) := by
  unfold signed at h
  rw [Bool.and_eq_true, Bool.and_eq_true] at h
  exact ⟨h.1.1, h.1.2, of_decide_eq_true h.2⟩
theorem next_get {n d n2 d2 : Int} {k k2 by' : List Int} (h : next n k d n2 k2 d2 by' = true) : signed n k d by' = true ∧ signed n2 k2 d2 by' = true ∧ n2 = n + 1 := by
  unfold next at h
  rw [Bool.and_eq_true, Bool.and_eq_true] at h
  exact ⟨h.1.1, h.1.2, of_decide_eq_true h.2⟩
theorem next_num {n d n2 d2 : Int} {k k2 by' : List Int} (h : n2 ≠ n + 1) : next n k d n2 k2 d2 by' = false := by unfold next; rw [decide_eq_false h, Bool.and_false]
theorem next_few {n d n2 d2 : Int} {k k2 by' : List Int} (h : signed n k d by' = false) : next n k d n2 k2 d2 by' = false := by unfold next; rw [h]; rfl
/-- Signed by the keys of the one ahead alone, and by its own alone. -/
theorem next_old {n d n2 d2 : Int} {k k2 by' : List Int} (h : next n k d n2 k2 d2 by' = true) : next n k d n2 k2 d2 k = decide (d2 ≤ (cnt k k2 : Int)) := by
  obtain ⟨h1, h2, h3⟩ := next_get h
  obtain ⟨r1, _, _⟩ := signed_get h1
  obtain ⟨r2, _, _⟩ := signed_get h2
  obtain ⟨_, k1, _⟩ := rootOk_get r1
  obtain ⟨_, k2', _⟩ := rootOk_get r2
  unfold next
  rw [signed_own r1, signed_mk r2 k1, decide_eq_true h3, cnt_comm k2' k1]
  simp
theorem next_own {n d n2 d2 : Int} {k k2 by' : List Int} (h : next n k d n2 k2 d2 by' = true) : next n k d n2 k2 d2 k2 = decide (d ≤ (cnt k k2 : Int)) := by
  obtain ⟨h1, h2, h3⟩ := next_get h
  obtain ⟨r1, _, _⟩ := signed_get h1
  obtain ⟨r2, _, _⟩ := signed_get h2
  obtain ⟨_, k2', _⟩ := rootOk_get r2
  unfold next
  rw [signed_own r2, signed_mk r1 k2', decide_eq_true h3]
  simp

/-- Keys without the one at a place. -/
def without (k : List Int) (i : Nat) : List Int := k.take i ++ k.drop (i + 1)
theorem without_len {k : List Int} {i : Nat} (hi : i < k.length) : (without k i).length = k.length - 1 := by unfold without; rw [List.length_append, List.length_take, List.length_drop]; omega
theorem without_ok {k : List Int} {i : Nat} (h : keysOk k = true) (hi : i < k.length) : keysOk (without k i) = true := by
  have h6 := ok_len h
  exact List.all_eq_true.1 (ok_all (p := fun k => (List.range 6).all fun i => keysOk (without k i)) (by decide +kernel) h) i (List.mem_range.2 (by omega))
theorem twice_bad {k : List Int} {i : Nat} (h : keysOk k = true) (hi : i < k.length) : keysOk (k ++ [nth k i]) = false := by
  have h6 := ok_len h
  have := List.all_eq_true.1 (ok_all (p := fun k => (List.range 6).all fun i => !decide (i < k.length) || !keysOk (k ++ [nth k i])) (by decide +kernel) h) i (List.mem_range.2 (by omega))
  simpa [hi] using this
theorem root_less {n d : Int} {k : List Int} {i : Nat} (h : rootOk n k d = true) (hi : i < k.length) : rootOk n (without k i) d = decide (d < (k.length : Int)) := by
  obtain ⟨hn, hk, d0, d1⟩ := rootOk_get h
  rw [Bool.eq_iff_iff]
  constructor
  · intro h'
    obtain ⟨_, _, _, d2⟩ := rootOk_get h'
    rw [without_len hi] at d2
    exact decide_eq_true (by omega)
  · intro h'
    have h' := of_decide_eq_true h'
    exact rootOk_mk hn (without_ok hk hi) ⟨d0, by rw [without_len hi]; omega⟩
theorem root_one {n d : Int} {k : List Int} (h : rootOk n k d = true) : rootOk n k 1 = true := by
  obtain ⟨hn, hk, d0, d1⟩ := rootOk_get h
  exact rootOk_mk hn hk ⟨by omega, by omega⟩
theorem root_zero (n : Int) (k : List Int) : rootOk n k 0 = false := by
  rw [Bool.eq_false_iff]
  intro h
  obtain ⟨_, _, d0, _⟩ := rootOk_get h
  omega
theorem cnt_take {k : List Int} {m : Nat} (h : keysOk k = true) (hm : m ≤ 6) : cnt k (k.take m) ≤ m :=
  of_decide_eq_true (List.all_eq_true.1 (ok_all (p := fun k => (List.range 7).all fun m => decide (cnt k (k.take m) ≤ m)) (by decide +kernel) h) m (List.mem_range.2 (by omega)))
theorem same_next {n d : Int} {k : List Int} (h : rootOk n k d = true) : next n k d (n + 1) k d k = decide (n < 9) := by
  obtain ⟨hn, hk, d0, d1⟩ := rootOk_get h
  unfold next
  rw [signed_own h, decide_eq_true rfl, Bool.and_true, Bool.true_and, Bool.eq_iff_iff]
  constructor
  · intro h'
    obtain ⟨r, _, _⟩ := signed_get h'
    obtain ⟨h1, _⟩ := rootOk_get r
    exact decide_eq_true (by omega)
  · intro h'
    have h' := of_decide_eq_true h'
    exact signed_own (rootOk_mk ⟨by omega, by omega⟩ hk ⟨d0, d1⟩)
theorem same_few {n d : Int} {k : List Int} {m : Nat} (h : rootOk n k d = true) (hm : (m : Int) = d - 1) : next n k d (n + 1) k d (k.take m) = false := by
  obtain ⟨hn, hk, d0, d1⟩ := rootOk_get h
  have h6 := ok_len hk
  exact next_few (signed_few (by have := cnt_take (m := m) hk (by omega); omega))

/-- The keys from 1 to k. -/
def upTo (k : Nat) : List Int := (List.range k).map fun (j : Nat) => (j : Int) + 1
theorem upTo_succ (k : Nat) : upTo (k + 1) = upTo k ++ [(k : Int) + 1] := by unfold upTo; rw [List.range_succ, List.map_append]; rfl
/-- Those that sign, and one more; those that sign, without one. -/
def plus (b : List Int) (key : Int) (k : Nat) : List Int := (upTo k).filter fun n => isIn b n || n == key
def less (b : List Int) (key : Int) (k : Nat) : List Int := (upTo k).filter fun n => isIn b n && n != key
theorem plus_succ (b : List Int) (key : Int) (k : Nat) : plus b key (k + 1) = plus b key k ++ (if (isIn b ((k : Int) + 1) || ((k : Int) + 1) == key) then [(k : Int) + 1] else []) := by
  unfold plus
  rw [upTo_succ, List.filter_append]
  congr 1
  simp only [List.filter_cons, List.filter_nil]
theorem less_succ (b : List Int) (key : Int) (k : Nat) : less b key (k + 1) = less b key k ++ (if (isIn b ((k : Int) + 1) && ((k : Int) + 1) != key) then [(k : Int) + 1] else []) := by
  unfold less
  rw [upTo_succ, List.filter_append]
  congr 1
  simp only [List.filter_cons, List.filter_nil]
theorem upTo_len (k : Nat) : (upTo k).length = k := by simp [upTo]
theorem plus_len (b : List Int) (key : Int) (k : Nat) : (plus b key k).length ≤ k := Nat.le_trans (List.length_filter_le _ _) (Nat.le_of_eq (upTo_len k))
theorem less_len (b : List Int) (key : Int) (k : Nat) : (less b key k).length ≤ k := Nat.le_trans (List.length_filter_le _ _) (Nat.le_of_eq (upTo_len k))
theorem plus_ok {b : List Int} {key : Int} (h : keysOk b = true) (h0 : 1 ≤ key) (h1 : key ≤ 6) : keysOk (plus b key 6) = true ∧ keysOk (less b key 6) = true ∧ ∀ x ∈ b, x ∈ plus b key 6 := by
  have := List.all_eq_true.1 (ok_all (p := fun b => (upTo 6).all fun key => keysOk (plus b key 6) && keysOk (less b key 6) && b.all fun x => decide (x ∈ plus b key 6)) (by decide +kernel) h) key (by
    have : key = 1 ∨ key = 2 ∨ key = 3 ∨ key = 4 ∨ key = 5 ∨ key = 6 := by omega
    rcases this with rfl | rfl | rfl | rfl | rfl | rfl <;> decide)
  rw [Bool.and_eq_true, Bool.and_eq_true, List.all_eq_true] at this
  exact ⟨this.1.1, this.1.2, fun x hx => of_decide_eq_true (this.2 x hx)⟩
theorem has_is {b : List Int} {k : Nat} (h : keysOk b = true) (hk : k < 6) : ((cnt b [(k : Int) + 1] : Int) == 1) = isIn b ((k : Int) + 1) :=
  of_decide_eq_true (List.all_eq_true.1 (ok_all (p := fun b => (List.range 6).all fun (k : Nat) => decide (((cnt b [(k : Int) + 1] : Int) == 1) = isIn b ((k : Int) + 1))) (by decide +kernel) h) k (List.mem_range.2 hk))
theorem signed_plus {n d key : Int} {k b : List Int} (h : signed n k d b = true) (h0 : 1 ≤ key) (h1 : key ≤ 6) : signed n k d (plus b key 6) = true := by
  obtain ⟨r, hb, hc⟩ := signed_get h
  obtain ⟨p1, _, p3⟩ := plus_ok hb h0 h1
  rw [signed_mk r p1]
  have := cnt_mono (a := k) p3
  exact decide_eq_true (by omega)
theorem all_ok : keysOk (upTo 6) = true := by decide +kernel
theorem all_both {a : List Int} (h : keysOk a = true) : kboth (upTo 6) a = (a.length : Int) := by
  rw [kboth_ok all_ok h, cnt_comm all_ok h]
  have := of_decide_eq_true (ok_all (p := fun a => decide (cnt a (upTo 6) = a.length)) (by decide +kernel) h)
  rw [this]
theorem nine_bad (a : List Int) : kboth a (upTo 6 ++ [9]) = -1 := kboth_bad (by rw [show keysOk (upTo 6 ++ [9]) = false by decide +kernel, Bool.and_false])
theorem nil_both {a : List Int} (h : keysOk a = true) : kboth a [] = 0 := by rw [kboth_ok h rfl, cnt_nil]; rfl
end Go.Proofs.YtlnieobmhofkdaaGreat.Ky
namespace Go.Proofs.YtlnieobmhofkdaaGreat.Tr
open Pk

/-- Nothing of an index. -/
def noIdx (num til : Int) (ms : List Ix.M) : Bool := decide (num = 0) && (decide (til = 0) && decide (ms.length = 0))
def ok (n : Int) (ks : List Int) (d : Int) (has : Bool) (num til : Int) (ms : List Ix.M) : Bool := Ky.rootOk n ks d && (if has = true then Ix.idxOk num til ms else noIdx num til ms)
def fresh (n : Int) (ks : List Int) (d : Int) (has : Bool) (num til : Int) (ms : List Ix.M) (now : Int) : Bool := ok n ks d has num til ms && (has && inB now 0 til)
/-- An index may be taken. -/
def takes (n : Int) (ks : List Int) (d : Int) (has : Bool) (num : Int) (num' til' : Int) (ms' : List Ix.M) (by' : List Int) (now : Int) : Bool :=
  Ix.idxOk num' til' ms' && (Ky.signed n ks d by' && (inB now 0 til' && (!has || decide (num < num'))))
end Go.Proofs.YtlnieobmhofkdaaGreat.Tr
namespace Go.Proofs.YtlnieobmhofkdaaGreat.Tr
open Pk

/-- Trust. -/
structure T where
  n : Int
  ks : List Int
  d : Int
  has : Bool
  num : Int
  til : Int
  ms : List Ix.M
def T.ok (t : T) : Bool := Tr.ok t.n t.ks t.d t.has t.num t.til t.ms
def T.fresh (t : T) (now : Int) : Bool := Tr.fresh t.n t.ks t.d t.has t.num t.til t.ms now
def T.none : T := ⟨0, [], 0, false, 0, 0, []⟩
/-- Trust in a root alone. -/
def new (n : Int) (ks : List Int) (d : Int) : T × Bool := if Ky.rootOk n ks d = true then (⟨n, ks, d, false, 0, 0, []⟩, true) else (T.none, false)
/-- Another root. -/
def root (t : T) (n : Int) (ks : List Int) (d : Int) (by' : List Int) : T × Bool :=
  if t.ok = true then (if Ky.next t.n t.ks t.d n ks d by' = true then ({ t with n := n, ks := ks, d := d }, true) else (t, false)) else (T.none, false)
/-- Another index. -/
def index (t : T) (num til : Int) (ms : List Ix.M) (by' : List Int) (now : Int) : T × Bool :=
  if t.ok && inB now 0 60 = true then (if takes t.n t.ks t.d t.has t.num num til ms by' now = true then ({ t with has := true, num := num, til := til, ms := ms }, true) else (t, false)) else (T.none, false)
end Go.Proofs.YtlnieobmhofkdaaGreat.Tr
namespace Go.Proofs.YtlnieobmhofkdaaGreat.Tr
open Pk

theorem index_len {t : T} {num til now : Int} {ms : List Ix.M} {by' : List Int} (h1 : t.ks.length ≤ 7) (h2 : t.ms.length ≤ 9) (h3 : ms.length ≤ 9) : (index t num til ms by' now).1.ks.length ≤ 7 ∧ (index t num til ms by' now).1.ms.length ≤ 9 := by
  unfold index
  split
  · split
    · exact ⟨h1, h3⟩
    · exact ⟨h1, h2⟩
  · exact ⟨Nat.zero_le _, Nat.zero_le _⟩
/-- The three ways. -/
theorem index_cases (t : T) (num til now : Int) (ms : List Ix.M) (by' : List Int) : ((t.ok && inB now 0 60) = false ∧ index t num til ms by' now = (T.none, false)) ∨ (t.ok = true ∧ inB now 0 60 = true ∧ takes t.n t.ks t.d t.has t.num num til ms by' now = false ∧ index t num til ms by' now = (t, false)) ∨ (t.ok = true ∧ inB now 0 60 = true ∧ takes t.n t.ks t.d t.has t.num num til ms by' now = true ∧ index t num til ms by' now = ({ t with has := true, num := num, til := til, ms := ms }, true)) := by
  unfold index
  cases hO : t.ok
  · exact .inl ⟨rfl, rfl⟩
  · cases hB : inB now 0 60
    · exact .inl ⟨rfl, rfl⟩
    · cases hN : takes t.n t.ks t.d t.has t.num num til ms by' now
      · exact .inr (.inl ⟨rfl, rfl, rfl, rfl⟩)
      · exact .inr (.inr ⟨rfl, rfl, rfl, rfl⟩)
theorem index_not {t : T} {num til now : Int} {ms : List Ix.M} {by' : List Int} (h : takes t.n t.ks t.d t.has t.num num til ms by' now = false) : (index t num til ms by' now).2 = false := by
  unfold index
  rw [h]
  split
  · rfl
  · rfl
theorem takes_get {n d num num' til' now : Int} {ks by' : List Int} {has : Bool} {ms' : List Ix.M} (h : takes n ks d has num num' til' ms' by' now = true) :
    Ix.idxOk num' til' ms' = true ∧ Ky.signed n ks d by' = true ∧ (0 ≤ now ∧ now ≤ til') ∧ (has = true → num < num') := by
  unfold takes at h
  simp only [Bool.and_eq_true, inB_true, Bool.or_eq_true, Bool.not_eq_true', decide_eq_true_eq] at h
  refine ⟨h.1, h.2.1, h.2.2.1, fun hh => ?_⟩
  rcases h.2.2.2 with h' | h'
  · rw [hh] at h'; cases h'
  · exact h'
theorem takes_same {n d num til now : Int} {ks by' : List Int} {ms : List Ix.M} {num' : Int} (h : num ≤ num') : takes n ks d true num' num til ms by' now = false := by
  unfold takes
  rw [decide_eq_false (show ¬ num' < num by omega)]
  simp
/-- What was taken is not taken again. -/
theorem index_again {t : T} {num til now : Int} {ms : List Ix.M} {by' : List Int} : (index { t with has := true, num := num, til := til, ms := ms } num til ms by' now).2 = false := index_not (takes_same (Int.le_refl _))
/-- What was trusted is not taken again. -/
theorem index_back {t : T} {num til now now' : Int} {ms : List Ix.M} {by' by2 : List Int} (hh : t.has = true) (h : takes t.n t.ks t.d t.has t.num num til ms by' now = true) : (index { t with has := true, num := num, til := til, ms := ms } t.num t.til t.ms by2 now').2 = false := by
  have := (takes_get h).2.2.2 hh
  exact index_not (takes_same (by dsimp only; omega))
theorem index_elder {t : T} {til now : Int} {ms : List Ix.M} {by' : List Int} (hh : t.has = true) : (index t t.num til ms by' now).2 = false := by
  refine index_not ?_
  rw [hh]
  exact takes_same (Int.le_refl _)
theorem index_late {t : T} {num til now : Int} {ms : List Ix.M} {by' : List Int} (h : til < now) : (index t num til ms by' now).2 = false := by
  refine index_not ?_
  unfold takes
  rw [inB_false.2 (by omega)]
  simp
theorem index_last {t : T} {num til now : Int} {ms : List Ix.M} {by' : List Int} (ho : t.ok = true) (h : takes t.n t.ks t.d t.has t.num num til ms by' now = true) : (index t num til ms by' til).2 = true := by
  obtain ⟨h1, h2, h3, h4⟩ := takes_get h
  have ht : inB til 0 60 = true := by
    unfold Ix.idxOk at h1
    simp only [Bool.and_eq_true] at h1
    exact h1.1.1.2
  have hT : takes t.n t.ks t.d t.has t.num num til ms by' til = true := by
    unfold takes at h ⊢
    simp only [Bool.and_eq_true] at h ⊢
    exact ⟨h.1, h.2.1, inB_true.2 (by omega), h.2.2.2⟩
  unfold index
  rw [ho, ht, hT]
  rfl
theorem T.ok_root {t : T} (h : t.ok = true) : Ky.rootOk t.n t.ks t.d = true := by
  unfold T.ok Tr.ok at h
  rw [Bool.and_eq_true] at h
  exact h.1
theorem index_fresh {t : T} {num til now : Int} {ms : List Ix.M} {by' : List Int} (ho : t.ok = true) (h : takes t.n t.ks t.d t.has t.num num til ms by' now = true) : Tr.fresh t.n t.ks t.d true num til ms now = true := by
  obtain ⟨h1, h2, h3, h4⟩ := takes_get h
  unfold Tr.fresh Tr.ok
  rw [T.ok_root ho, if_pos rfl, h1, inB_true.2 h3]
  rfl
theorem few_signed {n d : Int} {ks : List Int} {m : Nat} (h : Ky.rootOk n ks d = true) (hm : (m : Int) = d - 1) : Ky.signed n ks d (ks.take m) = false := by
  obtain ⟨_, h2, h3, h4⟩ := Ky.rootOk_get h
  have hl := Ky.ok_len h2
  have := Ky.cnt_take (m := m) h2 (by omega)
  exact Ky.signed_few (by omega)
theorem index_few {t : T} {num til now : Int} {ms : List Ix.M} {m : Nat} (ho : t.ok = true) (hb : inB now 0 60 = true) (hm : (m : Int) = t.d - 1) : index t num til ms (t.ks.take m) now = (t, false) := by
  have h := few_signed (T.ok_root ho) hm
  unfold index takes
  rw [ho, hb, h]
  simp
theorem root_few {t : T} {n d : Int} {ks : List Int} {m : Nat} (ho : t.ok = true) (hm : (m : Int) = t.d - 1) : root t n ks d (t.ks.take m) = (t, false) := by
  have h := few_signed (T.ok_root ho) hm
  unfold root
  rw [ho, Ky.next_few h]
  rfl
/-- The next root, of the same keys, is taken. -/
theorem root_own {t : T} {d : Int} (ho : t.ok = true) (hn : t.n ≠ 9) (hd : 1 ≤ d ∧ d ≤ (t.ks.length : Int)) : root t (t.n + 1) t.ks d t.ks = ({ t with n := t.n + 1, d := d }, true) ∧ T.ok { t with n := t.n + 1, d := d } = true ∧ Ky.rootOk (t.n + 1) t.ks d = true := by
  have hr := T.ok_root ho
  obtain ⟨h1, h2, h3⟩ := Ky.rootOk_get hr
  have hr2 : Ky.rootOk (t.n + 1) t.ks d = true := Ky.rootOk_mk (by omega) h2 hd
  have hx : Ky.next t.n t.ks t.d (t.n + 1) t.ks d t.ks = true := by
    unfold Ky.next
    rw [Ky.signed_own hr, Ky.signed_own hr2, decide_eq_true rfl]
    rfl
  refine ⟨?_, ?_, hr2⟩
  · unfold root
    rw [ho, hx]
    rfl
  · unfold T.ok Tr.ok at ho ⊢
    rw [Bool.and_eq_true] at ho
    dsimp only
    rw [hr2, ho.2]
    rfl
theorem taken_ok {t : T} {num til now : Int} {ms : List Ix.M} {by' : List Int} (ho : t.ok = true) (h : takes t.n t.ks t.d t.has t.num num til ms by' now = true) : T.ok { t with has := true, num := num, til := til, ms := ms } = true := by
  unfold T.ok Tr.ok
  dsimp only
  rw [T.ok_root ho, if_pos rfl, (takes_get h).1]
  rfl
/-- The index behind the root. -/
theorem index_apart {t : T} {num til now d : Int} {ms : List Ix.M} {by' : List Int} (hb : inB now 0 60 = true) (h : takes t.n t.ks t.d t.has t.num num til ms by' now = true) (ho : T.ok { t with n := t.n + 1, d := d } = true) :
    index { t with n := t.n + 1, d := d } num til ms by' now = if Ky.signed (t.n + 1) t.ks d by' = true then ({ t with n := t.n + 1, d := d, has := true, num := num, til := til, ms := ms }, true) else ({ t with n := t.n + 1, d := d }, false) := by
  unfold index
  rw [ho, hb]
  have : takes (t.n + 1) t.ks d t.has t.num num til ms by' now = Ky.signed (t.n + 1) t.ks d by' := by
    unfold takes at h ⊢
    simp only [Bool.and_eq_true] at h
    rw [h.1, h.2.2.1, h.2.2.2]
    simp
  dsimp only
  rw [this]
  rfl
end Go.Proofs.YtlnieobmhofkdaaGreat.Tr
