import Derived.Test.YtoccijcngncghaaGreatDoorMix4
import Derived.Test.YtoccijcngncghaaGreatDoorMix1
import Derived.WalkLawsBesides
import Derived.Deep.RegionWith
import Derived.Deep.DrawnRows
import Derived.Deep.RegionHeld3
import Derived.Deep.AppendLies
/- What is to be in, as plain data: when nothing is wrong. -/
namespace Go.Proofs.YtoccijcngncghaaGreatDoor.Ix
open Pk

theorem flat_nil {α β : Type} {f : α → List β} {s : List α} : s.flatMap f = [] ↔ ∀ x ∈ s, f x = [] := by rw [List.flatMap_eq_nil_iff]
theorem linesAt_nil {l : List Pg} {i : Nat} : linesAt l i = [] ↔ besideL l i = [] ∧ (∀ d ∈ (pg l i).2.2.2, lackL l (pg l i) d = []) ∧ ∀ f ∈ (pg l i).2.2.1, placeL l i (pg l i) f = [] := by
  unfold linesAt
  rw [List.append_eq_nil_iff, List.append_eq_nil_iff, flat_nil, flat_nil, and_assoc]
theorem planOk_false {l : List Pg} {i : Nat} (hi : i < l.length) (h : linesAt l i ≠ []) : planOk l = false := by
  unfold planOk lines linesTo
  rw [decide_eq_false (fun h0 => h (flat_nil.1 (List.eq_nil_of_length_eq_zero h0) i (List.mem_range.2 hi))), Bool.and_false]
theorem planOk_true {l : List Pg} (hk : pkgsOk l = true) (h : ∀ i, i < l.length → linesAt l i = []) : planOk l = true := by
  unfold planOk lines linesTo
  rw [hk, flat_nil.2 (fun i hi => h i (List.mem_range.1 hi))]
  rfl
theorem planOk_pkgs {l : List Pg} (h : planOk l = true) : pkgsOk l = true := by unfold planOk at h; rw [Bool.and_eq_true] at h; exact h.1
theorem planOk_bad {l : List Pg} (h : pkgsOk l = false) : planOk l = false := by unfold planOk; rw [h]; rfl
theorem lackL_nil {l : List Pg} {p : Pg} {d : Int × Int} : lackL l p d = [] ↔ (met l d).isSome = true := by
  unfold lackL
  cases met l d <;> simp
theorem placeL_nil {l : List Pg} {i : Nat} {p : Pg} {f : Int × Int} : placeL l i p f = [] ↔ owner l i f.1 = none := by
  unfold placeL
  cases owner l i f.1 <;> simp
theorem besideL_nil {l : List Pg} {i : Nat} (hk : pkgsOk l = true) (hi : i < l.length) : besideL l i = [] ↔ (i = 0 ∨ (pg l (i - 1)).1 < (pg l i).1) := by
  unfold besideL
  rcases Nat.eq_zero_or_pos i with h0 | hp
  · subst h0
    simp
  · obtain ⟨m, rfl⟩ : ∃ m, i = m + 1 := ⟨i - 1, by omega⟩
    have := pkgs_less hk hi
    unfold less at this
    simp only [Bool.or_eq_true, Bool.and_eq_true, decide_eq_true_eq] at this
    rw [Nat.add_sub_cancel]
    constructor
    · intro h
      right
      by_cases e : (pg l m).1 = (pg l (m + 1)).1
      · rw [if_pos ⟨by omega, e⟩] at h; cases h
      · omega
    · rintro (h | h)
      · omega
      · rw [if_neg (fun e => by omega)]
/-- The place of a pair in a row. -/
theorem pair_mem {s : List (Int × Int)} {k : Nat} (hk : k < s.length) : (Pk.fst s k, Pk.snd s k) ∈ s ∧ s[k]? = some (Pk.fst s k, Pk.snd s k) := by
  have e : s[k]? = some (Pk.fst s k, Pk.snd s k) := by rw [List.getElem?_eq_getElem hk]; simp [Pk.fst, Pk.snd, hk]
  exact ⟨List.mem_of_getElem? e, e⟩
theorem mem_pair {s : List (Int × Int)} {x : Int × Int} (h : x ∈ s) : ∃ k, k < s.length ∧ x = (Pk.fst s k, Pk.snd s k) := by
  obtain ⟨k, hk, e⟩ := List.getElem_of_mem h
  refine ⟨k, hk, ?_⟩
  have := (pair_mem hk).2
  rw [List.getElem?_eq_getElem hk] at this
  rw [← e]
  exact Option.some.inj this
theorem hasAt_no {p : Pg} {path : Int} (h : ∀ k, k < p.2.2.1.length → Pk.fst p.2.2.1 k ≠ path) : hasAt path p = false := by
  unfold hasAt
  rw [List.any_eq_false]
  intro x hx
  obtain ⟨k, hk, e⟩ := mem_pair hx
  rw [e]
  simpa using h k hk
theorem hasAt_yes {p : Pg} {path : Int} {k : Nat} (hk : k < p.2.2.1.length) (h : Pk.fst p.2.2.1 k = path) : hasAt path p = true := by
  unfold hasAt
  rw [List.any_eq_true]
  exact ⟨_, (pair_mem hk).1, by simpa using h⟩
/-- The first that is so. -/
theorem find_at {l : List Pg} {q : Pg → Bool} {i : Nat} (hi : i < l.length) (hq : q (pg l i) = true) (hno : ∀ j, j < i → q (pg l j) = false) : l.find? q = some (pg l i) := by
  rw [List.find?_eq_some_iff_getElem]
  have e : ∀ j (hj : j < l.length), l[j] = pg l j := fun j hj => by unfold pg; rw [List.getD_eq_getElem?_getD, List.getElem?_eq_getElem hj]; rfl
  refine ⟨hq, i, hi, e i hi, fun j hj => ?_⟩
  rw [e j (by omega), hno j hj]
  rfl
theorem find_no {l : List Pg} {q : Pg → Bool} (hno : ∀ j, j < l.length → q (pg l j) = false) : l.find? q = none := by
  rw [List.find?_eq_none]
  intro p hp
  obtain ⟨i, hi, e⟩ := mem_ix hp
  rw [← e, hno i hi]
  simp
theorem take_pgk {l : List Pg} {i j : Nat} (hj : j < i) : pg (l.take i) j = pg l j := by
  unfold pg
  rw [List.getD_eq_getElem?_getD, List.getD_eq_getElem?_getD, List.getElem?_take_of_lt hj]
theorem owner_at {l : List Pg} {i n : Nat} {path : Int} (hi : i ≤ l.length) (hn : n < i) (h : hasAt path (pg l n) = true) (hno : ∀ j, j < n → hasAt path (pg l j) = false) : owner l i path = some (pg l n) := by
  unfold owner
  rw [← take_pgk hn]
  refine find_at (by rw [List.length_take]; omega) (by rw [take_pgk hn]; exact h) (fun j hj => by rw [take_pgk (by omega)]; exact hno j hj)
theorem owner_no {l : List Pg} {i : Nat} {path : Int} (hi : i ≤ l.length) (hno : ∀ j, j < i → hasAt path (pg l j) = false) : owner l i path = none := by
  unfold owner
  refine find_no (fun j hj => ?_)
  rw [List.length_take] at hj
  rw [take_pgk (by omega)]
  exact hno j (by omega)
end Go.Proofs.YtoccijcngncghaaGreatDoor.Ix

/- What spec.PkgText returns: the text of the package, or nothing; for every package; nothing old is written. -/
namespace Go.Proofs.YtoccijcngncghaaGreatDoor
open Go.RowKit

theorem b8_toNat {n : Int} (h0 : 0 ≤ n) (h1 : n < 256) : ((Pk.b8 n).toNat : Int) = n := by
  unfold Pk.b8
  rw [UInt8.toNat_ofNat']
  omega

/-- A row of one byte as a text. -/
theorem conv_one (w : World) (b : Nat) (n : Int) (c : Nat) (h0 : 0 ≤ n) (h1 : n < 256) (hc : w.cell? ⟨b, 0, none⟩ = some (.int .u8 n)) :
    (convert 22 9 (.slice (some ⟨b, 0, none⟩) 1 c)).run Tryz.prog w = .ok (.string ⟨#[Pk.b8 n]⟩) w := by
  have := run_convert_bytes_back (P := Tryz.prog) w 22 9 5 ⟨b, 0, none⟩ c [Pk.b8 n] Tryz.underlying22 Tryz.underlying5 Tryz.underlying9 (fun j hj => by
    obtain rfl : j = 0 := by simpa using hj
    have e : (⟨b, 0, none⟩ : Addr).add 0 = ⟨b, 0, none⟩ := rfl
    rw [e, hc]
    simp only [List.getElem_cons_zero]
    rw [b8_toNat h0 h1])
  exact this

attribute [local go_sem ↓] Go.wp_at_zero Go.wp_at_succ
theorem app_data (a b : List UInt8) : (⟨a.toArray⟩ ++ ⟨b.toArray⟩ : ByteArray) = ⟨(a ++ b).toArray⟩ := by
  apply ByteArray.ext
  simp
theorem name_eq (nm vr : Int) : (⟨#[Pk.b8 (97 + nm - 1)]⟩ ++ ⟨#[Pk.b8 (48 + vr)]⟩ : ByteArray) = ⟨(Pk.nameT nm vr).toArray⟩ := by
  rw [show 97 + nm - 1 = 96 + nm from by omega]
  exact app_data [Pk.b8 (96 + nm)] [Pk.b8 (48 + vr)]
theorem ret_str {a b : ByteArray} (h : a = b) : Ending.returned (.string a) = .returned (.string b) := by rw [h]

theorem text_bad {nm vr : Int} {fs ds : List (Int × Int)} (h : Pk.pkgOk nm vr fs ds = false) : Pk.text nm vr fs ds = [] := by unfold Pk.text; rw [h]; rfl

theorem take_flat (f : Int × Int → List UInt8) (l : List (Int × Int)) (k : Nat) (h : k < l.length) : (l.take (k + 1)).flatMap f = (l.take k).flatMap f ++ f (Pk.fst l k, Pk.snd l k) := by
  rw [List.take_succ_eq_append_getElem h, List.flatMap_append]
  simp [Pk.fst, Pk.snd, h]

theorem flat_len (f : Int × Int → List UInt8) (c : Nat) (hf : ∀ x, (f x).length = c) : ∀ l : List (Int × Int), (l.flatMap f).length = c * l.length
  | [] => rfl
  | x :: l => by rw [List.flatMap_cons, List.length_append, hf, flat_len f c hf l, List.length_cons, Nat.mul_succ, Nat.add_comm]
theorem file_len (nm vr : Int) (fs : List (Int × Int)) (k : Nat) : (Pk.nameT nm vr ++ (fs.take k).flatMap Pk.fileT).length ≤ 2 + 4 * k := by
  rw [List.length_append, flat_len Pk.fileT 4 (fun _ => rfl)]
  have : (fs.take k).length ≤ k := List.length_take_le _ _
  simp only [Pk.nameT, List.length_cons, List.length_nil]
  omega
theorem dep_len (a : List UInt8) (ds : List (Int × Int)) (k : Nat) : (a ++ (ds.take k).flatMap Pk.depT).length ≤ a.length + 3 * k := by
  rw [List.length_append, flat_len Pk.depT 3 (fun _ => rfl)]
  have : (ds.take k).length ≤ k := List.length_take_le _ _
  omega

theorem text_ok {nm vr : Int} {fs ds : List (Int × Int)} (h : Pk.pkgOk nm vr fs ds = true) : Pk.text nm vr fs ds = Pk.nameT nm vr ++ fs.flatMap Pk.fileT ++ ds.flatMap Pk.depT := by unfold Pk.text; rw [h]; rfl
theorem ret_val {a b : ByteArray} (h : a = b) : Value.string a = .string b := by rw [h]
theorem app_more (a b : List UInt8) : (⟨a.toArray⟩ ++ ⟨b.toArray⟩ : ByteArray) = ⟨(a ++ b).toArray⟩ := app_data a b
theorem file_more (nm vr : Int) (fs : List (Int × Int)) (k : Nat) (h : k < fs.length) {s : ByteArray} (hs : s = ⟨(Pk.nameT nm vr ++ (fs.take k).flatMap Pk.fileT).toArray⟩) :
    s ++ ⟨#[32]⟩ ++ ⟨#[Pk.b8 (48 + Pk.fst fs k)]⟩ ++ ⟨#[58]⟩ ++ ⟨#[Pk.b8 (48 + Pk.snd fs k)]⟩ = ⟨(Pk.nameT nm vr ++ (fs.take (k + 1)).flatMap Pk.fileT).toArray⟩ := by
  rw [hs, take_flat _ _ _ h]
  apply ByteArray.ext
  simp [Pk.fileT]

theorem dep_more (a : List UInt8) (ds : List (Int × Int)) (k : Nat) (h : k < ds.length) {s : ByteArray} (hs : s = ⟨(a ++ (ds.take k).flatMap Pk.depT).toArray⟩) :
    s ++ ⟨#[32]⟩ ++ ⟨(Pk.nameT (Pk.fst ds k) (Pk.snd ds k)).toArray⟩ = ⟨(a ++ (ds.take (k + 1)).flatMap Pk.depT).toArray⟩ := by
  rw [hs, take_flat _ _ _ h]
  apply ByteArray.ext
  simp [Pk.depT]

theorem pkgOk_get {nm vr : Int} {fs ds : List (Int × Int)} (h : Pk.pkgOk nm vr fs ds = true) : (1 ≤ nm ∧ nm ≤ 4) ∧ (1 ≤ vr ∧ vr ≤ 5) ∧ Pk.filesOk fs = true ∧ Pk.depsOk nm ds = true := by
  unfold Pk.pkgOk at h
  rw [Bool.and_eq_true, Bool.and_eq_true, Bool.and_eq_true, Pk.inB_true, Pk.inB_true] at h
  exact ⟨h.1.1.1, h.1.1.2, h.1.2, h.2⟩

end Go.Proofs.YtoccijcngncghaaGreatDoor
