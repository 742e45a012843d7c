/- The text of an index, as plain data; no condition. -/
import Derived.Test.YtnoghnkhfgiloaaDoorMathW
namespace Go.Proofs.YtnoghnkhfgiloaaDoor.Ix
open Pk

/-- A number in decimals. -/
def dec (n : Nat) : List UInt8 := if n < 10 then [b8 (48 + (n : Int))] else dec (n / 10) ++ [b8 (48 + ((n % 10 : Nat) : Int))]
termination_by n
decreasing_by omega
theorem dec_small {n : Nat} (h : n < 10) : dec n = [b8 (48 + (n : Int))] := by rw [dec, if_pos h]
theorem dec_more {n : Nat} (h : ¬ n < 10) : dec n = dec (n / 10) ++ [b8 (48 + ((n % 10 : Nat) : Int))] := by rw [dec, if_neg h]
theorem dec_len1 {n : Nat} (h : n < 10) : (dec n).length = 1 := by rw [dec_small h]; rfl
theorem dec_len2 {n : Nat} (h : n < 100) : (dec n).length ≤ 2 := by
  by_cases h1 : n < 10
  · rw [dec_len1 h1]; omega
  · rw [dec_more h1, List.length_append, dec_len1 (by omega)]; simp
theorem dec_len3 {n : Nat} (h : n < 1000) : (dec n).length ≤ 3 := by
  by_cases h1 : n < 10
  · rw [dec_len1 h1]; omega
  · have := dec_len2 (n := n / 10) (by omega)
    rw [dec_more h1, List.length_append]; simp; omega
theorem dec_len4 {n : Nat} (h : n < 10000) : (dec n).length ≤ 4 := by
  by_cases h1 : n < 10
  · rw [dec_len1 h1]; omega
  · have := dec_len3 (n := n / 10) (by omega)
    rw [dec_more h1, List.length_append]; simp; omega
theorem dec_len6 {n : Nat} (h : n < 1000000) : (dec n).length ≤ 6 := by
  by_cases h1 : n < 100
  · have := dec_len2 h1; omega
  · have := dec_len4 (n := n / 10 / 10) (by omega)
    rw [dec_more (by omega : ¬ n < 10), dec_more (by omega : ¬ n / 10 < 10), List.length_append, List.length_append]; simp; omega

def metaT (x : M) : List UInt8 := nameT x.1 x.2.1 ++ [32] ++ dec x.2.2.toNat ++ [10]
def headT (num til : Int) : List UInt8 := dec num.toNat ++ [32] ++ dec til.toNat ++ [10]
def textOk (num til : Int) (l : List M) : List UInt8 := headT num til ++ l.flatMap metaT
def text (num til : Int) (l : List M) : List UInt8 := if idxOk num til l = true then textOk num til l else []
theorem text_bad {num til : Int} {l : List M} (h : idxOk num til l = false) : text num til l = [] := by unfold text; rw [h]; rfl
theorem text_ok {num til : Int} {l : List M} (h : idxOk num til l = true) : text num til l = headT num til ++ l.flatMap metaT := by unfold text; rw [h]; rfl

theorem idxOk_get {num til : Int} {l : List M} (h : idxOk num til l = true) : (1 ≤ num ∧ num ≤ 30) ∧ (0 ≤ til ∧ til ≤ 60) ∧ l.length ≤ 8 ∧ metasOk l = true := by
  unfold idxOk at h
  rw [Bool.and_eq_true, Bool.and_eq_true, Bool.and_eq_true, inB_true, inB_true] at h
  exact ⟨h.1.1.1, h.1.1.2, of_decide_eq_true h.1.2, h.2⟩
theorem mOk_get {n v s : Int} (h : mOk n v s = true) : (1 ≤ n ∧ n ≤ 4) ∧ (1 ≤ v ∧ v ≤ 5) ∧ (0 ≤ s ∧ s ≤ 9972) := by
  unfold mOk at h
  rw [Bool.and_eq_true, Bool.and_eq_true, inB_true, inB_true, inB_true] at h
  exact ⟨h.1.1, h.1.2, h.2⟩
theorem good_mOk {l : List M} {i : Nat} (h : good l i = true) : mOk (nm l i) (vr l i) (sm l i) = true := by
  unfold good at h
  rw [Bool.and_eq_true] at h
  exact h.1
theorem metaT_len {x : M} (h : x.2.2.toNat < 10000) : (metaT x).length ≤ 8 := by
  have := dec_len4 h
  unfold metaT nameT
  simp only [List.length_append, List.length_cons, List.length_nil]; omega
theorem headT_len {num til : Int} (h1 : num.toNat < 100) (h2 : til.toNat < 100) : (headT num til).length ≤ 6 := by
  have := dec_len2 h1
  have := dec_len2 h2
  unfold headT
  simp only [List.length_append, List.length_cons, List.length_nil]; omega
theorem flat_le (l : List M) (h : ∀ x ∈ l, x.2.2.toNat < 10000) : (l.flatMap metaT).length ≤ 8 * l.length := by
  induction l with
  | nil => simp
  | cons a t ih =>
    have h1 := metaT_len (h a (by simp))
    have h2 := ih (fun x hx => h x (by simp [hx]))
    rw [List.flatMap_cons, List.length_append, List.length_cons]; omega
theorem nm_mem {l : List M} {P : Int → Int → Int → Prop} (h : ∀ i, i < l.length → P (nm l i) (vr l i) (sm l i)) : ∀ x ∈ l, P x.1 x.2.1 x.2.2 := by
  intro x hx
  obtain ⟨i, hi, rfl⟩ := List.mem_iff_getElem.1 hx
  have := h i hi
  unfold nm vr sm at this
  rw [List.getD_eq_getElem?_getD, List.getElem?_eq_getElem hi] at this
  exact this
theorem ok_mem {l : List M} (h : metasOk l = true) : ∀ x ∈ l, (1 ≤ x.1 ∧ x.1 ≤ 4) ∧ (1 ≤ x.2.1 ∧ x.2.1 ≤ 5) ∧ (0 ≤ x.2.2 ∧ x.2.2 ≤ 9972) :=
  nm_mem (P := fun a b c => (1 ≤ a ∧ a ≤ 4) ∧ (1 ≤ b ∧ b ≤ 5) ∧ (0 ≤ c ∧ c ≤ 9972)) fun i hi => mOk_get (good_mOk (metasOk_at h i hi))
theorem take_flatM (l : List M) (k : Nat) (h : k < l.length) : (l.take (k + 1)).flatMap metaT = (l.take k).flatMap metaT ++ metaT (nm l k, vr l k, sm l k) := by
  rw [List.take_add_one, List.getElem?_eq_getElem h, Option.toList_some, List.flatMap_append, List.flatMap_cons, List.flatMap_nil, List.append_nil]
  unfold nm vr sm
  rw [List.getD_eq_getElem?_getD, List.getElem?_eq_getElem h]
  rfl
end Go.Proofs.YtnoghnkhfgiloaaDoor.Ix
