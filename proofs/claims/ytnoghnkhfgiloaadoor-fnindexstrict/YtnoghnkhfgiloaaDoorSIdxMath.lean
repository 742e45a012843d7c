/- How spec reads a text of an index, as plain data. -/
import Derived.Test.YtnoghnkhfgiloaaDoorIdxReadMath
namespace Go.Proofs.YtnoghnkhfgiloaaDoor.Ix
open Pk

/-- A number of one to four figures; -1, if it is none. -/
def digit (c : UInt8) : Bool := decide (48 ≤ c.toNat) && decide (c.toNat ≤ 57)
def valF (l : List UInt8) : Nat := l.foldl (fun n c => 10 * n + (c.toNat - 48)) 0
def l3dec (l : List UInt8) : Int := if (1 ≤ l.length ∧ l.length ≤ 4) ∧ l.all digit = true then (valF l : Int) else -1
theorem valF_snoc (l : List UInt8) (c : UInt8) : valF (l ++ [c]) = 10 * valF l + (c.toNat - 48) := by unfold valF; rw [List.foldl_append]; rfl
theorem valF_lt : ∀ (l : List UInt8), l.all digit = true → valF l < 10 ^ l.length := by
  intro l
  induction hl : l.length generalizing l with
  | zero => intro _; rw [List.length_eq_zero_iff.1 hl]; decide
  | succ n ih =>
    intro hd
    obtain ⟨a, c, rfl⟩ : ∃ a c, l = a ++ [c] := by
      rcases List.eq_nil_or_concat l with h | ⟨a, c, h⟩
      · rw [h] at hl; cases hl
      · exact ⟨a, c, by rw [h, List.concat_eq_append]⟩
    rw [List.all_append, Bool.and_eq_true] at hd
    have h1 := ih a (by rw [List.length_append] at hl; simpa using hl) hd.1
    have h2 : digit c = true := by simpa using hd.2
    unfold digit at h2
    rw [Bool.and_eq_true] at h2
    have h3 := of_decide_eq_true h2.2
    rw [valF_snoc, Nat.pow_succ]
    omega
theorem dec_val : ∀ n : Nat, valF (dec n) = n := by
  intro n
  induction n using Nat.strongRecOn with
  | _ n ih =>
    by_cases h : n < 10
    · rw [dec_small h]
      have := valF_snoc [] (b8 (48 + (n : Int)))
      rw [List.nil_append] at this
      rw [this, b8_toNat (by omega)]
      show 10 * 0 + _ = _
      omega
    · rw [dec_more h, valF_snoc, ih (n / 10) (by omega), b8_toNat (by omega)]
      omega
theorem l3dec_dec {n : Nat} (h : n < 10000) : l3dec (dec n) = n := by
  unfold l3dec
  have h1 : 1 ≤ (dec n).length := List.length_pos_iff.2 (dec_ne n)
  have h2 := dec_len4 h
  have h3 : (dec n).all digit = true := by
    rw [List.all_eq_true]
    intro c hc
    have := dec_digits n c hc
    unfold digit
    rw [decide_eq_true this.1, decide_eq_true this.2]
    rfl
  rw [if_pos ⟨⟨h1, h2⟩, h3⟩, dec_val]
/-- A line. -/
def sLine (i : Nat) (l : List UInt8) : Option M := match split1 32 l with
  | [a, b] => if i = 0 then some (l3dec a, l3dec b, 0) else match a with
    | [x, y] => some ((x.toNat : Int) - 97 + 1, (y.toNat : Int) - 48, l3dec b)
    | _ => none
  | _ => none
/-- The lines up to a place. -/
def sTo (ls : List (List UInt8)) : Nat → Option (List M)
  | 0 => some []
  | k + 1 => match sTo ls k, sLine k (ls.getD k []) with
    | some acc, some m => some (acc ++ [m])
    | _, _ => none
theorem sTo_some {ls : List (List UInt8)} {k : Nat} {acc : List M} {m : M} (h : sTo ls k = some acc) (hm : sLine k (ls.getD k []) = some m) : sTo ls (k + 1) = some (acc ++ [m]) := by simp only [sTo]; rw [h, hm]
theorem sTo_none {ls : List (List UInt8)} {k : Nat} (hm : sLine k (ls.getD k []) = none) : sTo ls (k + 1) = none := by simp only [sTo]; rw [hm]; cases sTo ls k <;> rfl
theorem sTo_up {ls : List (List UInt8)} {k : Nat} (h : sTo ls k = none) : ∀ n, k ≤ n → sTo ls n = none
  | 0, hn => by rw [show k = 0 by omega] at h; exact h
  | n + 1, hn => by
    rcases Nat.lt_or_ge k (n + 1) with h1 | h1
    · simp only [sTo]
      rw [sTo_up h n (by omega)]
    · rw [show n + 1 = k by omega]; exact h
theorem sTo_len {ls : List (List UInt8)} : ∀ {k : Nat} {acc : List M}, sTo ls k = some acc → acc.length = k
  | 0, acc, h => by simp only [sTo] at h; injection h with h; rw [← h]; rfl
  | k + 1, acc, h => by
    simp only [sTo] at h
    split at h
    · rename_i a m h1 h2
      injection h with h
      rw [← h, List.length_append, sTo_len h1]
      rfl
    · cases h
/-- The index that is put together. -/
def sIdx (acc : List M) : Int × Int × List M := match acc with
  | [] => (0, 0, [])
  | (a, b, _) :: ms => (a, b, ms)
theorem sIdx_snoc {acc : List M} {m : M} (h : acc ≠ []) : sIdx (acc ++ [m]) = ((sIdx acc).1, (sIdx acc).2.1, (sIdx acc).2.2 ++ [m]) := by
  cases acc with
  | nil => exact absurd rfl h
  | cons x l => obtain ⟨a, b, c⟩ := x; rfl
def lines (num til : Int) (ms : List M) : List (List UInt8) := lineH num til :: ms.map lineM
theorem split_lines : ∀ (ls : List (List UInt8)), (∀ x ∈ ls, 10 ∉ x) → split1 10 (ls.flatMap (fun x => x ++ [10])) = ls ++ [[]]
  | [], _ => rfl
  | x :: ls, h => by
    rw [List.flatMap_cons, List.append_assoc, List.singleton_append, split1_app 10 x _ (h x (List.mem_cons_self ..)), split_lines ls (fun y hy => h y (List.mem_cons_of_mem _ hy))]
    rfl
theorem text_lines {num til : Int} {ms : List M} (h : idxOk num til ms = true) : text num til ms = (lines num til ms).flatMap (fun x => x ++ [10]) := by
  rw [text_ok h, headT_line]
  unfold lines
  rw [List.flatMap_cons, List.flatMap_map]
  congr 1
theorem lines_no {num til : Int} {ms : List M} (h : idxOk num til ms = true) : ∀ x ∈ lines num til ms, 10 ∉ x := by
  intro x hx
  unfold lines at hx
  rw [List.mem_cons, List.mem_map] at hx
  rcases hx with rfl | ⟨y, hy, rfl⟩
  · exact lineH_no _ _
  · exact lineM_no (ok_mem (idxOk_get h).2.2.2 y hy)
theorem split_idx {num til : Int} {ms : List M} (h : idxOk num til ms = true) : split1 10 (text num til ms) = lines num til ms ++ [[]] := by rw [text_lines h, split_lines _ (lines_no h)]
theorem sLine_head {num til : Int} (h1 : 0 ≤ num ∧ num ≤ 30) (h2 : 0 ≤ til ∧ til ≤ 60) : sLine 0 (lineH num til) = some (num, til, 0) := by
  have e : split1 32 (lineH num til) = [dec num.toNat, dec til.toNat] := by
    unfold lineH
    rw [split1_app 32 _ _ (dec_not (.inl (by decide))), split1_no 32 _ (dec_not (.inl (by decide)))]
  unfold sLine
  rw [e]
  simp only
  rw [if_pos trivial, l3dec_dec (by omega), l3dec_dec (by omega), show ((num.toNat : Nat) : Int) = num by omega, show ((til.toNat : Nat) : Int) = til by omega]
theorem name_bytes : ∀ a : Fin 4, ∀ b : Fin 10, ((b8 (96 + ((a.val + 1 : Nat) : Int))).toNat : Int) - 97 + 1 = ((a.val + 1 : Nat) : Int) ∧ ((b8 (48 + ((b.val : Nat) : Int))).toNat : Int) - 48 = ((b.val : Nat) : Int) := by decide +kernel
theorem sLine_meta {x : M} (h : (1 ≤ x.1 ∧ x.1 ≤ 4) ∧ (1 ≤ x.2.1 ∧ x.2.1 ≤ 5) ∧ (0 ≤ x.2.2 ∧ x.2.2 ≤ 9972)) {i : Nat} (hi : i ≠ 0) : sLine i (lineM x) = some x := by
  obtain ⟨n1, _, _⟩ := nameF_ok (a := x.1) (b := x.2.1) (by omega)
  have e : split1 32 (lineM x) = [nameT x.1 x.2.1, dec x.2.2.toNat] := by
    unfold lineM
    rw [split1_app 32 _ _ n1, split1_no 32 _ (dec_not (.inl (by decide)))]
  have nb := name_bytes ⟨(x.1 - 1).toNat, by omega⟩ ⟨x.2.1.toNat, by omega⟩
  have e1 : (((x.1 - 1).toNat + 1 : Nat) : Int) = x.1 := by omega
  have e2 : ((x.2.1.toNat : Nat) : Int) = x.2.1 := by omega
  simp only [e1, e2] at nb
  unfold sLine
  rw [e]
  simp only [nameT]
  rw [if_neg hi, nb.1, nb.2, l3dec_dec (by omega), show ((x.2.2.toNat : Nat) : Int) = x.2.2 by omega]
/-- Of the text of an index that is ok spec reads its lines. -/
theorem sTo_text {num til : Int} {ms : List M} (h : idxOk num til ms = true) : ∀ k, k ≤ ms.length → sTo (split1 10 (text num til ms)) (k + 1) = some ((num, til, 0) :: ms.take k) := by
  obtain ⟨hn, ht, _, hm⟩ := idxOk_get h
  intro k
  induction k with
  | zero =>
    intro _
    have e : sLine 0 ((split1 10 (text num til ms)).getD 0 []) = some (num, til, 0) := by rw [split_idx h]; exact sLine_head (by omega) ht
    rw [sTo_some (acc := []) rfl e]
    rfl
  | succ k ih =>
    intro hk
    have e : sLine (k + 1) ((split1 10 (text num til ms)).getD (k + 1) []) = some ms[k] := by
      rw [split_idx h]
      unfold lines
      rw [List.getD_eq_getElem?_getD, List.cons_append, List.getElem?_cons_succ, List.getElem?_append_left (by rw [List.length_map]; omega), List.getElem?_map, List.getElem?_eq_getElem (by omega)]
      exact sLine_meta (ok_mem hm _ (List.getElem_mem _)) (by omega)
    rw [sTo_some (ih (by omega)) e, List.take_succ_eq_append_getElem (by omega)]
    rfl
theorem split_len {num til : Int} {ms : List M} (h : idxOk num til ms = true) : (split1 10 (text num til ms)).length = ms.length + 2 := by rw [split_idx h]; unfold lines; simp
/-- A text can only be that of the index that spec puts together. -/
theorem s_only {s : List UInt8} {num til : Int} {ms : List M} (h : idxOk num til ms = true) (e : text num til ms = s) : (sTo (split1 10 s) ((split1 10 s).length - 1)).map sIdx = some (num, til, ms) := by
  subst e
  rw [split_len h, show ms.length + 2 - 1 = ms.length + 1 by omega, sTo_text h ms.length (Nat.le_refl _), List.take_length]
  rfl
theorem s_none {s : List UInt8} {k : Nat} (hk : k + 1 ≤ (split1 10 s).length - 1) (hn : sTo (split1 10 s) (k + 1) = none) : rx s = none := by
  rw [rx_none]
  intro num til ms h e
  have := s_only h e
  rw [sTo_up hn _ hk] at this
  cases this
theorem s_some {s : List UInt8} {acc : List M} (h : sTo (split1 10 s) ((split1 10 s).length - 1) = some acc) {b : Bool} (hb : decide (text (sIdx acc).1 (sIdx acc).2.1 (sIdx acc).2.2 = s ∧ s ≠ []) = b) : rx s = if b = true then some (sIdx acc) else none := by
  cases hi : idxOk (sIdx acc).1 (sIdx acc).2.1 (sIdx acc).2.2
  · have hbf : b = false := by
      rw [← hb, decide_eq_false_iff_not, text_bad hi]
      rintro ⟨e, hn⟩
      exact hn e.symm
    rw [hbf, if_neg (by simp), rx_none]
    intro num til ms h2 e
    have h3 := s_only h2 e
    rw [h] at h3
    injection h3 with h3
    rw [h3] at hi
    rw [hi] at h2
    cases h2
  · by_cases ht : text (sIdx acc).1 (sIdx acc).2.1 (sIdx acc).2.2 = s
    · have hne : s ≠ [] := by rw [← ht]; exact text_ne hi
      rw [← hb, decide_eq_true ⟨ht, hne⟩, if_pos rfl]
      exact rx_some.2 ⟨hi, ht⟩
    · rw [← hb, decide_eq_false (fun x => ht x.1), if_neg (by simp), rx_none]
      intro num til ms h2 e
      have h3 := s_only h2 e
      rw [h] at h3
      injection h3 with h3
      rw [h3] at ht
      exact ht e
end Go.Proofs.YtnoghnkhfgiloaaDoor.Ix
