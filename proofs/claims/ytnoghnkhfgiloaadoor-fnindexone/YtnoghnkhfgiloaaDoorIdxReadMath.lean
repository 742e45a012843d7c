/- How a text of an index is read, as plain data; that the text of an index that is ok says that index. -/
import Derived.Test.YtnoghnkhfgiloaaDoorReadMath
import Derived.Test.YtnoghnkhfgiloaaDoorIdxTextMath
namespace Go.Proofs.YtnoghnkhfgiloaaDoor.Ix
open Pk

theorem b8_toNat {d : Nat} (h : d ≤ 9) : (b8 (48 + (d : Int))).toNat = 48 + d := by
  unfold b8
  rw [show (48 + (d : Int)).toNat = 48 + d by omega, UInt8.toNat_ofNat']
  omega
/-- All are figures. -/
theorem dec_digits : ∀ n : Nat, ∀ c ∈ dec n, 48 ≤ c.toNat ∧ c.toNat ≤ 57 := by
  intro n
  induction n using Nat.strongRecOn with
  | _ n ih =>
    intro c hc
    by_cases h : n < 10
    · rw [dec_small h, List.mem_singleton] at hc
      subst hc
      rw [b8_toNat (by omega)]
      omega
    · rw [dec_more h, List.mem_append, List.mem_singleton] at hc
      rcases hc with hc | rfl
      · exact ih (n / 10) (by omega) c hc
      · rw [b8_toNat (by omega)]
        omega
theorem dec_not {n : Nat} {c : UInt8} (h : c.toNat < 48 ∨ 57 < c.toNat) : c ∉ dec n := fun hc => by have := dec_digits n c hc; omega
theorem dec_ne (n : Nat) : dec n ≠ [] := by
  by_cases h : n < 10
  · rw [dec_small h]; simp
  · rw [dec_more h]; simp
theorem pu_snoc : ∀ (l : List UInt8) (acc u : Nat) (c : UInt8), Lib.parseUint10 acc l = .ok u → u < 1000000000 → 48 ≤ c.toNat ∧ c.toNat ≤ 57 → Lib.parseUint10 acc (l ++ [c]) = .ok (u * 10 + (c.toNat - 48))
  | [], acc, u, c, h, hu, hc => by
    simp only [Lib.parseUint10] at h
    injection h with h
    subst h
    simp only [List.nil_append, Lib.parseUint10]
    rw [if_pos hc, if_neg (by omega), if_neg (by omega)]
  | x :: l, acc, u, c, h, hu, hc => by
    simp only [Lib.parseUint10] at h
    rw [List.cons_append]
    simp only [Lib.parseUint10]
    split at h
    · rename_i hx
      split at h
      · cases h
      · rename_i h1
        split at h
        · cases h
        · rename_i h2
          rw [if_pos hx, if_neg h1, if_neg h2]
          exact pu_snoc l _ u c h hu hc
    · cases h
theorem pu_dec : ∀ n : Nat, n < 100000000 → Lib.parseUint10 0 (dec n) = .ok n := by
  intro n
  induction n using Nat.strongRecOn with
  | _ n ih =>
    intro hn
    by_cases h : n < 10
    · rw [dec_small h]
      have := pu_snoc [] 0 0 (b8 (48 + (n : Int))) rfl (by omega) (by rw [b8_toNat (by omega)]; omega)
      rw [b8_toNat (by omega)] at this
      rw [List.nil_append] at this
      rw [this]
      congr 1
      omega
    · rw [dec_more h]
      have := pu_snoc (dec (n / 10)) 0 (n / 10) (b8 (48 + ((n % 10 : Nat) : Int))) (ih (n / 10) (by omega) (by omega)) (by omega) (by rw [b8_toNat (by omega)]; omega)
      rw [b8_toNat (by omega)] at this
      rw [this]
      congr 1
      omega
theorem num_dec {n : Nat} (hn : n < 100000000) : numF (dec n) = some (n : Int) := by
  unfold numF
  have hp := pu_dec n hn
  cases hd : dec n with
  | nil => exact absurd hd (dec_ne n)
  | cons c r =>
    have hc := dec_digits n c (by rw [hd]; exact List.mem_cons_self ..)
    rw [hd] at hp
    rw [Lib.atoiAll_plain c r (by omega) (by omega)]
    unfold Lib.parseMag
    rw [if_neg (by simp), hp]
    unfold Lib.signless
    simp only
    rw [if_neg (by omega)]

theorem cut_hit {c : UInt8} {a b : List UInt8} (h : c ∉ a) : Lib.cut (a ++ c :: b) [c] = (a, b, true) := by
  unfold Lib.cut
  rw [index_at c a b h, if_pos (by omega)]
  simp
theorem cut_miss {c : UInt8} {a : List UInt8} (h : c ∉ a) : Lib.cut a [c] = (a, [], false) := by
  unfold Lib.cut
  rw [index_no c a h, if_neg (by omega)]
theorem cut_less {l : List UInt8} {c : UInt8} (h : l ≠ []) : (Lib.cut l [c]).2.1.length < l.length := by
  have hp : 0 < l.length := List.length_pos_iff.2 h
  by_cases hc : c ∈ l
  · obtain ⟨a, b, rfl, ha⟩ := List.eq_append_cons_of_mem hc
    rw [cut_hit ha]
    simp
    omega
  · rw [cut_miss hc]
    exact hp

/-- The first line; a line of a package; all lines behind the first one; an index. -/
def headF (s : List UInt8) : Option (Int × Int) := match numF (Lib.cut s [32]).1, numF (Lib.cut s [32]).2.1 with
  | some a, some b => some (a, b)
  | _, _ => none
def metaF (s : List UInt8) : Option M := match namedF (Lib.cut s [32]).1, numF (Lib.cut s [32]).2.1 with
  | some (n, v), some u => some (n, v, u)
  | _, _ => none
def metasF : Nat → List UInt8 → Option (List M)
  | 0, s => if s = [] then some [] else none
  | k + 1, s => if s = [] then some [] else match metaF (Lib.cut s [10]).1 with
    | some m => (metasF k (Lib.cut s [10]).2.1).map (m :: ·)
    | none => none
def readF (s : List UInt8) : Option (Int × Int × List M) := match headF (Lib.cut s [10]).1 with
  | some (a, b) => (metasF s.length (Lib.cut s [10]).2.1).map (fun ms => (a, b, ms))
  | none => none
theorem metasF_nil (k : Nat) : metasF k [] = some [] := by cases k <;> simp [metasF]
theorem metasF_some {k : Nat} {s : List UInt8} {m : M} (h : s ≠ []) (hm : metaF (Lib.cut s [10]).1 = some m) : metasF (k + 1) s = (metasF k (Lib.cut s [10]).2.1).map (m :: ·) := by
  simp only [metasF]
  rw [if_neg h, hm]
theorem metasF_none {k : Nat} {s : List UInt8} (h : s ≠ []) (hm : metaF (Lib.cut s [10]).1 = none) : metasF (k + 1) s = none := by
  simp only [metasF]
  rw [if_neg h, hm]

theorem nameF_all : ∀ a : Fin 4, ∀ b : Fin 10, 32 ∉ nameT (a.val + 1 : Nat) (b.val : Nat) ∧ 10 ∉ nameT (a.val + 1 : Nat) (b.val : Nat) ∧ namedF (nameT (a.val + 1 : Nat) (b.val : Nat)) = some (((a.val + 1 : Nat) : Int), ((b.val : Nat) : Int)) := by decide +kernel
theorem nameF_ok {a b : Int} (h : 1 ≤ a ∧ a ≤ 4 ∧ 0 ≤ b ∧ b ≤ 9) : 32 ∉ nameT a b ∧ 10 ∉ nameT a b ∧ namedF (nameT a b) = some (a, b) := by
  have := nameF_all ⟨(a - 1).toNat, by omega⟩ ⟨b.toNat, by omega⟩
  have e1 : (((a - 1).toNat + 1 : Nat) : Int) = a := by omega
  have e2 : ((b.toNat : Nat) : Int) = b := by omega
  simp only [e1, e2] at this
  exact this
/-- A line of a package, without its end. -/
def lineM (x : M) : List UInt8 := nameT x.1 x.2.1 ++ 32 :: dec x.2.2.toNat
def lineH (num til : Int) : List UInt8 := dec num.toNat ++ 32 :: dec til.toNat
theorem metaT_line (x : M) : metaT x = lineM x ++ [10] := by unfold metaT lineM; simp
theorem headT_line (num til : Int) : headT num til = lineH num til ++ [10] := by unfold headT lineH; simp
theorem lineM_no {x : M} (h : (1 ≤ x.1 ∧ x.1 ≤ 4) ∧ (1 ≤ x.2.1 ∧ x.2.1 ≤ 5) ∧ (0 ≤ x.2.2 ∧ x.2.2 ≤ 9972)) : 10 ∉ lineM x := by
  unfold lineM
  rw [List.mem_append, List.mem_cons]
  rintro (h1 | h1 | h1)
  · exact (nameF_ok (by omega)).2.1 h1
  · exact absurd h1 (by decide)
  · exact dec_not (.inl (by decide)) h1
theorem lineH_no (num til : Int) : 10 ∉ lineH num til := by
  unfold lineH
  rw [List.mem_append, List.mem_cons]
  rintro (h1 | h1 | h1)
  · exact dec_not (.inl (by decide)) h1
  · exact absurd h1 (by decide)
  · exact dec_not (.inl (by decide)) h1
theorem metaF_line {x : M} (h : (1 ≤ x.1 ∧ x.1 ≤ 4) ∧ (1 ≤ x.2.1 ∧ x.2.1 ≤ 5) ∧ (0 ≤ x.2.2 ∧ x.2.2 ≤ 9972)) : metaF (lineM x) = some x := by
  obtain ⟨n1, _, n3⟩ := nameF_ok (a := x.1) (b := x.2.1) (by omega)
  unfold metaF lineM
  rw [cut_hit n1]
  simp only
  rw [n3, num_dec (by omega)]
  simp only
  rw [show ((x.2.2.toNat : Nat) : Int) = x.2.2 by omega]
theorem headF_line {num til : Int} (h1 : 0 ≤ num ∧ num ≤ 30) (h2 : 0 ≤ til ∧ til ≤ 60) : headF (lineH num til) = some (num, til) := by
  unfold headF lineH
  rw [cut_hit (dec_not (.inl (by decide)))]
  simp only
  rw [num_dec (by omega), num_dec (by omega)]
  simp only
  rw [show ((num.toNat : Nat) : Int) = num by omega, show ((til.toNat : Nat) : Int) = til by omega]
theorem metasF_lines : ∀ (l : List M) (k : Nat), (∀ x ∈ l, (1 ≤ x.1 ∧ x.1 ≤ 4) ∧ (1 ≤ x.2.1 ∧ x.2.1 ≤ 5) ∧ (0 ≤ x.2.2 ∧ x.2.2 ≤ 9972)) → l.length ≤ k → metasF k (l.flatMap metaT) = some l
  | [], k, _, _ => by rw [List.flatMap_nil, metasF_nil]
  | x :: l, 0, _, hk => by simp at hk
  | x :: l, k + 1, h, hk => by
    have hx := h x (List.mem_cons_self ..)
    have e : (x :: l).flatMap metaT = lineM x ++ 10 :: l.flatMap metaT := by rw [List.flatMap_cons, metaT_line]; simp
    have hne : (x :: l).flatMap metaT ≠ [] := by rw [e]; simp
    have hc := cut_hit (b := l.flatMap metaT) (lineM_no hx)
    rw [← e] at hc
    have hm : metaF (Lib.cut ((x :: l).flatMap metaT) [10]).1 = some x := by rw [hc]; exact metaF_line hx
    rw [metasF_some hne hm, hc, metasF_lines l k (fun y hy => h y (List.mem_cons_of_mem _ hy)) (by simp at hk; omega)]
    rfl
theorem flatM_ge (l : List M) : l.length ≤ (l.flatMap metaT).length := by
  induction l with
  | nil => simp
  | cons x l ih =>
    rw [List.flatMap_cons, List.length_append, List.length_cons]
    have : 0 < (metaT x).length := by unfold metaT; rw [List.length_append]; simp
    omega
/-- The text of an index that is ok is read as that index. -/
theorem read_text {num til : Int} {ms : List M} (h : idxOk num til ms = true) : readF (text num til ms) = some (num, til, ms) := by
  obtain ⟨hn, ht, _, hm⟩ := idxOk_get h
  have e : text num til ms = lineH num til ++ 10 :: ms.flatMap metaT := by rw [text_ok h, headT_line]; simp
  have hc := cut_hit (b := ms.flatMap metaT) (lineH_no num til)
  rw [← e] at hc
  unfold readF
  rw [hc]
  simp only
  rw [headF_line (by omega) ht]
  simp only
  rw [metasF_lines ms _ (ok_mem hm) (by rw [e, List.length_append, List.length_cons]; have := flatM_ge ms; omega)]
  rfl
theorem text_le120 {num til : Int} {ms : List M} (h : idxOk num til ms = true) : (text num til ms).length ≤ 120 := by
  obtain ⟨hn, ht, hl, hm⟩ := idxOk_get h
  rw [text_ok h, List.length_append]
  have h1 := headT_len (num := num) (til := til) (by omega) (by omega)
  have h2 := flat_le ms (fun x hx => by have := ok_mem hm x hx; omega)
  omega
theorem text_ne {num til : Int} {ms : List M} (h : idxOk num til ms = true) : text num til ms ≠ [] := by
  rw [text_ok h, headT_line]
  simp
/-- The index of a text. -/
def rx (s : List UInt8) : Option (Int × Int × List M) := match readF s with
  | some q => if idxOk q.1 q.2.1 q.2.2 = true ∧ text q.1 q.2.1 q.2.2 = s then some q else none
  | none => none
theorem rx_some {s : List UInt8} {q : Int × Int × List M} : rx s = some q ↔ idxOk q.1 q.2.1 q.2.2 = true ∧ text q.1 q.2.1 q.2.2 = s := by
  unfold rx
  constructor
  · intro h
    split at h
    · rename_i p hp
      split at h
      · rename_i hh
        injection h with h
        subst h
        exact hh
      · cases h
    · cases h
  · rintro ⟨h1, h2⟩
    have hr := read_text h1
    rw [h2] at hr
    rw [hr]
    simp only
    rw [if_pos ⟨h1, h2⟩]
theorem rx_none {s : List UInt8} : rx s = none ↔ ∀ num til ms, idxOk num til ms = true → text num til ms ≠ s := by
  constructor
  · intro h num til ms h1 h2
    have : rx s = some (num, til, ms) := rx_some.2 ⟨h1, h2⟩
    rw [h] at this
    cases this
  · intro h
    cases hr : rx s with
    | none => rfl
    | some q => exact absurd (rx_some.1 hr).2 (h _ _ _ (rx_some.1 hr).1)
theorem rx_unread {s : List UInt8} (h : readF s = none) : rx s = none := by unfold rx; rw [h]
theorem rx_long {s : List UInt8} (h : 120 < s.length) : rx s = none := rx_none.2 (fun num til ms h1 h2 => by have := text_le120 h1; rw [h2] at this; omega)
theorem rx_bad {s : List UInt8} {q : Int × Int × List M} (h : readF s = some q) (hb : ¬ (idxOk q.1 q.2.1 q.2.2 = true ∧ text q.1 q.2.1 q.2.2 = s)) : rx s = none := by unfold rx; rw [h]; simp only; rw [if_neg hb]
theorem rx_text {num til : Int} {ms : List M} (h : idxOk num til ms = true) : rx (text num til ms) = some (num, til, ms) := rx_some.2 ⟨h, rfl⟩
/-- Texts of indexes that are ok differ just if the indexes do. -/
theorem text_inj {a b c d : Int} {ms ns : List M} (h : idxOk a b ms = true) (h' : idxOk c d ns = true) : text a b ms = text c d ns ↔ (a = c ∧ b = d ∧ ms = ns) := by
  constructor
  · intro e
    have h1 := rx_text h
    rw [e, rx_text h'] at h1
    injection h1 with h1
    injection h1 with e1 e2
    injection e2 with e2 e3
    exact ⟨e1.symm, e2.symm, e3.symm⟩
  · rintro ⟨rfl, rfl, rfl⟩; rfl
def rxD (s : List UInt8) : Int × Int × List M := (rx s).getD (0, 0, [])
theorem rxD_len (s : List UInt8) : (rxD s).2.2.length ≤ 8 := by
  unfold rxD
  cases h : rx s with
  | none => exact Nat.zero_le _
  | some q => exact (idxOk_get (rx_some.1 h).1).2.2.1
end Go.Proofs.YtnoghnkhfgiloaaDoor.Ix
