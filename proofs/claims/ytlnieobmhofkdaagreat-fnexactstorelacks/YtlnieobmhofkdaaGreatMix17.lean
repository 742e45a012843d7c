import Derived.Test.YtlnieobmhofkdaaGreatReadMath
/- How spec reads a text: by the lengths of its words. -/
namespace Go.Proofs.YtlnieobmhofkdaaGreat.Pk

/-- A word as spec reads it. -/
def specW (first : Bool) : List UInt8 → Option (Nat × Int × Int)
  | [a, b] => some (bif first then 0 else 2, (a.toNat : Int) - 97 + 1, (b.toNat : Int) - 48)
  | [a, _, b] => bif first then none else some (1, (a.toNat : Int) - 48, (b.toNat : Int) - 48)
  | _ => none
/-- The words up to a place. -/
def specTo (ws : List (List UInt8)) (k : Nat) : List (Nat × Int × Int) := (List.range k).flatMap fun i => (specW (decide (i = 0)) (ws.getD i [])).toList
theorem specTo_some {ws : List (List UInt8)} {k : Nat} {x : Nat × Int × Int} (h : specW (decide (k = 0)) (ws.getD k []) = some x) : specTo ws (k + 1) = specTo ws k ++ [x] := by
  unfold specTo
  rw [List.range_succ, List.flatMap_append, List.flatMap_cons, h]
  rfl
theorem specTo_none {ws : List (List UInt8)} {k : Nat} (h : specW (decide (k = 0)) (ws.getD k []) = none) : specTo ws (k + 1) = specTo ws k := by
  unfold specTo
  rw [List.range_succ, List.flatMap_append, List.flatMap_cons, h]
  simp
theorem specTo_len (ws : List (List UInt8)) : ∀ k, (specTo ws k).length ≤ k
  | 0 => by simp [specTo]
  | k + 1 => by
    have := specTo_len ws k
    cases h : specW (decide (k = 0)) (ws.getD k []) with
    | none => rw [specTo_none h]; omega
    | some x => rw [specTo_some h, List.length_append]; simp only [List.length_cons, List.length_nil]; omega
theorem snamed_all : ∀ a : Fin 4, ∀ b : Fin 10, ∀ f : Bool, specW f (nameT (a.val + 1 : Nat) (b.val : Nat)) = some (bif f then 0 else 2, ((a.val + 1 : Nat) : Int), ((b.val : Nat) : Int)) := by decide +kernel
theorem sfile_all : ∀ a : Fin 10, ∀ b : Fin 10, specW false (wordT (1, (a.val : Nat), (b.val : Nat))) = some (1, ((a.val : Nat) : Int), ((b.val : Nat) : Int)) := by decide +kernel
theorem snamed_ok {a b : Int} (h : 1 ≤ a ∧ a ≤ 4 ∧ 0 ≤ b ∧ b ≤ 9) (f : Bool) : specW f (nameT a b) = some (bif f then 0 else 2, a, b) := by
  have := snamed_all ⟨(a - 1).toNat, by omega⟩ ⟨b.toNat, by omega⟩ f
  have e1 : (((a - 1).toNat + 1 : Nat) : Int) = a := by omega
  have e2 : ((b.toNat : Nat) : Int) = b := by omega
  simp only [e1, e2] at this
  exact this
theorem sfile_ok {a b : Int} (h : 0 ≤ a ∧ a ≤ 9 ∧ 0 ≤ b ∧ b ≤ 9) : specW false (wordT (1, a, b)) = some (1, a, b) := by
  have := sfile_all ⟨a.toNat, by omega⟩ ⟨b.toNat, by omega⟩
  have e1 : ((a.toNat : Nat) : Int) = a := by omega
  have e2 : ((b.toNat : Nat) : Int) = b := by omega
  simp only [e1, e2] at this
  exact this
theorem sword_text {nm vr : Int} {fs ds : List (Int × Int)} (h : pkgOk nm vr fs ds = true) (i : Nat) (hi : i < (wordL nm vr fs ds).length) : specW (decide (i = 0)) (wordT (wordL nm vr fs ds)[i]) = some (wordL nm vr fs ds)[i] := by
  obtain ⟨h1, h2, h3⟩ := ok_parts h
  cases i with
  | zero => exact snamed_ok h1 true
  | succ i =>
    have hd : decide (i + 1 = 0) = false := by simp
    have hm : (wordL nm vr fs ds)[i + 1] ∈ fs.map (fun x => ((1 : Nat), x.1, x.2)) ++ ds.map (fun x => ((2 : Nat), x.1, x.2)) := by
      simp only [wordL, List.getElem_cons_succ]
      exact List.getElem_mem _
    rw [hd]
    generalize (wordL nm vr fs ds)[i + 1] = x at hm
    simp only [List.mem_append, List.mem_map] at hm
    rcases hm with ⟨y, hy, rfl⟩ | ⟨y, hy, rfl⟩
    · exact sfile_ok (h2 y hy)
    · exact snamed_ok (h3 y hy) false
/-- Of the text of a package that is ok spec reads its words. -/
theorem spec_text {nm vr : Int} {fs ds : List (Int × Int)} (h : pkgOk nm vr fs ds = true) : specTo (split1 32 (text nm vr fs ds)) (split1 32 (text nm vr fs ds)).length = wordL nm vr fs ds := by
  have key : ∀ k, k ≤ (wordL nm vr fs ds).length → specTo (split1 32 (text nm vr fs ds)) k = (wordL nm vr fs ds).take k := by
    intro k
    induction k with
    | zero => intro _; rfl
    | succ k ih =>
      intro hk
      have e : specW (decide (k = 0)) ((split1 32 (text nm vr fs ds)).getD k []) = some (wordL nm vr fs ds)[k] := by
        rw [split_text h, List.getD_eq_getElem?_getD, List.getElem?_map, List.getElem?_eq_getElem (by omega)]
        exact sword_text h k (by omega)
      rw [specTo_some e, ih (by omega), List.take_succ_eq_append_getElem (by omega)]
  rw [key _ (by rw [split_text h, List.length_map]; exact Nat.le_refl _), split_text h, List.length_map, List.take_length]
/-- A text can only be that of the package that spec puts together. -/
theorem spec_only {t : List UInt8} {nm vr : Int} {fs ds : List (Int × Int)} (h : pkgOk nm vr fs ds = true) (e : text nm vr fs ds = t) : foldW (specTo (split1 32 t) (split1 32 t).length) = (nm, vr, fs, ds) := by
  subst e
  rw [spec_text h, fold_words]
end Go.Proofs.YtlnieobmhofkdaaGreat.Pk

/- The package of a text, and what an index tells of a text, as plain data. -/
namespace Go.Proofs.YtlnieobmhofkdaaGreat.Ix
open Pk

def zeroP : Pg := (0, 0, [], [])
/-- What a text is put together to. -/
def rq (s : List UInt8) : Pg := foldW (specTo (split1 32 s) (split1 32 s).length)
/-- The package of a text. -/
def rp (s : List UInt8) : Option Pg := if pOk (rq s) = true ∧ pText (rq s) = s then some (rq s) else none
theorem rp_some {s : List UInt8} {p : Pg} : rp s = some p ↔ pOk p = true ∧ pText p = s := by
  unfold rp
  constructor
  · intro h
    split at h
    · rename_i hh
      injection h with h
      subst h
      exact hh
    · cases h
  · rintro ⟨ho, ht⟩
    have e : rq s = p := by
      obtain ⟨a, b, c, d⟩ := p
      exact spec_only ho ht
    rw [e, if_pos ⟨ho, ht⟩]
theorem rp_none {s : List UInt8} : rp s = none ↔ ∀ p, pOk p = true → pText p ≠ s := by
  constructor
  · intro h p ho ht
    rw [rp_some.2 ⟨ho, ht⟩] at h
    cases h
  · intro h
    cases hr : rp s with
    | none => rfl
    | some p => exact absurd (rp_some.1 hr).2 (h p (rp_some.1 hr).1)
theorem rp_text {p : Pg} (h : pOk p = true) : rp (pText p) = some p := rp_some.2 ⟨h, rfl⟩
theorem rp_bad {p : Pg} (h : pOk p = false) : rp (pText p) = none := by
  have e : pText p = [] := by
    unfold pText
    unfold pOk at h
    unfold text
    rw [h]
    rfl
  rw [e, rp_none]
  intro q ho ht
  have : pOk q = false := by
    cases hq : pOk q
    · rfl
    · exfalso
      have h2 : pkgOk q.1 q.2.1 q.2.2.1 q.2.2.2 = true := hq
      have h3 : text q.1 q.2.1 q.2.2.1 q.2.2.2 = [] := ht
      rw [text_nil] at h3
      rw [h2] at h3
      cases h3
  rw [this] at ho
  cases ho
/-- .. nothing, if there is none. -/
def rpD (s : List UInt8) : Pg := (rp s).getD zeroP
theorem rpD_some {s : List UInt8} {p : Pg} (h : rp s = some p) : rpD s = p := by unfold rpD; rw [h]; rfl
theorem rpD_none {s : List UInt8} (h : rp s = none) : rpD s = zeroP := by unfold rpD; rw [h]; rfl

/-- An index tells of a package. -/
def tellsP (num til : Int) (ms : List M) (p : Pg) : Bool := idxOk num til ms && decide (metaP p ∈ ms)
/-- The package of a text, if an index tells of it. -/
def has (num til : Int) (ms : List M) (s : List UInt8) : Option Pg := (rp s).filter (tellsP num til ms)
def hasD (num til : Int) (ms : List M) (s : List UInt8) : Pg := (has num til ms s).getD zeroP
def hasB (num til : Int) (ms : List M) (s : List UInt8) : Bool := (has num til ms s).isSome
theorem has_none {num til : Int} {ms : List M} {s : List UInt8} (h : rp s = none) : has num til ms s = none := by unfold has; rw [h]; rfl
theorem has_bad {num til : Int} {ms : List M} {s : List UInt8} (h : idxOk num til ms = false) : has num til ms s = none := by
  unfold has
  cases rp s with
  | none => rfl
  | some p => simp [tellsP, h]
theorem has_yes {num til : Int} {ms : List M} {s : List UInt8} {p : Pg} (h : rp s = some p) (ht : tellsP num til ms p = true) : has num til ms s = some p := by unfold has; rw [h, Option.filter_some, if_pos ht]
theorem has_no {num til : Int} {ms : List M} {s : List UInt8} {p : Pg} (h : rp s = some p) (ht : tellsP num til ms p = false) : has num til ms s = none := by unfold has; rw [h, Option.filter_some, if_neg (by rw [ht]; exact Bool.false_ne_true)]
theorem has_some {num til : Int} {ms : List M} {s : List UInt8} {p : Pg} : has num til ms s = some p ↔ (pOk p = true ∧ pText p = s) ∧ idxOk num til ms = true ∧ metaP p ∈ ms := by
  constructor
  · intro h
    cases hr : rp s with
    | none => rw [has_none hr] at h; cases h
    | some q =>
      cases ht : tellsP num til ms q
      · rw [has_no hr ht] at h; cases h
      · rw [has_yes hr ht] at h
        injection h with h
        subst h
        unfold tellsP at ht
        rw [Bool.and_eq_true] at ht
        exact ⟨rp_some.1 hr, ht.1, of_decide_eq_true ht.2⟩
  · rintro ⟨h1, h2, h3⟩
    exact has_yes (rp_some.2 h1) (by unfold tellsP; rw [h2, decide_eq_true h3]; rfl)
theorem hasD_none {num til : Int} {ms : List M} {s : List UInt8} (h : has num til ms s = none) : hasD num til ms s = zeroP ∧ hasB num til ms s = false := by unfold hasD hasB; rw [h]; exact ⟨rfl, rfl⟩
theorem hasD_some {num til : Int} {ms : List M} {s : List UInt8} {p : Pg} (h : has num til ms s = some p) : hasD num til ms s = p ∧ hasB num til ms s = true := by unfold hasD hasB; rw [h]; exact ⟨rfl, rfl⟩
theorem metaP_text {p : Pg} {s : List UInt8} (h : pText p = s) : metaP p = (p.1, p.2.1, Sm.sum s) := by unfold metaP; rw [h]
theorem rpD_len (s : List UInt8) : (rpD s).2.2.1.length ≤ 2 ∧ (rpD s).2.2.2.length ≤ 2 := by
  cases h : rp s with
  | none => rw [rpD_none h]; exact ⟨Nat.zero_le _, Nat.zero_le _⟩
  | some p =>
    rw [rpD_some h]
    have ho := (rp_some.1 h).1
    unfold pOk pkgOk at ho
    rw [Bool.and_eq_true, Bool.and_eq_true, Bool.and_eq_true] at ho
    exact ⟨(filesOk_get ho.1.2).1, (depsOk_get ho.2).1⟩
theorem hasD_len (num til : Int) (ms : List M) (s : List UInt8) : (hasD num til ms s).2.2.1.length ≤ 2 ∧ (hasD num til ms s).2.2.2.length ≤ 2 := by
  cases h : has num til ms s with
  | none => rw [(hasD_none h).1]; exact ⟨Nat.zero_le _, Nat.zero_le _⟩
  | some p =>
    rw [(hasD_some h).1]
    have := rpD_len s
    rw [rpD_some (rp_some.2 (has_some.1 h).1)] at this
    exact this
end Go.Proofs.YtlnieobmhofkdaaGreat.Ix
