/- The package of a text, and what an index tells of a text, as plain data. -/
import Derived.Test.YtjehpeojdcaklaaGreatDoorSpecReadMath
namespace Go.Proofs.YtjehpeojdcaklaaGreatDoor.Ix
open Pk

def zeroP : Pg := (0, 0, [], [])
/-- What a text is put together to. -/
def rq (s : List UInt8) : Pg := foldW (specTo (split1 32 s) (split1 32 s).length)
/-- The package of a text. -/
def rp (s : List UInt8) : Option Pg := if pOk (rq s) = true ∧ pText (rq s) = s then some (rq s) else none
theorem rp_some {s : List UInt8} {p : Pg} : rp s = some p ↔ pOk p = true ∧ pText p = s := by
  unfold rp
  constructor
  · intro h
    split at h
    · rename_i hh
      injection h with h
      subst h
      exact hh
    · cases h
  · rintro ⟨ho, ht⟩
    have e : rq s = p := by
      obtain ⟨a, b, c, d⟩ := p
      exact spec_only ho ht
    rw [e, if_pos ⟨ho, ht⟩]
theorem rp_none {s : List UInt8} : rp s = none ↔ ∀ p, pOk p = true → pText p ≠ s := by
  constructor
  · intro h p ho ht
    rw [rp_some.2 ⟨ho, ht⟩] at h
    cases h
  · intro h
    cases hr : rp s with
    | none => rfl
    | some p => exact absurd (rp_some.1 hr).2 (h p (rp_some.1 hr).1)
theorem rp_text {p : Pg} (h : pOk p = true) : rp (pText p) = some p := rp_some.2 ⟨h, rfl⟩
theorem rp_bad {p : Pg} (h : pOk p = false) : rp (pText p) = none := by
  have e : pText p = [] := by
    unfold pText
    unfold pOk at h
    unfold text
    rw [h]
    rfl
  rw [e, rp_none]
  intro q ho ht
  have : pOk q = false := by
    cases hq : pOk q
    · rfl
    · exfalso
      have h2 : pkgOk q.1 q.2.1 q.2.2.1 q.2.2.2 = true := hq
      have h3 : text q.1 q.2.1 q.2.2.1 q.2.2.2 = [] := ht
      rw [text_nil] at h3
      rw [h2] at h3
      cases h3
  rw [this] at ho
  cases ho
/-- .. nothing, if there is none. -/
def rpD (s : List UInt8) : Pg := (rp s).getD zeroP
theorem rpD_some {s : List UInt8} {p : Pg} (h : rp s = some p) : rpD s = p := by unfold rpD; rw [h]; rfl
theorem rpD_none {s : List UInt8} (h : rp s = none) : rpD s = zeroP := by unfold rpD; rw [h]; rfl

/-- An index tells of a package. -/
def tellsP (num til : Int) (ms : List M) (p : Pg) : Bool := idxOk num til ms && decide (metaP p ∈ ms)
/-- The package of a text, if an index tells of it. -/
def has (num til : Int) (ms : List M) (s : List UInt8) : Option Pg := (rp s).filter (tellsP num til ms)
def hasD (num til : Int) (ms : List M) (s : List UInt8) : Pg := (has num til ms s).getD zeroP
def hasB (num til : Int) (ms : List M) (s : List UInt8) : Bool := (has num til ms s).isSome
theorem has_none {num til : Int} {ms : List M} {s : List UInt8} (h : rp s = none) : has num til ms s = none := by unfold has; rw [h]; rfl
theorem has_bad {num til : Int} {ms : List M} {s : List UInt8} (h : idxOk num til ms = false) : has num til ms s = none := by
  unfold has
  cases rp s with
  | none => rfl
  | some p => simp [tellsP, h]
theorem has_yes {num til : Int} {ms : List M} {s : List UInt8} {p : Pg} (h : rp s = some p) (ht : tellsP num til ms p = true) : has num til ms s = some p := by unfold has; rw [h, Option.filter_some, if_pos ht]
theorem has_no {num til : Int} {ms : List M} {s : List UInt8} {p : Pg} (h : rp s = some p) (ht : tellsP num til ms p = false) : has num til ms s = none := by unfold has; rw [h, Option.filter_some, if_neg (by rw [ht]; exact Bool.false_ne_true)]
theorem has_some {num til : Int} {ms : List M} {s : List UInt8} {p : Pg} : has num til ms s = some p ↔ (pOk p = true ∧ pText p = s) ∧ idxOk num til ms = true ∧ metaP p ∈ ms := by
  constructor
  · intro h
    cases hr : rp s with
    | none => rw [has_none hr] at h; cases h
    | some q =>
      cases ht : tellsP num til ms q
      · rw [has_no hr ht] at h; cases h
      · rw [has_yes hr ht] at h
        injection h with h
        subst h
        unfold tellsP at ht
        rw [Bool.and_eq_true] at ht
        exact ⟨rp_some.1 hr, ht.1, of_decide_eq_true ht.2⟩
  · rintro ⟨h1, h2, h3⟩
    exact has_yes (rp_some.2 h1) (by unfold tellsP; rw [h2, decide_eq_true h3]; rfl)
theorem hasD_none {num til : Int} {ms : List M} {s : List UInt8} (h : has num til ms s = none) : hasD num til ms s = zeroP ∧ hasB num til ms s = false := by unfold hasD hasB; rw [h]; exact ⟨rfl, rfl⟩
theorem hasD_some {num til : Int} {ms : List M} {s : List UInt8} {p : Pg} (h : has num til ms s = some p) : hasD num til ms s = p ∧ hasB num til ms s = true := by unfold hasD hasB; rw [h]; exact ⟨rfl, rfl⟩
theorem metaP_text {p : Pg} {s : List UInt8} (h : pText p = s) : metaP p = (p.1, p.2.1, Sm.sum s) := by unfold metaP; rw [h]
theorem rpD_len (s : List UInt8) : (rpD s).2.2.1.length ≤ 2 ∧ (rpD s).2.2.2.length ≤ 2 := by
  cases h : rp s with
  | none => rw [rpD_none h]; exact ⟨Nat.zero_le _, Nat.zero_le _⟩
  | some p =>
    rw [rpD_some h]
    have ho := (rp_some.1 h).1
    unfold pOk pkgOk at ho
    rw [Bool.and_eq_true, Bool.and_eq_true, Bool.and_eq_true] at ho
    exact ⟨(filesOk_get ho.1.2).1, (depsOk_get ho.2).1⟩
theorem hasD_len (num til : Int) (ms : List M) (s : List UInt8) : (hasD num til ms s).2.2.1.length ≤ 2 ∧ (hasD num til ms s).2.2.2.length ≤ 2 := by
  cases h : has num til ms s with
  | none => rw [(hasD_none h).1]; exact ⟨Nat.zero_le _, Nat.zero_le _⟩
  | some p =>
    rw [(hasD_some h).1]
    have := rpD_len s
    rw [rpD_some (rp_some.2 (has_some.1 h).1)] at this
    exact this
end Go.Proofs.YtjehpeojdcaklaaGreatDoor.Ix
