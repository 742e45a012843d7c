/- What is told of what is wrong, as plain data: no line is empty. -/
import Derived.Test.YtgjdomgcnpjnlaaDoorWhyMath2
namespace Go.Proofs.YtgjdomgcnpjnlaaDoor.Ix
open Pk

/-- No end of a line stands first, or behind another one. -/
def chk : UInt8 → List UInt8 → Bool
  | _, [] => true
  | p, b :: t => (!(b == 10) || !(p == 10)) && chk b t
theorem chk_line : ∀ (s : List UInt8) (p : UInt8) (r : List UInt8), 10 ∉ s → (s ≠ [] ∨ p ≠ 10) → chk 10 r = true → chk p (s ++ 10 :: r) = true
  | [], p, r, _, h, hr => by
    have hp : p ≠ 10 := h.resolve_left (fun h => h rfl)
    show ((!((10 : UInt8) == 10) || !(p == 10)) && chk 10 r) = true
    rw [hr, Bool.and_true, beq_eq_false_iff_ne.2 hp]
    rfl
  | b :: s, p, r, hn, _, hr => by
    have hb : b ≠ 10 := fun e => hn (by rw [e]; exact List.mem_cons_self)
    show ((!(b == 10) || !(p == 10)) && chk b (s ++ 10 :: r)) = true
    rw [chk_line s b r (fun h => hn (List.mem_cons_of_mem _ h)) (.inr hb) hr, beq_eq_false_iff_ne.2 hb]
    rfl
theorem lineOk_no {s : List UInt8} (h : LineOk s) : 10 ∉ s ∧ s ≠ [] := by
  obtain ⟨nm, vr, r, h1, h2, rfl, h3⟩ := h
  refine ⟨notin_app (nameT_ne h1 h2) h3, fun e => ?_⟩
  unfold Pk.nameT at e
  cases e
theorem told_chk : ∀ ls : List (List UInt8), (∀ s ∈ ls, LineOk s) → chk 10 (told ls) = true
  | [], _ => rfl
  | s :: ls, h => by
    obtain ⟨h1, h2⟩ := lineOk_no (h s List.mem_cons_self)
    have h3 := told_chk ls (fun x hx => h x (List.mem_cons_of_mem _ hx))
    show chk 10 (nl s ++ told ls) = true
    unfold nl
    rw [List.append_assoc]
    exact chk_line s 10 (told ls) h1 (.inl h2) h3
theorem told_last : ∀ (ls : List (List UInt8)), ls ≠ [] → (∀ s ∈ ls, LineOk s) → (told ls).getLast? = some 10 ∧ 1 < (told ls).length
  | [], h, _ => absurd rfl h
  | [s], _, h => by
    obtain ⟨nm, vr, r, _, _, e, _⟩ := h s List.mem_cons_self
    rw [told_one]
    refine ⟨List.getLast?_concat, ?_⟩
    rw [List.length_append, e, List.length_append]
    show 1 < (2 + r.length) + 1
    omega
  | s :: x :: ls, _, h => by
    obtain ⟨h1, h2⟩ := told_last (x :: ls) (by simp) (fun y hy => h y (List.mem_cons_of_mem _ hy))
    show (nl s ++ told (x :: ls)).getLast? = some 10 ∧ 1 < (nl s ++ told (x :: ls)).length
    rw [List.getLast?_append, h1, List.length_append]
    exact ⟨rfl, by omega⟩
/-- What PlanWhy tells. -/
theorem why_good (l : List Pg) : chk 10 (why l) = true ∧ (why l).getLast? = some 10 ∧ 1 < (why l).length := by
  unfold why
  cases hk : pkgsOk l
  · rw [if_neg (by simp)]
    exact ⟨by decide, by decide, by decide⟩
  · rw [if_pos rfl]
    by_cases h0 : (lines l).length = 0
    · rw [if_pos h0]
      exact ⟨by decide, by decide, by decide⟩
    · rw [if_neg h0]
      have hok := lines_ok hk
      have := told_last (lines l) (fun e => h0 (by rw [e]; rfl)) hok
      exact ⟨told_chk _ hok, this.1, this.2⟩
/-- At a place. -/
theorem chk_at : ∀ (t : List UInt8) (p : UInt8), chk p t = true → ∀ i : Nat, t[i]? = some 10 → (i = 0 ∧ p ≠ 10) ∨ ∃ j : Nat, i = j + 1 ∧ t[j]? ≠ some 10
  | [], _, _, i, h => by cases h
  | b :: t, p, hc, 0, h => by
    have hb : b = 10 := Option.some.inj h
    subst hb
    left
    refine ⟨rfl, fun e => ?_⟩
    subst e
    cases hc
  | b :: t, p, hc, i + 1, h => by
    have hc2 : ((!(b == 10) || !(p == 10)) && chk b t) = true := hc
    rw [Bool.and_eq_true] at hc2
    right
    rcases chk_at t b hc2.2 i h with ⟨h0, hb⟩ | ⟨j, hj, hn⟩
    · subst h0
      exact ⟨0, rfl, fun e => hb (Option.some.inj e)⟩
    · subst hj
      exact ⟨j + 1, rfl, hn⟩
/-- One package that needs nothing. -/
theorem why_one {nm vr : Int} {fs ds : List (Int × Int)} (h : Pk.pkgOk nm vr fs ds = true) : why [(nm, vr, fs, [])] = fineT := by
  have hp : pOk (nm, vr, fs, []) = true := by
    unfold pOk Pk.pkgOk at *
    simp only [Bool.and_eq_true] at h ⊢
    exact ⟨⟨⟨h.1.1.1, h.1.1.2⟩, h.1.2⟩, rfl⟩
  rw [why_fine]
  refine planOk_true (pkgsOk_good (fun i hi => ?_)) (fun i hi => ?_)
  · have : i = 0 := by simp at hi; exact hi
    subst this
    unfold pkgGood
    rw [show pg [(nm, vr, fs, [])] 0 = (nm, vr, fs, []) from rfl, hp]
    rfl
  · have : i = 0 := by simp at hi; exact hi
    subst this
    refine linesAt_nil.2 ⟨rfl, fun d hd => (by cases hd), fun f _ => ?_⟩
    exact placeL_nil.2 rfl
end Go.Proofs.YtgjdomgcnpjnlaaDoor.Ix
