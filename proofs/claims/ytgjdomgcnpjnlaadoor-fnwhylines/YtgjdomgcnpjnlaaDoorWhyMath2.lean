import Derived.Test.YtgjdomgcnpjnlaaDoorMixG
/- What is told of what is wrong, as plain data: how it begins, that no line is empty. -/
namespace Go.Proofs.YtgjdomgcnpjnlaaDoor.Ix
open Pk

/-- A line as they are told: a title first, no end of a line in it. -/
def LineOk (s : List UInt8) : Prop := ∃ (nm vr : Int) (r : List UInt8), (1 ≤ nm ∧ nm ≤ 4) ∧ (1 ≤ vr ∧ vr ≤ 5) ∧ s = Pk.nameT nm vr ++ r ∧ 10 ∉ r
theorem b8_ne {z : Int} (h0 : 11 ≤ z) (h1 : z ≤ 200) : Pk.b8 z ≠ 10 := by
  unfold Pk.b8
  intro e
  have := congrArg UInt8.toNat e
  simp at this
  omega
theorem nameT_ne {nm vr : Int} (h : 1 ≤ nm ∧ nm ≤ 4) (h2 : 1 ≤ vr ∧ vr ≤ 5) : 10 ∉ Pk.nameT nm vr := by
  unfold Pk.nameT
  simp only [List.mem_cons, List.not_mem_nil, or_false, not_or]
  exact ⟨fun e => b8_ne (by omega) (by omega) e.symm, fun e => b8_ne (by omega) (by omega) e.symm⟩
theorem notin_app {a b : List UInt8} (ha : 10 ∉ a) (hb : 10 ∉ b) : 10 ∉ a ++ b := fun h => by
  rcases List.mem_append.1 h with h | h
  · exact ha h
  · exact hb h
theorem linesAt_ok {l : List Pg} {i : Nat} (hk : pkgsOk l = true) (hi : i < l.length) : ∀ s ∈ linesAt l i, LineOk s := by
  intro s hs
  have hp := pkgs_pOk hk hi
  have h1 := pOk_name hp
  have h2 := pOk_ver hp
  unfold linesAt at hs
  rcases List.mem_append.1 hs with hs | hs
  · rcases List.mem_append.1 hs with hs | hs
    · unfold besideL at hs
      split at hs
      · rename_i hc
        rw [List.mem_singleton] at hs
        subst hs
        have hq := pkgs_pOk hk (i := i - 1) (by omega)
        exact ⟨_, _, besideT ++ titleT (pg l (i - 1)), h1, h2, by rw [List.append_assoc]; rfl, notin_app (by decide) (nameT_ne (pOk_name hq) (pOk_ver hq))⟩
      · cases hs
    · obtain ⟨d, hd, hs⟩ := List.mem_flatMap.1 hs
      obtain ⟨k, hkk, rfl⟩ := mem_pair hd
      have hb := pOk_dep hp k hkk
      unfold lackL at hs
      split at hs
      · cases hs
      · rw [List.mem_singleton] at hs
        subst hs
        exact ⟨_, _, lacksT ++ Pk.nameT _ _, h1, h2, by rw [List.append_assoc]; rfl, notin_app (by decide) (nameT_ne hb.1 hb.2)⟩
  · obtain ⟨f, hf, hs⟩ := List.mem_flatMap.1 hs
    obtain ⟨k, hkk, rfl⟩ := mem_pair hf
    have hb := pOk_file hp k hkk
    unfold placeL at hs
    split at hs
    · rename_i o ho
      rw [List.mem_singleton] at hs
      subst hs
      have hm := List.mem_of_mem_take (List.mem_of_find?_eq_some ho)
      obtain ⟨j, hj, e⟩ := mem_ix hm
      have hq := pkgs_pOk hk hj
      rw [e] at hq
      refine ⟨_, _, andT ++ titleT o ++ atT ++ [Pk.b8 (48 + (Pk.fst (pg l i).2.2.1 k))], h1, h2, by simp only [List.append_assoc]; rfl, ?_⟩
      refine notin_app (notin_app (notin_app (by decide) (nameT_ne (pOk_name hq) (pOk_ver hq))) (by decide)) ?_
      simp only [List.mem_cons, List.not_mem_nil, or_false]
      exact fun e => b8_ne (by omega) (by omega) e.symm
    · cases hs
theorem lines_ok {l : List Pg} (hk : pkgsOk l = true) : ∀ s ∈ lines l, LineOk s := fun s hs => by
  unfold lines linesTo at hs
  obtain ⟨i, hi, hs⟩ := List.mem_flatMap.1 hs
  exact linesAt_ok hk (List.mem_range.1 hi) s hs
/-- How what is told begins. -/
theorem told_head {s : List UInt8} {ls : List (List UInt8)} (h : LineOk s) : ∃ x y r, told (s :: ls) = x :: y :: r ∧ y ≠ 105 ∧ y ≠ 111 := by
  obtain ⟨nm, vr, r, h1, h2, rfl, _⟩ := h
  refine ⟨Pk.b8 (96 + nm), Pk.b8 (48 + vr), r ++ [10] ++ told ls, ?_, ?_, ?_⟩
  · show nl (Pk.nameT nm vr ++ r) ++ told ls = _
    unfold nl Pk.nameT
    simp
  · unfold Pk.b8
    intro e
    have := congrArg UInt8.toNat e
    simp at this
    omega
  · unfold Pk.b8
    intro e
    have := congrArg UInt8.toNat e
    simp at this
    omega
theorem why_fine (l : List Pg) : (why l = fineT) ↔ planOk l = true := by
  unfold why planOk
  cases hk : pkgsOk l
  · simp [noneT, fineT]
  · rw [if_pos rfl, Bool.true_and, decide_eq_true_eq]
    by_cases h0 : (lines l).length = 0
    · rw [if_pos h0]
      exact ⟨fun _ => h0, fun _ => rfl⟩
    · rw [if_neg h0]
      refine ⟨fun e => ?_, fun h => absurd h h0⟩
      cases hl : lines l with
      | nil => rw [hl] at h0; exact absurd rfl h0
      | cons s ls =>
        obtain ⟨x, y, r, e2, h1, _⟩ := told_head (ls := ls) (lines_ok hk s (by rw [hl]; exact List.mem_cons_self))
        rw [hl, e2] at e
        unfold fineT at e
        injection e with _ e
        injection e with e _
        exact absurd e h1
theorem why_none (l : List Pg) : (why l = noneT) ↔ pkgsOk l = false := by
  unfold why
  cases hk : pkgsOk l
  · simp
  · rw [if_pos rfl]
    by_cases h0 : (lines l).length = 0
    · rw [if_pos h0]
      simp [noneT, fineT]
    · rw [if_neg h0]
      refine ⟨fun e => ?_, fun h => by cases h⟩
      cases hl : lines l with
      | nil => rw [hl] at h0; exact absurd rfl h0
      | cons s ls =>
        obtain ⟨x, y, r, e2, _, h1⟩ := told_head (ls := ls) (lines_ok hk s (by rw [hl]; exact List.mem_cons_self))
        rw [hl, e2] at e
        unfold noneT at e
        injection e with _ e
        injection e with e _
        exact absurd e h1
end Go.Proofs.YtgjdomgcnpjnlaaDoor.Ix
