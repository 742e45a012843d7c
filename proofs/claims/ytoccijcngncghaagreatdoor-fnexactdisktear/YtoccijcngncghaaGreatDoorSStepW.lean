import Derived.Test.YtoccijcngncghaaGreatDoorMix14
import Derived.Test.YtoccijcngncghaaGreatDoorSPlanOkW
import Derived.Test.YtoccijcngncghaaGreatDoorMix1
/- spec.l21Step: what a step is, on the other side. -/
namespace Go.Proofs.YtoccijcngncghaaGreatDoor
open Go.RowKit

attribute [local go_sem ↓] Go.wp_at_zero Go.wp_at_succ

namespace Dk
theorem ok13 {s : S} (h : s.k = 1 ∨ s.k = 3) : s.ok = (decide (s.p = 0) && (decide (s.x = 0) && Ix.planOk s.ps)) := by
  unfold S.ok S.own
  rw [if_pos h]
  by_cases hp : s.p = 0
  · by_cases hx : s.x = 0
    · rw [decide_eq_true hp, decide_eq_true hx, hp, hx]; rfl
    · rw [decide_eq_false hx]; cases decide (s.p = 0) <;> rfl
  · rw [decide_eq_false hp]; rfl
theorem ok2 {s : S} (h : s.k = 2) : s.ok = (Pk.inB s.p 0 5 && (Pk.inB s.x (-1) 9 && decide (s.ps.length = 0))) := by
  unfold S.ok S.own
  rw [if_neg (by omega), if_pos h]
  by_cases hl : s.ps.length = 0
  · have e : s.ps = [] := List.length_eq_zero_iff.1 hl
    rw [decide_eq_true hl, e]
    have : Ix.planOk [] = true := by decide +kernel
    rw [this]; rfl
  · rw [decide_eq_false hl]
    cases Pk.inB s.p 0 5 <;> cases Pk.inB s.x (-1) 9 <;> rfl
theorem ok4 {s : S} (h : s.k = 4) : s.ok = (decide (s.p = 0) && (decide (s.x = 0) && decide (s.ps.length = 0))) := by
  unfold S.ok S.own
  rw [if_neg (by omega), if_neg (by omega), if_pos h]
  by_cases hp : s.p = 0
  · by_cases hx : s.x = 0
    · by_cases hl : s.ps.length = 0
      · have e : s.ps = [] := List.length_eq_zero_iff.1 hl
        rw [decide_eq_true hp, decide_eq_true hx, decide_eq_true hl, hp, hx, e]
        decide +kernel
      · rw [decide_eq_false hl]; cases decide (s.p = 0) <;> cases decide (s.x = 0) <;> rfl
    · rw [decide_eq_false hx]; cases decide (s.p = 0) <;> rfl
  · rw [decide_eq_false hp]; rfl
theorem okN {s : S} (h1 : s.k ≠ 1) (h2 : s.k ≠ 2) (h3 : s.k ≠ 3) (h4 : s.k ≠ 4) : s.ok = false := by
  unfold S.ok S.own
  rw [if_neg (by omega), if_neg h2, if_neg h4]
  rfl
end Dk

set_option linter.unusedSimpArgs false in
set_option maxHeartbeats 4000000 in
set_option maxRecDepth 100000 in
theorem specStep_any {N : Nat → Prop} (w : World) (s : Dk.S) (v : Value) (h : Pks N w v s.ps) :
    Calls Tryz.prog 26 #[stV s.k s.p s.x v] w fun e w' => e = .returned (.bool s.ok) ∧ Below w.heap.size w w' := by
  obtain ⟨a, c, hv⟩ := h.slice
  have H13 := hide (show s.k = 1 ∨ s.k = 3 → s.ok = (decide (s.p = 0) && (decide (s.x = 0) && Ix.planOk s.ps)) from Dk.ok13)
  have H2 := hide (show s.k = 2 → s.ok = (Pk.inB s.p 0 5 && (Pk.inB s.x (-1) 9 && decide (s.ps.length = 0))) from Dk.ok2)
  have H4 := hide (show s.k = 4 → s.ok = (decide (s.p = 0) && (decide (s.x = 0) && decide (s.ps.length = 0))) from Dk.ok4)
  have HN := hide (show s.k ≠ 1 → s.k ≠ 2 → s.k ≠ 3 → s.k ≠ 4 → s.ok = false from Dk.okN)
  generalize s.ok = OK at *
  obtain ⟨k, p, x, ps⟩ := s
  dsimp only [stV] at *
  subst hv
  have b0 := below1 w (.cells #[.int .i64 k, .int .i64 p, .int .i64 x, .slice a ps.length c] 28)
  have HB := hide (heap_alloc_new w (.cells #[.int .i64 k, .int .i64 p, .int .i64 x, .slice a ps.length c] 28))
  have BW := hide b0
  have HP := hide (h.later b0)
  have hp := zeroI p
  have hx := zeroI x
  have hl := zeroL ps
  clear b0 h
  go_enter Tryz.func26, Tryz.ntmps26
  by_cases h1 : k = 1
  · subst h1
    have HO := hide (unhide H13 (.inl rfl))
    clear H13 H2 H4 HN
    generalize decide (p = 0) = bp at *
    generalize decide (x = 0) = bx at *
    cases bp
    · have HE : Hid (OK = false) := by show _ = _; rw [unhide HO]; rfl
      go_wp2
      go_ret
      exact ⟨ret_bool (unhide HE).symm, unhide BW⟩
    cases bx
    · have HE : Hid (OK = false) := by show _ = _; rw [unhide HO]; rfl
      go_wp2
      go_ret
      exact ⟨ret_bool (unhide HE).symm, unhide BW⟩
    have HE : Hid (OK = Ix.planOk ps) := by show _ = _; rw [unhide HO]; rfl
    go_wp2_with fail
    refine (specPlanOk_any _ _ ps (unhide HP)).mono ?_
    generalize World.alloc _ _ = W0 at *
    generalize Ix.planOk ps = q at *
    rintro e w1 ⟨rfl, b⟩
    replace BW := hide ((unhide BW).trans (b.mono (unhide BW).size))
    clear b
    cases q <;> (go_wp2; go_ret; exact ⟨ret_bool (unhide HE).symm, unhide BW⟩)
  by_cases h3 : k = 3
  · subst h3
    have HO := hide (unhide H13 (.inr rfl))
    clear H13 H2 H4 HN h1
    generalize decide (p = 0) = bp at *
    generalize decide (x = 0) = bx at *
    cases bp
    · have HE : Hid (OK = false) := by show _ = _; rw [unhide HO]; rfl
      go_wp2
      go_ret
      exact ⟨ret_bool (unhide HE).symm, unhide BW⟩
    cases bx
    · have HE : Hid (OK = false) := by show _ = _; rw [unhide HO]; rfl
      go_wp2
      go_ret
      exact ⟨ret_bool (unhide HE).symm, unhide BW⟩
    have HE : Hid (OK = Ix.planOk ps) := by show _ = _; rw [unhide HO]; rfl
    go_wp2_with fail
    refine (specPlanOk_any _ _ ps (unhide HP)).mono ?_
    generalize World.alloc _ _ = W0 at *
    generalize Ix.planOk ps = q at *
    rintro e w1 ⟨rfl, b⟩
    replace BW := hide ((unhide BW).trans (b.mono (unhide BW).size))
    clear b
    cases q <;> (go_wp2; go_ret; exact ⟨ret_bool (unhide HE).symm, unhide BW⟩)
  by_cases h2 : k = 2
  · subst h2
    have HO := hide (unhide H2 rfl)
    clear H13 H2 H4 HN h1 h3
    have CP := hide (fun (W : World) => in_any p 0 5 W)
    have CX := hide (fun (W : World) => in_any x (-1) 9 W)
    generalize Pk.inB p 0 5 = bp at *
    generalize Pk.inB x (-1) 9 = bx at *
    generalize decide (ps.length = 0) = bl at *
    go_wp2_with fail
    refine (unhide CP _).mono ?_
    generalize World.alloc _ _ = W0 at *
    rintro e w1 ⟨rfl, rfl⟩
    cases bp
    · have HE : Hid (OK = false) := by show _ = _; rw [unhide HO]; rfl
      go_wp2
      go_ret
      exact ⟨ret_bool (unhide HE).symm, unhide BW⟩
    obtain ⟨x0, x1, x2, x3⟩ : _ ∧ _ ∧ _ ∧ _ := ⟨cellOf (unhide HB) 0, cellOf (unhide HB) 1, cellOf (unhide HB) 2, cellOf (unhide HB) 3⟩
    go_wp2_with fail
    refine (unhide CX _).mono ?_
    rintro e w2 ⟨rfl, rfl⟩
    cases bx
    · have HE : Hid (OK = false) := by show _ = _; rw [unhide HO]; rfl
      go_wp2
      go_ret
      exact ⟨ret_bool (unhide HE).symm, unhide BW⟩
    cases bl <;> (go_wp2; go_ret; exact ⟨ret_bool (unhide HO).symm, unhide BW⟩)
  by_cases h4 : k = 4
  · subst h4
    have HO := hide (unhide H4 rfl)
    clear H13 H2 H4 HN h1 h3 h2
    generalize decide (p = 0) = bp at *
    generalize decide (x = 0) = bx at *
    generalize decide (ps.length = 0) = bl at *
    cases bp <;> cases bx <;> cases bl <;> (go_wp2; go_ret; exact ⟨ret_bool (unhide HO).symm, unhide BW⟩)
  have HO := hide (unhide HN h1 h2 h3 h4)
  have e1 : (k == 1) = false := by simpa using h1
  have e2 : (k == 2) = false := by simpa using h2
  have e3 : (k == 3) = false := by simpa using h3
  have e4 : (k == 4) = false := by simpa using h4
  clear H13 H2 H4 HN
  go_wp2
  go_ret
  exact ⟨ret_bool (unhide HO).symm, unhide BW⟩
end Go.Proofs.YtoccijcngncghaaGreatDoor
