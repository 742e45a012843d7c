import Derived.Test.YtlidgoomlllonaaDoorMixH
import Derived.Test.YtlidgoomlllonaaDoorMathW
import Derived.Test.YtlidgoomlllonaaDoorMixC
/- What laws.luInts, luRoot, luMetas, luIndex and luTrust return of the same data: true. -/
namespace Go.Proofs.YtlidgoomlllonaaDoor
open Go.RowKit

set_option maxHeartbeats 2000000 in
set_option maxRecDepth 100000 in
theorem luInts_same (w : World) (va vb : Value) (l : List Int) (ha : Ins w va l) (hb : Ins w vb l) :
    Calls Tryd.prog 13 #[va, vb] w fun e w' => e = .returned (.bool true) ∧ Below w.heap.size w w' := by
  obtain ⟨a, ca, rfl, hla, hra⟩ := ha
  obtain ⟨b, cb, rfl, _, hrb⟩ := hb
  have HA := hide hra
  have HB := hide hrb
  clear hra hrb
  have hne : ((l.length : Int) != (l.length : Int)) = false := by simp
  go_enter Tryd.func13, Tryd.ntmps13
  go_wp2
  go_loopw [5] (fun i w' => ∃ k : Nat, k ≤ l.length ∧ i = .int .i64 k ∧ Below w.heap.size w w') (fun i _ => l.length - (intOf i).toNat)
  case atStart => exact ⟨0, Nat.zero_le _, rfl, Below.refl _ _⟩
  case round =>
    obtain ⟨k, hk, rfl, hw⟩ := hrel
    have HW := hide hw
    clear hw
    by_cases hlt : k < l.length
    · obtain ⟨x, ox, rfl, hx, cx⟩ := unhide HA (by omega)
      obtain ⟨y, oy, rfl, hy, cy⟩ := unhide HB (by omega)
      have hi0 : (0 : Int) ≤ (k : Int) := Int.natCast_nonneg _
      have hi1 : (k : Int) < (l.length : Int) := by omega
      have kk : ∀ w', Below wr.heap.size wr w' → w'.cell? ⟨x, ox + k, none⟩ = some (.int .i64 (Ky.nth l k)) ∧ w'.cell? ⟨y, oy + k, none⟩ = some (.int .i64 (Ky.nth l k)) := fun w' hw' => by
        have hb2 := (unhide HW).trans (hw'.mono (unhide HW).size)
        rw [hb2.cell hx, hb2.cell hy]
        exact ⟨cx k hlt, cy k hlt⟩
      have KK := hide kk
      clear kk cx cy
      generalize Ky.nth l k = z at *
      go_wp2_with fail
      refine wq_region (by kernel_rfl) (by kernel_rfl) ?_
      refine wq_move (d := some 17) rfl rfl (by rfl) rfl ?_
      simp only [Act.put, List.setIfInBounds_toArray, List.set_cons_zero, List.set_cons_succ, List.getElem_toArray, List.getElem_cons_zero]
      refine wq_move (d := some 18) rfl rfl (by rfl) rfl ?_
      simp only [Act.put, List.setIfInBounds_toArray, List.set_cons_zero, List.set_cons_succ, List.getElem_toArray, List.getElem_cons_zero, List.getElem_cons_succ]
      refine wq_take (d := some 19) rfl (by rfl) (v := ?_) ?_ ?_
      rotate_left
      · (intro w hCw; have hKw := (unhide KK) w hCw; go_simp <;> with_reducible rfl)
      simp only [Act.put, List.setIfInBounds_toArray, List.set_cons_zero, List.set_cons_succ]
      refine wq_take (d := some 20) rfl (by rfl) (v := ?_) ?_ ?_
      rotate_left
      · (intro w hCw; have hKw := (unhide KK) w hCw; go_simp <;> with_reducible rfl)
      simp only [Act.put, List.setIfInBounds_toArray, List.set_cons_zero, List.set_cons_succ]
      refine wq_move (d := some 21) rfl rfl (by rfl) rfl ?_
      simp only [Act.put, List.setIfInBounds_toArray, List.set_cons_zero, List.set_cons_succ, List.getElem_toArray, List.getElem_cons_zero, List.getElem_cons_succ]
      refine wq_move (d := some 22) rfl rfl (by rfl) rfl ?_
      simp only [Act.put, List.setIfInBounds_toArray, List.set_cons_zero, List.set_cons_succ, List.getElem_toArray, List.getElem_cons_zero, List.getElem_cons_succ]
      refine wq_take (d := some 23) rfl (by rfl) (v := ?_) ?_ ?_
      rotate_left
      · (intro w hCw; have hKw := (unhide KK) w hCw; go_simp <;> with_reducible rfl)
      simp only [Act.put, List.setIfInBounds_toArray, List.set_cons_zero, List.set_cons_succ]
      refine wq_take (d := some 24) rfl (by rfl) (v := ?_) ?_ ?_
      rotate_left
      · (intro w hCw; have hKw := (unhide KK) w hCw; go_simp <;> with_reducible rfl)
      simp only [Act.put, List.setIfInBounds_toArray, List.set_cons_zero, List.set_cons_succ]
      refine wq_take (d := some 25) rfl (by rfl) (v := (.bool false)) ?_ ?_
      · (intro w hCw; go_simp <;> omega)
      simp only [Act.put, List.setIfInBounds_toArray, List.set_cons_zero, List.set_cons_succ]
      refine wq_nil ?_
      intro w9 hw9
      go_wp2
      go_roundw
      case rel => exact ⟨k + 1, by omega, by go_num, (unhide HW).trans (hw9.mono (unhide HW).size)⟩
      case measure => simp [intOf]; omega
    · go_wp2
      go_ret
      exact ⟨rfl, unhide HW⟩

/-- Trust as a value. -/
abbrev tvT (t : Tr.T) (kv mv : Value) : Value := tv t.n t.d kv t.has t.num t.til mv

end Go.Proofs.YtlidgoomlllonaaDoor
