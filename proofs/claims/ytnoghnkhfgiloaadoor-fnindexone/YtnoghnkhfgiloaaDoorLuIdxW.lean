/- What laws.luMetas and luIndex return: whether two are the same. -/
import Derived.Test.YtnoghnkhfgiloaaDoorLuTW
import Derived.Laws.StructEq
namespace Go.Proofs.YtnoghnkhfgiloaaDoor
open Go.RowKit

theorem metas_ext {l l' : List Ix.M} (hl : l.length = l'.length) (h : ∀ i, i < l.length → Ix.nm l i = Ix.nm l' i ∧ Ix.vr l i = Ix.vr l' i ∧ Ix.sm l i = Ix.sm l' i) : l = l' := by
  apply List.ext_getElem hl
  intro i h1 h2
  have := h i h1
  unfold Ix.nm Ix.vr Ix.sm at this
  rw [List.getD_eq_getElem?_getD, List.getD_eq_getElem?_getD, List.getElem?_eq_getElem h1, List.getElem?_eq_getElem h2] at this
  exact Prod.ext this.1 (Prod.ext this.2.1 this.2.2)

set_option maxHeartbeats 2000000 in
set_option maxRecDepth 100000 in
theorem luMetas_any (w : World) (va vb : Value) (l m : List Ix.M) (ha : Trs w va l) (hb : Trs w vb m) :
    Calls Tryd.prog 28 #[va, vb] w fun e w' => e = .returned (.bool (decide (l = m))) ∧ Below w.heap.size w w' := by
  obtain ⟨a, ca, rfl, hla, hra⟩ := ha
  obtain ⟨b, cb, rfl, _, hrb⟩ := hb
  by_cases hlen : l.length = m.length
  rotate_left
  · have hne : ((l.length : Int) != (m.length : Int)) = true := by simp; omega
    have HN := hide (decide_eq_false (p := l = m) (fun e => hlen (by rw [e])))
    clear hlen
    go_enter Tryd.func28, Tryd.ntmps28
    go_wp2
    go_ret
    exact ⟨ret_bool (unhide HN).symm, Below.refl _ _⟩
  have HA := hide hra
  have HB := hide hrb
  have HL := hide hlen
  have hne : ((l.length : Int) != (m.length : Int)) = false := by simp; omega
  clear hra hrb hlen
  go_enter Tryd.func28, Tryd.ntmps28
  go_wp2
  go_loopw [5] (fun i w' => ∃ k : Nat, k ≤ l.length ∧ i = .int .i64 k ∧ Below w.heap.size w w' ∧ ∀ j, j < k → Ix.nm l j = Ix.nm m j ∧ Ix.vr l j = Ix.vr m j ∧ Ix.sm l j = Ix.sm m j) (fun i _ => l.length - (intOf i).toNat)
  case atStart => exact ⟨0, Nat.zero_le _, rfl, Below.refl _ _, fun j hj => by omega⟩
  case round =>
    obtain ⟨k, hk, rfl, hw, hs⟩ := hrel
    have HW := hide hw
    have HS := hide hs
    clear hw hs
    by_cases hlt : k < l.length
    · have hlt2 : k < m.length := by have := unhide HL; omega
      obtain ⟨x, ox, rfl, hx, cx⟩ := unhide HA (by omega)
      obtain ⟨y, oy, rfl, hy, cy⟩ := unhide HB (by omega)
      have hi0 : (0 : Int) ≤ (k : Int) := Int.natCast_nonneg _
      have hi1 : (k : Int) < (l.length : Int) := by omega
      have hi2 : (k : Int) < (m.length : Int) := by omega
      have kk : ∀ w', Below wr.heap.size wr w' → (w'.cell? ⟨x, ox + k * 3, none⟩ = some (.int .i64 (Ix.nm l k)) ∧ w'.cell? ⟨x, ox + k * 3 + 1, none⟩ = some (.int .i64 (Ix.vr l k)) ∧ w'.cell? ⟨x, ox + k * 3 + 2, none⟩ = some (.int .i64 (Ix.sm l k))) ∧ (w'.cell? ⟨y, oy + k * 3, none⟩ = some (.int .i64 (Ix.nm m k)) ∧ w'.cell? ⟨y, oy + k * 3 + 1, none⟩ = some (.int .i64 (Ix.vr m k)) ∧ w'.cell? ⟨y, oy + k * 3 + 2, none⟩ = some (.int .i64 (Ix.sm m k))) := fun w' hw' => by
        have hb2 := (unhide HW).trans (hw'.mono (unhide HW).size)
        rw [hb2.cell hx, hb2.cell hx, hb2.cell hx, hb2.cell hy, hb2.cell hy, hb2.cell hy]
        exact ⟨cx k hlt, cy k hlt2⟩
      by_cases h1 : Ix.nm l k = Ix.nm m k ∧ Ix.vr l k = Ix.vr m k ∧ Ix.sm l k = Ix.sm m k
      · rw [← h1.1, ← h1.2.1, ← h1.2.2] at kk
        have H1 := hide h1
        have KK := hide kk
        clear kk cx cy h1
        go_wp2_with fail
        refine wq_region (by kernel_rfl) (by kernel_rfl) ?_
        refine wq_move (d := some 17) rfl rfl (by rfl) rfl ?_
        simp only [Act.put, List.setIfInBounds_toArray, List.set_cons_zero, List.set_cons_succ, List.getElem_toArray, List.getElem_cons_zero]
        refine wq_move (d := some 18) rfl rfl (by rfl) rfl ?_
        simp only [Act.put, List.setIfInBounds_toArray, List.set_cons_zero, List.set_cons_succ, List.getElem_toArray, List.getElem_cons_zero, List.getElem_cons_succ]
        refine wq_take (d := some 19) rfl (by rfl) (v := ?_) ?_ ?_
        rotate_left
        · (intro w hCw; have hKw := (unhide KK) w hCw; go_simp <;> with_reducible rfl)
        simp only [Act.put, List.setIfInBounds_toArray, List.set_cons_zero, List.set_cons_succ]
        refine wq_take (d := some 20) rfl (by rfl) (v := ?_) ?_ ?_
        rotate_left
        · (intro w hCw; have hKw := (unhide KK) w hCw; go_simp <;> with_reducible rfl)
        simp only [Act.put, List.setIfInBounds_toArray, List.set_cons_zero, List.set_cons_succ]
        refine wq_move (d := some 21) rfl rfl (by rfl) rfl ?_
        simp only [Act.put, List.setIfInBounds_toArray, List.set_cons_zero, List.set_cons_succ, List.getElem_toArray, List.getElem_cons_zero, List.getElem_cons_succ]
        refine wq_move (d := some 22) rfl rfl (by rfl) rfl ?_
        simp only [Act.put, List.setIfInBounds_toArray, List.set_cons_zero, List.set_cons_succ, List.getElem_toArray, List.getElem_cons_zero, List.getElem_cons_succ]
        refine wq_take (d := some 23) rfl (by rfl) (v := ?_) ?_ ?_
        rotate_left
        · (intro w hCw; have hKw := (unhide KK) w hCw; go_simp <;> with_reducible rfl)
        simp only [Act.put, List.setIfInBounds_toArray, List.set_cons_zero, List.set_cons_succ]
        refine wq_take (d := some 24) rfl (by rfl) (v := ?_) ?_ ?_
        rotate_left
        · (intro w hCw; have hKw := (unhide KK) w hCw; go_simp <;> with_reducible rfl)
        simp only [Act.put, List.setIfInBounds_toArray, List.set_cons_zero, List.set_cons_succ]
        refine wq_take (d := some 25) rfl (by rfl) (v := (.bool false)) ?_ ?_
        · (intro w hCw; go_simp <;> omega)
        simp only [Act.put, List.setIfInBounds_toArray, List.set_cons_zero, List.set_cons_succ]
        refine wq_nil ?_
        intro w9 hw9
        go_wp2
        go_roundw
        case rel => exact ⟨k + 1, by omega, by go_num, (unhide HW).trans (hw9.mono (unhide HW).size), fun j hj => by
          rcases Nat.lt_or_ge j k with h | h
          · exact unhide HS j h
          · obtain rfl : j = k := by omega
            exact unhide H1⟩
        case measure => simp [intOf]; omega
      · have HN := hide (decide_eq_false (p := l = m) (fun e => h1 (by rw [e]; exact ⟨rfl, rfl, rfl⟩)))
        have KK := hide kk
        clear kk cx cy
        generalize Ix.nm l k = z1 at *
        generalize Ix.vr l k = z2 at *
        generalize Ix.sm l k = z3 at *
        generalize Ix.nm m k = y1 at *
        generalize Ix.vr m k = y2 at *
        generalize Ix.sm m k = y3 at *
        go_wp2_with fail
        refine wq_region (by kernel_rfl) (by kernel_rfl) ?_
        by_cases e1 : z1 = y1
        · by_cases e2 : z2 = y2
          · have e3 : ¬ z3 = y3 := fun e => h1 ⟨e1, e2, e⟩
            subst e1 e2
            clear h1
            refine wq_move (d := some 17) rfl rfl (by rfl) rfl ?_
            simp only [Act.put, List.setIfInBounds_toArray, List.set_cons_zero, List.set_cons_succ, List.getElem_toArray, List.getElem_cons_zero]
            refine wq_move (d := some 18) rfl rfl (by rfl) rfl ?_
            simp only [Act.put, List.setIfInBounds_toArray, List.set_cons_zero, List.set_cons_succ, List.getElem_toArray, List.getElem_cons_zero, List.getElem_cons_succ]
            refine wq_take (d := some 19) rfl (by rfl) (v := ?_) ?_ ?_
            rotate_left
            · (intro w hCw; have hKw := (unhide KK) w hCw; go_simp <;> with_reducible rfl)
            simp only [Act.put, List.setIfInBounds_toArray, List.set_cons_zero, List.set_cons_succ]
            refine wq_take (d := some 20) rfl (by rfl) (v := ?_) ?_ ?_
            rotate_left
            · (intro w hCw; have hKw := (unhide KK) w hCw; go_simp <;> with_reducible rfl)
            simp only [Act.put, List.setIfInBounds_toArray, List.set_cons_zero, List.set_cons_succ]
            refine wq_move (d := some 21) rfl rfl (by rfl) rfl ?_
            simp only [Act.put, List.setIfInBounds_toArray, List.set_cons_zero, List.set_cons_succ, List.getElem_toArray, List.getElem_cons_zero, List.getElem_cons_succ]
            refine wq_move (d := some 22) rfl rfl (by rfl) rfl ?_
            simp only [Act.put, List.setIfInBounds_toArray, List.set_cons_zero, List.set_cons_succ, List.getElem_toArray, List.getElem_cons_zero, List.getElem_cons_succ]
            refine wq_take (d := some 23) rfl (by rfl) (v := ?_) ?_ ?_
            rotate_left
            · (intro w hCw; have hKw := (unhide KK) w hCw; go_simp <;> with_reducible rfl)
            simp only [Act.put, List.setIfInBounds_toArray, List.set_cons_zero, List.set_cons_succ]
            refine wq_take (d := some 24) rfl (by rfl) (v := ?_) ?_ ?_
            rotate_left
            · (intro w hCw; have hKw := (unhide KK) w hCw; go_simp <;> with_reducible rfl)
            simp only [Act.put, List.setIfInBounds_toArray, List.set_cons_zero, List.set_cons_succ]
            refine wq_take (d := some 25) rfl (by rfl) (v := (.bool true)) ?_ ?_
            · (intro w hCw; go_simp <;> omega)
            simp only [Act.put, List.setIfInBounds_toArray, List.set_cons_zero, List.set_cons_succ]
            refine wq_nil ?_
            intro w9 hw9
            go_wp2
            go_ret
            exact ⟨ret_bool (unhide HN).symm, (unhide HW).trans (hw9.mono (unhide HW).size)⟩
          · subst e1
            clear h1
            refine wq_move (d := some 17) rfl rfl (by rfl) rfl ?_
            simp only [Act.put, List.setIfInBounds_toArray, List.set_cons_zero, List.set_cons_succ, List.getElem_toArray, List.getElem_cons_zero]
            refine wq_move (d := some 18) rfl rfl (by rfl) rfl ?_
            simp only [Act.put, List.setIfInBounds_toArray, List.set_cons_zero, List.set_cons_succ, List.getElem_toArray, List.getElem_cons_zero, List.getElem_cons_succ]
            refine wq_take (d := some 19) rfl (by rfl) (v := ?_) ?_ ?_
            rotate_left
            · (intro w hCw; have hKw := (unhide KK) w hCw; go_simp <;> with_reducible rfl)
            simp only [Act.put, List.setIfInBounds_toArray, List.set_cons_zero, List.set_cons_succ]
            refine wq_take (d := some 20) rfl (by rfl) (v := ?_) ?_ ?_
            rotate_left
            · (intro w hCw; have hKw := (unhide KK) w hCw; go_simp <;> with_reducible rfl)
            simp only [Act.put, List.setIfInBounds_toArray, List.set_cons_zero, List.set_cons_succ]
            refine wq_move (d := some 21) rfl rfl (by rfl) rfl ?_
            simp only [Act.put, List.setIfInBounds_toArray, List.set_cons_zero, List.set_cons_succ, List.getElem_toArray, List.getElem_cons_zero, List.getElem_cons_succ]
            refine wq_move (d := some 22) rfl rfl (by rfl) rfl ?_
            simp only [Act.put, List.setIfInBounds_toArray, List.set_cons_zero, List.set_cons_succ, List.getElem_toArray, List.getElem_cons_zero, List.getElem_cons_succ]
            refine wq_take (d := some 23) rfl (by rfl) (v := ?_) ?_ ?_
            rotate_left
            · (intro w hCw; have hKw := (unhide KK) w hCw; go_simp <;> with_reducible rfl)
            simp only [Act.put, List.setIfInBounds_toArray, List.set_cons_zero, List.set_cons_succ]
            refine wq_take (d := some 24) rfl (by rfl) (v := ?_) ?_ ?_
            rotate_left
            · (intro w hCw; have hKw := (unhide KK) w hCw; go_simp <;> with_reducible rfl)
            simp only [Act.put, List.setIfInBounds_toArray, List.set_cons_zero, List.set_cons_succ]
            refine wq_take (d := some 25) rfl (by rfl) (v := (.bool true)) ?_ ?_
            · (intro w hCw; go_simp <;> omega)
            simp only [Act.put, List.setIfInBounds_toArray, List.set_cons_zero, List.set_cons_succ]
            refine wq_nil ?_
            intro w9 hw9
            go_wp2
            go_ret
            exact ⟨ret_bool (unhide HN).symm, (unhide HW).trans (hw9.mono (unhide HW).size)⟩
        · clear h1
          refine wq_move (d := some 17) rfl rfl (by rfl) rfl ?_
          simp only [Act.put, List.setIfInBounds_toArray, List.set_cons_zero, List.set_cons_succ, List.getElem_toArray, List.getElem_cons_zero]
          refine wq_move (d := some 18) rfl rfl (by rfl) rfl ?_
          simp only [Act.put, List.setIfInBounds_toArray, List.set_cons_zero, List.set_cons_succ, List.getElem_toArray, List.getElem_cons_zero, List.getElem_cons_succ]
          refine wq_take (d := some 19) rfl (by rfl) (v := ?_) ?_ ?_
          rotate_left
          · (intro w hCw; have hKw := (unhide KK) w hCw; go_simp <;> with_reducible rfl)
          simp only [Act.put, List.setIfInBounds_toArray, List.set_cons_zero, List.set_cons_succ]
          refine wq_take (d := some 20) rfl (by rfl) (v := ?_) ?_ ?_
          rotate_left
          · (intro w hCw; have hKw := (unhide KK) w hCw; go_simp <;> with_reducible rfl)
          simp only [Act.put, List.setIfInBounds_toArray, List.set_cons_zero, List.set_cons_succ]
          refine wq_move (d := some 21) rfl rfl (by rfl) rfl ?_
          simp only [Act.put, List.setIfInBounds_toArray, List.set_cons_zero, List.set_cons_succ, List.getElem_toArray, List.getElem_cons_zero, List.getElem_cons_succ]
          refine wq_move (d := some 22) rfl rfl (by rfl) rfl ?_
          simp only [Act.put, List.setIfInBounds_toArray, List.set_cons_zero, List.set_cons_succ, List.getElem_toArray, List.getElem_cons_zero, List.getElem_cons_succ]
          refine wq_take (d := some 23) rfl (by rfl) (v := ?_) ?_ ?_
          rotate_left
          · (intro w hCw; have hKw := (unhide KK) w hCw; go_simp <;> with_reducible rfl)
          simp only [Act.put, List.setIfInBounds_toArray, List.set_cons_zero, List.set_cons_succ]
          refine wq_take (d := some 24) rfl (by rfl) (v := ?_) ?_ ?_
          rotate_left
          · (intro w hCw; have hKw := (unhide KK) w hCw; go_simp <;> with_reducible rfl)
          simp only [Act.put, List.setIfInBounds_toArray, List.set_cons_zero, List.set_cons_succ]
          refine wq_take (d := some 25) rfl (by rfl) (v := (.bool true)) ?_ ?_
          · (intro w hCw; go_simp <;> omega)
          simp only [Act.put, List.setIfInBounds_toArray, List.set_cons_zero, List.set_cons_succ]
          refine wq_nil ?_
          intro w9 hw9
          go_wp2
          go_ret
          exact ⟨ret_bool (unhide HN).symm, (unhide HW).trans (hw9.mono (unhide HW).size)⟩
    · obtain rfl : k = l.length := by omega
      have HY := hide (decide_eq_true (metas_ext (unhide HL) (unhide HS)))
      clear hlt
      go_wp2
      go_ret
      exact ⟨ret_bool (unhide HY).symm, unhide HW⟩

set_option maxHeartbeats 2000000 in
set_option maxRecDepth 100000 in
theorem luIndex_any (w : World) (n d n' d' : Int) (va vb : Value) (l m : List Ix.M) (ha : Trs w va l) (hb : Trs w vb m) :
    Calls Tryd.prog 12 #[.agg #[.int .i64 n, .int .i64 d, va], .agg #[.int .i64 n', .int .i64 d', vb]] w fun e w' => e = .returned (.bool (decide (n = n' ∧ d = d' ∧ l = m))) ∧ Below w.heap.size w w' := by
  obtain ⟨a, ca, hva⟩ := ha.slice
  obtain ⟨b, cb, hvb⟩ := hb.slice
  subst hva hvb
  have B1 := below1 w (.cells #[.int .i64 n, .int .i64 d, .slice a l.length ca] 25)
  have B2 := B1.trans ((below1 (w.alloc (.cells #[.int .i64 n, .int .i64 d, .slice a l.length ca] 25)) (.cells #[.int .i64 n', .int .i64 d', .slice b m.length cb] 25)).mono B1.size)
  have I2 := hide (And.intro (ha.later B2) (hb.later B2))
  have HB2 := hide B2
  clear ha hb B1 B2
  by_cases h1 : n = n'
  rotate_left
  · have HN := hide (decide_eq_false (p := n = n' ∧ d = d' ∧ l = m) (fun e => h1 e.1))
    have e1 : (n == n') = false := by simp [h1]
    go_enter Tryd.func12, Tryd.ntmps12
    go_wp2
    go_ret
    exact ⟨ret_bool (unhide HN).symm, unhide HB2⟩
  by_cases h2 : d = d'
  rotate_left
  · have HN := hide (decide_eq_false (p := n = n' ∧ d = d' ∧ l = m) (fun e => h2 e.2.1))
    have e1 : (n == n') = true := by simp [h1]
    have e2 : (d == d') = false := by simp [h2]
    clear h1
    go_enter Tryd.func12, Tryd.ntmps12
    go_wp2
    go_ret
    exact ⟨ret_bool (unhide HN).symm, unhide HB2⟩
  have HE : Hid (decide (l = m) = decide (n = n' ∧ d = d' ∧ l = m)) := by
    show _ = _
    simp [h1, h2]
  have e1 : (n == n') = true := by simp [h1]
  have e2 : (d == d') = true := by simp [h2]
  clear h1 h2
  go_enter Tryd.func12, Tryd.ntmps12
  go_wp2_with fail
  refine (luMetas_any _ _ _ l m (unhide I2).1 (unhide I2).2).mono ?_
  generalize World.alloc _ _ = W2 at *
  rintro e w3 ⟨rfl, b3⟩
  have B3 := hide ((unhide HB2).trans (b3.mono (unhide HB2).size))
  clear b3 I2 HB2
  go_wp2
  go_ret
  exact ⟨ret_bool (unhide HE), unhide B3⟩
end Go.Proofs.YtnoghnkhfgiloaaDoor
