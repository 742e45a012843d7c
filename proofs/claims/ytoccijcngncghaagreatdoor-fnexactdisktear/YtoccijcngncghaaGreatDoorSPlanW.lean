import Derived.Test.YtoccijcngncghaaGreatDoorMix10
/- What spec's l13One, l13Meets, l13Owner and PlanOk return; for every row of packages that can be read. -/
namespace Go.Proofs.YtoccijcngncghaaGreatDoor
open Go.RowKit

attribute [local go_sem ↓] Go.wp_at_zero Go.wp_at_succ

set_option maxHeartbeats 4000000 in
set_option maxRecDepth 100000 in
theorem l13One_any {N : Nat → Prop} (w : World) (v : Value) (l : List Ix.Pg) (h : Pks N w v l) :
    Calls Tryz.prog 76 #[v] w fun e w' => ((e = .returned (.bool true) ∧ ∀ j, j + 1 < l.length → (Ix.pg l j).1 < (Ix.pg l (j + 1)).1) ∨ (e = .returned (.bool false) ∧ ∃ j, j + 1 < l.length ∧ (Ix.pg l (j + 1)).1 ≤ (Ix.pg l j).1)) ∧ Below w.heap.size w w' := by
  obtain ⟨a, cap, rfl, hlen, hrow⟩ := h
  go_enter Tryz.func76, Tryz.ntmps76
  go_wp2_with fail
  go_loopw [3] (fun i w' => ∃ k : Nat, i = .int .i64 ((k : Int) + 1) ∧ k ≤ l.length ∧ Below w.heap.size w w' ∧ ∀ j, j < k → j + 1 < l.length → (Ix.pg l j).1 < (Ix.pg l (j + 1)).1) (fun i _ => l.length + 1 - (intOf i).toNat)
  case atStart => exact ⟨0, rfl, Nat.zero_le _, Below.refl _ _, fun j hj => by omega⟩
  case round =>
    obtain ⟨k, rfl, hk, hw, hgood⟩ := hrel
    have HW := hide hw
    have HG := hide hgood
    clear hw hgood
    by_cases hlt : k + 1 < l.length
    · obtain ⟨b, off, rfl, hb, _, hc⟩ := hrow (by omega)
      obtain ⟨fv, dv, hAt, _, _⟩ := hc k (by omega)
      obtain ⟨fv', dv', hAt', _, _⟩ := hc (k + 1) hlt
      clear hc hrow
      have kk : ∀ w', Below wr.heap.size wr w' → w'.cell? ⟨b, off + k * 4, none⟩ = some (.int .i64 (Ix.pg l k).1) ∧ w'.cell? ⟨b, off + (k + 1) * 4, none⟩ = some (.int .i64 (Ix.pg l (k + 1)).1) := fun w' hw' => by
        have hB := ((unhide HW).trans (hw'.mono (unhide HW).size)).block b hb
        exact ⟨(hAt.keep hB).1, (hAt'.keep hB).1⟩
      have HK := hide kk
      have e1 : IntKind.i64.wrap (k : Int) = (k : Int) := by simp [IntKind.wrap, IntKind.bits, IntKind.signed]; omega
      have e2 : IntKind.i64.wrap ((k : Int) + 1 + 1) = (k : Int) + 1 + 1 := by simp [IntKind.wrap, IntKind.bits, IntKind.signed]; omega
      have hi0 : (0 : Int) ≤ (k : Int) := Int.natCast_nonneg _
      have hi1 : (k : Int) < (l.length : Int) := by omega
      have hi2 : (0 : Int) ≤ (k : Int) + 1 := by omega
      have hi3 : (k : Int) + 1 < (l.length : Int) := by omega
      have et : ((k : Int) + 1).toNat = k + 1 := by omega
      clear kk hAt hAt'
      generalize hx : (Ix.pg l k).1 = x at *
      generalize hy : (Ix.pg l (k + 1)).1 = y at *
      have HX := hide (And.intro hx hy)
      clear hx hy
      by_cases hge : y ≤ x
      · have hd : decide (y ≤ x) = true := decide_eq_true hge
        go_wp2_with fail
        refine wq_region (by kernel_rfl) (by kernel_rfl) ?_
        refine wq_move (d := some 10) rfl rfl (by rfl) rfl ?_
        simp only [Act.put, List.setIfInBounds_toArray, List.set_cons_zero, List.set_cons_succ, List.getElem_toArray, List.getElem_cons_zero]
        refine wq_move (d := some 11) rfl rfl (by rfl) rfl ?_
        simp only [Act.put, List.setIfInBounds_toArray, List.set_cons_zero, List.set_cons_succ, List.getElem_toArray, List.getElem_cons_zero, List.getElem_cons_succ]
        refine wq_take (d := some 12) rfl (by rfl) (v := ?_) ?_ ?_
        rotate_left
        · (intro w hCw; have hKw := (unhide HK) w hCw; go_simp <;> with_reducible rfl)
        simp only [Act.put, List.setIfInBounds_toArray, List.set_cons_zero, List.set_cons_succ]
        refine wq_take (d := some 13) rfl (by rfl) (v := ?_) ?_ ?_
        rotate_left
        · (intro w hCw; have hKw := (unhide HK) w hCw; go_simp <;> with_reducible rfl)
        simp only [Act.put, List.setIfInBounds_toArray, List.set_cons_zero, List.set_cons_succ]
        refine wq_take (d := some 14) rfl (by rfl) (v := ?_) ?_ ?_
        rotate_left
        · (intro w hCw; have hKw := (unhide HK) w hCw; go_simp <;> with_reducible rfl)
        simp only [Act.put, List.setIfInBounds_toArray, List.set_cons_zero, List.set_cons_succ]
        refine wq_take (d := some 15) rfl (by rfl) (v := ?_) ?_ ?_
        rotate_left
        · (intro w hCw; have hKw := (unhide HK) w hCw; go_simp <;> with_reducible rfl)
        simp only [Act.put, List.setIfInBounds_toArray, List.set_cons_zero, List.set_cons_succ]
        refine wq_move (d := some 16) rfl rfl (by rfl) rfl ?_
        simp only [Act.put, List.setIfInBounds_toArray, List.set_cons_zero, List.set_cons_succ, List.getElem_toArray, List.getElem_cons_zero]
        refine wq_move (d := some 17) rfl rfl (by rfl) rfl ?_
        simp only [Act.put, List.setIfInBounds_toArray, List.set_cons_zero, List.set_cons_succ, List.getElem_toArray, List.getElem_cons_zero, List.getElem_cons_succ]
        refine wq_take (d := some 18) rfl (by rfl) (v := ?_) ?_ ?_
        rotate_left
        · (intro w hCw; have hKw := (unhide HK) w hCw; go_simp <;> with_reducible rfl)
        simp only [Act.put, List.setIfInBounds_toArray, List.set_cons_zero, List.set_cons_succ]
        refine wq_take (d := some 19) rfl (by rfl) (v := ?_) ?_ ?_
        rotate_left
        · (intro w hCw; have hKw := (unhide HK) w hCw; go_simp <;> with_reducible rfl)
        simp only [Act.put, List.setIfInBounds_toArray, List.set_cons_zero, List.set_cons_succ]
        refine wq_take (d := some 20) rfl (by rfl) (v := ?_) ?_ ?_
        rotate_left
        · (intro w hCw; have hKw := (unhide HK) w hCw; go_simp <;> with_reducible rfl)
        simp only [Act.put, List.setIfInBounds_toArray, List.set_cons_zero, List.set_cons_succ]
        refine wq_take (d := some 21) rfl (by rfl) (v := ?_) ?_ ?_
        rotate_left
        · (intro w hCw; have hKw := (unhide HK) w hCw; go_simp <;> with_reducible rfl)
        simp only [Act.put, List.setIfInBounds_toArray, List.set_cons_zero, List.set_cons_succ]
        refine wq_nil ?_
        intro w9 hw9
        go_wp2
        go_ret
        exact ⟨.inr ⟨rfl, k, hlt, by rw [(unhide HX).1, (unhide HX).2]; exact hge⟩, (unhide HW).trans (hw9.mono (unhide HW).size)⟩
      · have hd : decide (y ≤ x) = false := decide_eq_false hge
        go_wp2_with fail
        refine wq_region (by kernel_rfl) (by kernel_rfl) ?_
        refine wq_move (d := some 10) rfl rfl (by rfl) rfl ?_
        simp only [Act.put, List.setIfInBounds_toArray, List.set_cons_zero, List.set_cons_succ, List.getElem_toArray, List.getElem_cons_zero]
        refine wq_move (d := some 11) rfl rfl (by rfl) rfl ?_
        simp only [Act.put, List.setIfInBounds_toArray, List.set_cons_zero, List.set_cons_succ, List.getElem_toArray, List.getElem_cons_zero, List.getElem_cons_succ]
        refine wq_take (d := some 12) rfl (by rfl) (v := ?_) ?_ ?_
        rotate_left
        · (intro w hCw; have hKw := (unhide HK) w hCw; go_simp <;> with_reducible rfl)
        simp only [Act.put, List.setIfInBounds_toArray, List.set_cons_zero, List.set_cons_succ]
        refine wq_take (d := some 13) rfl (by rfl) (v := ?_) ?_ ?_
        rotate_left
        · (intro w hCw; have hKw := (unhide HK) w hCw; go_simp <;> with_reducible rfl)
        simp only [Act.put, List.setIfInBounds_toArray, List.set_cons_zero, List.set_cons_succ]
        refine wq_take (d := some 14) rfl (by rfl) (v := ?_) ?_ ?_
        rotate_left
        · (intro w hCw; have hKw := (unhide HK) w hCw; go_simp <;> with_reducible rfl)
        simp only [Act.put, List.setIfInBounds_toArray, List.set_cons_zero, List.set_cons_succ]
        refine wq_take (d := some 15) rfl (by rfl) (v := ?_) ?_ ?_
        rotate_left
        · (intro w hCw; have hKw := (unhide HK) w hCw; go_simp <;> with_reducible rfl)
        simp only [Act.put, List.setIfInBounds_toArray, List.set_cons_zero, List.set_cons_succ]
        refine wq_move (d := some 16) rfl rfl (by rfl) rfl ?_
        simp only [Act.put, List.setIfInBounds_toArray, List.set_cons_zero, List.set_cons_succ, List.getElem_toArray, List.getElem_cons_zero]
        refine wq_move (d := some 17) rfl rfl (by rfl) rfl ?_
        simp only [Act.put, List.setIfInBounds_toArray, List.set_cons_zero, List.set_cons_succ, List.getElem_toArray, List.getElem_cons_zero, List.getElem_cons_succ]
        refine wq_take (d := some 18) rfl (by rfl) (v := ?_) ?_ ?_
        rotate_left
        · (intro w hCw; have hKw := (unhide HK) w hCw; go_simp <;> with_reducible rfl)
        simp only [Act.put, List.setIfInBounds_toArray, List.set_cons_zero, List.set_cons_succ]
        refine wq_take (d := some 19) rfl (by rfl) (v := ?_) ?_ ?_
        rotate_left
        · (intro w hCw; have hKw := (unhide HK) w hCw; go_simp <;> with_reducible rfl)
        simp only [Act.put, List.setIfInBounds_toArray, List.set_cons_zero, List.set_cons_succ]
        refine wq_take (d := some 20) rfl (by rfl) (v := ?_) ?_ ?_
        rotate_left
        · (intro w hCw; have hKw := (unhide HK) w hCw; go_simp <;> with_reducible rfl)
        simp only [Act.put, List.setIfInBounds_toArray, List.set_cons_zero, List.set_cons_succ]
        refine wq_take (d := some 21) rfl (by rfl) (v := ?_) ?_ ?_
        rotate_left
        · (intro w hCw; have hKw := (unhide HK) w hCw; go_simp <;> with_reducible rfl)
        simp only [Act.put, List.setIfInBounds_toArray, List.set_cons_zero, List.set_cons_succ]
        refine wq_nil ?_
        intro w9 hw9
        go_wp2
        go_roundw
        case rel => exact ⟨k + 1, by go_num, by omega, (unhide HW).trans (hw9.mono (unhide HW).size), fun j hj hj2 => by
          rcases Nat.lt_or_ge j k with h | h
          · exact unhide HG j h hj2
          · obtain rfl : j = k := by omega
            rw [(unhide HX).1, (unhide HX).2]
            omega⟩
        case measure => simp [intOf]; omega
    · have hd : decide ((k : Int) + 1 < (l.length : Int)) = false := decide_eq_false (by omega)
      go_wp2
      go_ret
      exact ⟨.inl ⟨rfl, fun j hj => unhide HG j (by omega) hj⟩, unhide HW⟩

set_option maxHeartbeats 4000000 in
set_option maxRecDepth 100000 in
theorem l13Meets_any {N : Nat → Prop} (w : World) (v : Value) (l : List Ix.Pg) (x y : Int) (h : Pks N w v l) :
    Calls Tryz.prog 77 #[v, .agg #[.int .i64 x, .int .i64 y]] w fun e w' => e = .returned (.bool (Ix.newMeets l (x, y))) ∧ Below w.heap.size w w' := by
  have b0 := below1 w (.cells #[.int .i64 x, .int .i64 y] 38)
  have H0 := hide (And.intro b0 (heap_alloc_new w (.cells #[.int .i64 x, .int .i64 y] 38)))
  have HP := hide (h.later b0)
  obtain ⟨a, cap, hv⟩ := h.slice
  subst hv
  clear h b0
  have hnm : Ix.newMeets l (x, y) = ((Ix.orNone (Ix.newest l x)).2 && decide (y ≤ (Ix.orNone (Ix.newest l x)).1.2.1)) := rfl
  rw [hnm]
  clear hnm
  have CN := hide (l12Newest_any _ _ l x (unhide HP))
  generalize Ix.orNone (Ix.newest l x) = an at *
  obtain ⟨⟨nm, vr, fs, ds⟩, bo⟩ := an
  dsimp only
  go_enter Tryz.func77, Tryz.ntmps77
  go_wp2_with fail
  refine (unhide CN).mono ?_
  generalize w.alloc _ = W0 at *
  rintro e w1 ⟨u, rfl, ⟨fv, dv, rfl, ho⟩, b1⟩
  obtain ⟨fa, fc, da, dc, h1, h2⟩ := ho.forms
  dsimp only at h1 h2
  subst h1 h2
  dsimp only
  have b2 := below1 w1 (.cells #[.int .i64 nm, .int .i64 vr, .slice fa fs.length fc, .slice da ds.length dc] 42)
  have hx1 := (b1.block _ (heapLt (unhide H0).2)).trans (unhide H0).2
  have hB1 := (unhide H0).1.trans (b1.mono (unhide H0).1.size)
  have HB2 := hide (hB1.trans (b2.mono hB1.size))
  have c1 := cellOf hx1 1
  have clt := heapLt hx1
  clear ho b1 b2 hx1 hB1
  cases bo
  · go_wp2
    go_ret
    exact ⟨rfl, unhide HB2⟩
  · go_wp2
    go_ret
    exact ⟨rfl, unhide HB2⟩

set_option maxHeartbeats 4000000 in
set_option maxRecDepth 100000 in
theorem l13Owner_any {N : Nat → Prop} (w : World) (v : Value) (l : List Ix.Pg) (i : Nat) (path : Int) (h : Pks N w v l) (hi : i ≤ l.length) :
    Calls Tryz.prog 78 #[v, .int .i64 i, .int .i64 path] w fun e w' => ((∃ n : Nat, n < i ∧ Ix.owner l i path = some (Ix.pg l n) ∧ e = .returned (.int .i64 n)) ∨ (Ix.owner l i path = none ∧ e = .returned (.int .i64 (-1)))) ∧ Below w.heap.size w w' := by
  obtain ⟨a, cap, rfl, hlen, hrow⟩ := h
  go_enter Tryz.func78, Tryz.ntmps78
  go_wp2_with fail
  go_loopw [7] (fun iv w' => ∃ k : Nat, k ≤ i ∧ iv = .int .i64 k ∧ Below w.heap.size w w' ∧ ∀ j, j < k → Ix.hasAt path (Ix.pg l j) = false) (fun iv _ => i - (intOf iv).toNat)
  case atStart => exact ⟨0, Nat.zero_le _, rfl, Below.refl _ _, fun j hj => by omega⟩
  case round =>
    obtain ⟨k, hk, rfl, hw, hno⟩ := hrel
    have HW := hide hw
    have HN := hide hno
    clear hw hno
    by_cases hlt : k < i
    · obtain ⟨b, off, rfl, hb, _, hc⟩ := hrow (by omega)
      obtain ⟨fv, dv, hAt, hf, _⟩ := hc k (by omega)
      clear hc hrow
      obtain ⟨nm, vr, fs, ds, hpk⟩ : ∃ nm vr fs ds, Ix.pg l k = (nm, vr, fs, ds) := ⟨_, _, _, _, rfl⟩
      rw [hpk] at hAt hf
      dsimp only at hf
      have HPK := hide hpk
      obtain ⟨fa, fc, hfv, hfl, hfr⟩ := hf
      subst hfv
      have hi0 : (0 : Int) ≤ (k : Int) := Int.natCast_nonneg _
      have hi1 : (k : Int) < (l.length : Int) := by omega
      have hi2 : (k : Int) < (i : Int) := by omega
      have er : IntKind.i64.wrap ((k : Int) + 1) = (k : Int) + 1 := by simp [IntKind.wrap, IntKind.bits, IntKind.signed]; omega
      have hAw : Hid (∀ w', Below w.heap.size w w' → w'.cell? ⟨b, off + k * 4 + 2, none⟩ = some (.slice fa fs.length fc)) := fun w' hb2 => (hAt.keep (hb2.block b hb)).2.2.1
      clear hAt hpk
      go_wp2_with fail
      go_loopw [8] (fun jv w' => ∃ m : Nat, m ≤ fs.length ∧ jv = .int .i64 m ∧ Below w.heap.size w w' ∧ ∀ j, j < m → Pk.fst fs j ≠ path) (fun jv _ => fs.length - (intOf jv).toNat)
      case atStart => exact ⟨0, Nat.zero_le _, rfl, unhide HW, fun j hj => by omega⟩
      case round =>
        clear HW
        obtain ⟨m, hm, rfl, hw, hnf⟩ := hrel
        have HW := hide hw
        have HF := hide hnf
        clear hw hnf
        have c2 := unhide hAw wr (unhide HW)
        by_cases hlt2 : m < fs.length
        · obtain ⟨fb, fo, rfl, hfb, _, hfc⟩ := hfr (by omega)
          obtain ⟨d0, _⟩ := hfc m hlt2
          rw [← (unhide HW).cell hfb] at d0
          have hj0 : (0 : Int) ≤ (m : Int) := Int.natCast_nonneg _
          have hj1 : (m : Int) < (fs.length : Int) := by omega
          have er2 : IntKind.i64.wrap ((m : Int) + 1) = (m : Int) + 1 := by simp [IntKind.wrap, IntKind.bits, IntKind.signed]; omega
          clear hfc hfr
          by_cases hx : Pk.fst fs m = path
          · have hq : (Pk.fst fs m == path) = true := by simpa using hx
            have HX := hide hx
            clear hx
            go_wp2
            go_ret
            have hy : Ix.hasAt path (Ix.pg l k) = true := by rw [unhide HPK]; exact Ix.hasAt_yes (p := (nm, vr, fs, ds)) hlt2 (unhide HX)
            exact ⟨.inl ⟨k, hlt, Ix.owner_at hi hlt hy (unhide HN), rfl⟩, unhide HW⟩
          · have hq : (Pk.fst fs m == path) = false := by simpa using hx
            go_wp2
            go_roundw
            case rel => exact ⟨m + 1, by omega, by go_num, unhide HW, fun j hj => by
              rcases Nat.lt_or_ge j m with h | h
              · exact unhide HF j h
              · obtain rfl : j = m := by omega
                exact hx⟩
            case measure => simp [intOf]; omega
        · obtain rfl : m = fs.length := by omega
          clear hlt2
          go_wp2
          go_roundw
          case rel => exact ⟨k + 1, by omega, by go_num, unhide HW, fun j hj => by
            rcases Nat.lt_or_ge j k with h | h
            · exact unhide HN j h
            · obtain rfl : j = k := by omega
              rw [unhide HPK]
              exact Ix.hasAt_no (p := (nm, vr, fs, ds)) (unhide HF)⟩
          case measure => simp [intOf]; omega
    · obtain rfl : k = i := by omega
      clear hlt
      go_wp2
      go_ret
      exact ⟨.inr ⟨Ix.owner_no hi (unhide HN), rfl⟩, unhide HW⟩
end Go.Proofs.YtoccijcngncghaaGreatDoor
