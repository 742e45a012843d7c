/- What laws.luIn returns: whether a package is among others. -/
import Derived.Test.YtmbnkgoolgcjlaaLuW
import Derived.Test.YtmbnkgoolgcjlaaPksW
namespace Go.Proofs.Ytmbnkgoolgcjlaa
open Go.RowKit

theorem same_pg {p q : Ix.Pg} : same p.1 p.2.1 q.1 q.2.1 p.2.2.1 p.2.2.2 q.2.2.1 q.2.2.2 = decide (p = q) := by
  obtain ⟨a, b, c, d⟩ := p
  obtain ⟨a', b', c', d'⟩ := q
  unfold same
  simp
/-- Packages at places that differ. -/
theorem not_in {l : List Ix.Pg} {p : Ix.Pg} (h : ∀ j, j < l.length → Ix.pg l j ≠ p) : decide (p ∈ l) = false := by
  rw [decide_eq_false_iff_not]
  intro hm
  obtain ⟨i, hi, e⟩ := List.getElem_of_mem hm
  refine h i hi ?_
  unfold Ix.pg
  rw [List.getD_eq_getElem?_getD, List.getElem?_eq_getElem hi]
  exact e

set_option maxHeartbeats 4000000 in
set_option maxRecDepth 100000 in
theorem luIn_any {N : Nat → Prop} (w : World) (v : Value) (l : List Ix.Pg) (nm vr : Int) (fv dv : Value) (fs ds : List (Int × Int)) (h : Pks N w v l) (hf : Prs w fv fs) (hd : Prs w dv ds) :
    Calls Try.prog 14 #[v, .agg #[.int .i64 nm, .int .i64 vr, fv, dv]] w fun e w' => e = .returned (.bool (decide ((nm, vr, fs, ds) ∈ l))) ∧ Below w.heap.size w w' := by
  obtain ⟨pa, pc, hpv⟩ := hf.slice
  obtain ⟨qa, qc, hqv⟩ := hd.slice
  subst hpv hqv
  have B0 := below1 w (.cells #[.int .i64 nm, .int .i64 vr, .slice pa fs.length pc, .slice qa ds.length qc] 29)
  have HA0 := hide (And.intro (heap_alloc_new w (.cells #[.int .i64 nm, .int .i64 vr, .slice pa fs.length pc, .slice qa ds.length qc] 29)) B0)
  have HF := hide (And.intro hf hd)
  clear hf hd B0
  obtain ⟨a, cap, rfl, hlen, hrow⟩ := h
  go_enter Try.func14, Try.ntmps14
  go_wp2
  go_loopw [5] (fun i w' => ∃ k : Nat, k ≤ l.length ∧ i = .int .i64 k ∧ Below w.heap.size w w' ∧ w'.heap[w.heap.size]? = some (.cells #[.int .i64 nm, .int .i64 vr, .slice pa fs.length pc, .slice qa ds.length qc] 29 (0, 0)) ∧ ∀ j, j < k → Ix.pg l j ≠ (nm, vr, fs, ds)) (fun i _ => l.length - (intOf i).toNat)
  case atStart => exact ⟨0, Nat.zero_le _, rfl, (unhide HA0).2, (unhide HA0).1, fun j hj => by omega⟩
  case round =>
    clear HA0
    obtain ⟨k, hk, rfl, hw, hA, hno⟩ := hrel
    have HW := hide hw
    have HA := hide hA
    have HN := hide hno
    clear hw hA hno
    by_cases hlt : k < l.length
    · obtain ⟨b, off, rfl, hb, _, hc⟩ := hrow (by omega)
      obtain ⟨fv, dv, hAt, hf, hd⟩ := hc k hlt
      clear hc hrow
      obtain ⟨n2, v2, f2, d2, hpk⟩ : ∃ nm vr fs ds, Ix.pg l k = (nm, vr, fs, ds) := ⟨_, _, _, _, rfl⟩
      rw [hpk] at hAt hf hd
      dsimp only at hf hd
      obtain ⟨fa, fc, hfv⟩ := hf.slice
      obtain ⟨da, dc, hdv⟩ := hd.slice
      subst hfv hdv
      have hi0 : (0 : Int) ≤ (k : Int) := Int.natCast_nonneg _
      have hi1 : (k : Int) < (l.length : Int) := by omega
      have kk : ∀ w', Below wr.heap.size wr w' → (w'.cell? ⟨b, off + k * 4, none⟩ = some (.int .i64 n2) ∧ w'.cell? ⟨b, off + k * 4 + 1, none⟩ = some (.int .i64 v2) ∧ w'.cell? ⟨b, off + k * 4 + 2, none⟩ = some (.slice fa f2.length fc) ∧ w'.cell? ⟨b, off + k * 4 + 3, none⟩ = some (.slice da d2.length dc)) ∧ (w'.cell? ⟨w.heap.size, 0, none⟩ = some (.int .i64 nm) ∧ w'.cell? ⟨w.heap.size, 1, none⟩ = some (.int .i64 vr) ∧ w'.cell? ⟨w.heap.size, 2, none⟩ = some (.slice pa fs.length pc) ∧ w'.cell? ⟨w.heap.size, 3, none⟩ = some (.slice qa ds.length qc)) := fun w' hw' => by
        have hx := (hw'.block _ (heapLt (unhide HA))).trans (unhide HA)
        exact ⟨hAt.keep (((unhide HW).trans (hw'.mono (unhide HW).size)).block b hb), cellOf hx 0, cellOf hx 1, cellOf hx 2, cellOf hx 3⟩
      have HK := hide kk
      have cP : ∀ w', Below wr.heap.size wr w' → Calls Try.prog 13 #[.agg #[.int .i64 n2, .int .i64 v2, .slice fa f2.length fc, .slice da d2.length dc], .agg #[.int .i64 nm, .int .i64 vr, .slice pa fs.length pc, .slice qa ds.length qc]] w' fun e w'' => e = .returned (.bool (decide (Ix.pg l k = (nm, vr, fs, ds)))) ∧ Below wr.heap.size wr w'' := fun w' hw' => by
        have hB := (unhide HW).trans (hw'.mono (unhide HW).size)
        refine (lu_any w' n2 v2 nm vr _ _ _ _ f2 d2 fs ds (hf.prs.later hB) (hd.prs.later hB) ((unhide HF).1.later hB) ((unhide HF).2.later hB)).mono ?_
        rintro e w'' ⟨he, hb⟩
        refine ⟨?_, hw'.trans (hb.mono hw'.size)⟩
        rw [he, hpk]
        exact congrArg (fun b => Ending.returned (.bool b)) (same_pg (p := (n2, v2, f2, d2)) (q := (nm, vr, fs, ds)))
      have CP := hide cP
      have HPK := hide hpk
      clear kk hAt hf hd hpk cP
      by_cases hS : Ix.pg l k = (nm, vr, fs, ds)
      · rw [decide_eq_true hS] at CP
        have HSS := hide hS
        clear hS
        go_wp2_with fail
        refine wq_region (by kernel_rfl) (by kernel_rfl) ?_
        refine wq_move (d := some 12) rfl rfl (by rfl) rfl ?_
        simp only [Act.put, List.setIfInBounds_toArray, List.set_cons_zero, List.set_cons_succ, List.getElem_toArray, List.getElem_cons_zero]
        refine wq_move (d := some 13) rfl rfl (by rfl) rfl ?_
        simp only [Act.put, List.setIfInBounds_toArray, List.set_cons_zero, List.set_cons_succ, List.getElem_toArray, List.getElem_cons_zero, List.getElem_cons_succ]
        refine wq_take (d := some 14) rfl (by rfl) (v := ?_) ?_ ?_
        rotate_left
        · (intro w hCw; have hKw := (unhide HK) w hCw; go_simp <;> with_reducible rfl)
        simp only [Act.put, List.setIfInBounds_toArray, List.set_cons_zero, List.set_cons_succ]
        refine wq_take (d := some 15) rfl (by rfl) (v := ?_) ?_ ?_
        rotate_left
        · (intro w hCw; have hKw := (unhide HK) w hCw; go_simp <;> with_reducible rfl)
        simp only [Act.put, List.setIfInBounds_toArray, List.set_cons_zero, List.set_cons_succ]
        refine wq_take (d := some 16) rfl (by rfl) (v := ?_) ?_ ?_
        rotate_left
        · (intro w hCw; have hKw := (unhide HK) w hCw; go_simp <;> with_reducible rfl)
        simp only [Act.put, List.setIfInBounds_toArray, List.set_cons_zero, List.set_cons_succ]
        refine wq_call (d := some 17) rfl (by rfl) (hc := (unhide CP)) ?_ ?_
        · (intro w hCw; go_simp)
        simp only [Act.put, List.setIfInBounds_toArray, List.set_cons_zero, List.set_cons_succ]
        refine wq_nil ?_
        intro w9 hw9
        go_wp2
        go_ret
        have hm := Ix.pg_mem hlt
        rw [unhide HSS] at hm
        exact ⟨ret_bool (decide_eq_true hm).symm, (unhide HW).trans (hw9.mono (unhide HW).size)⟩
      · rw [decide_eq_false hS] at CP
        have HSS := hide hS
        clear hS
        go_wp2_with fail
        refine wq_region (by kernel_rfl) (by kernel_rfl) ?_
        refine wq_move (d := some 12) rfl rfl (by rfl) rfl ?_
        simp only [Act.put, List.setIfInBounds_toArray, List.set_cons_zero, List.set_cons_succ, List.getElem_toArray, List.getElem_cons_zero]
        refine wq_move (d := some 13) rfl rfl (by rfl) rfl ?_
        simp only [Act.put, List.setIfInBounds_toArray, List.set_cons_zero, List.set_cons_succ, List.getElem_toArray, List.getElem_cons_zero, List.getElem_cons_succ]
        refine wq_take (d := some 14) rfl (by rfl) (v := ?_) ?_ ?_
        rotate_left
        · (intro w hCw; have hKw := (unhide HK) w hCw; go_simp <;> with_reducible rfl)
        simp only [Act.put, List.setIfInBounds_toArray, List.set_cons_zero, List.set_cons_succ]
        refine wq_take (d := some 15) rfl (by rfl) (v := ?_) ?_ ?_
        rotate_left
        · (intro w hCw; have hKw := (unhide HK) w hCw; go_simp <;> with_reducible rfl)
        simp only [Act.put, List.setIfInBounds_toArray, List.set_cons_zero, List.set_cons_succ]
        refine wq_take (d := some 16) rfl (by rfl) (v := ?_) ?_ ?_
        rotate_left
        · (intro w hCw; have hKw := (unhide HK) w hCw; go_simp <;> with_reducible rfl)
        simp only [Act.put, List.setIfInBounds_toArray, List.set_cons_zero, List.set_cons_succ]
        refine wq_call (d := some 17) rfl (by rfl) (hc := (unhide CP)) ?_ ?_
        · (intro w hCw; go_simp)
        simp only [Act.put, List.setIfInBounds_toArray, List.set_cons_zero, List.set_cons_succ]
        refine wq_nil ?_
        intro w9 hw9
        go_wp2
        go_roundw
        case rel => exact ⟨k + 1, by omega, by go_num, (unhide HW).trans (hw9.mono (unhide HW).size), (hw9.block _ (heapLt (unhide HA))).trans (unhide HA), fun j hj => by
          rcases Nat.lt_or_ge j k with h | h
          · exact unhide HN j h
          · obtain rfl : j = k := by omega
            exact unhide HSS⟩
        case measure => simp [intOf]; omega
    · obtain rfl : k = l.length := by omega
      clear hlt
      go_wp2
      go_ret
      exact ⟨ret_bool (not_in (unhide HN)).symm, unhide HW⟩
end Go.Proofs.Ytmbnkgoolgcjlaa
