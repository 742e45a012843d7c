import Derived.Test.YtkhanndmbpemfaaGreatDoorMix6
import Derived.Test.YtkhanndmbpemfaaGreatDoorMix3
import Derived.Test.YtkhanndmbpemfaaGreatDoorCopyPW
import Derived.Test.YtkhanndmbpemfaaGreatDoorFaultsW
/- What spec.StoreNewest returns: the newest of a name, a copy; for every row of packages that can be read. -/
namespace Go.Proofs.YtkhanndmbpemfaaGreatDoor
open Go.RowKit

/-- What StoreNewest answers. -/
def NewAns (B : Nat) (w : World) (v : Value) (a : Ix.Pg × Bool) : Prop :=
  ∃ fv dv, v = .tuple #[.agg #[.int .i64 a.1.1, .int .i64 a.1.2.1, fv, dv], .bool a.2] ∧ OwP B w fv dv a.1.2.2.1 a.1.2.2.2
theorem NewAns.later {B : Nat} {w w' : World} {v : Value} {a : Ix.Pg × Bool} (h : NewAns B w v a) (hb : Below w.heap.size w w') : NewAns B w' v a := by
  obtain ⟨fv, dv, h1, h2⟩ := h
  exact ⟨fv, dv, h1, h2.later hb⟩
theorem NewAns.base {B B' : Nat} {w : World} {v : Value} {a : Ix.Pg × Bool} (h : NewAns B w v a) (hB : B' ≤ B) : NewAns B' w v a := by
  obtain ⟨fv, dv, h1, h2⟩ := h
  exact ⟨fv, dv, h1, h2.base hB⟩
theorem NewAns.none (B : Nat) (w : World) {l : List Ix.Pg} {n : Int} (h : Ix.newA l n = ((0, 0, [], []), false)) : NewAns B w (.tuple #[.agg #[.int .i64 0, .int .i64 0, .slice none 0 0, .slice none 0 0], .bool false]) (Ix.newA l n) := by
  rw [h]
  exact ⟨_, _, rfl, OwP.zero _ _⟩

set_option maxHeartbeats 4000000 in
set_option maxRecDepth 100000 in
theorem l12Newest_any {N : Nat → Prop} (w : World) (v : Value) (l : List Ix.Pg) (x : Int) (h : Pks N w v l) :
    Calls Tryz.prog 115 #[v, .int .i64 x] w fun e w' => ∃ u, e = .returned u ∧ NewAns w.heap.size w' u (Ix.orNone (Ix.newest l x)) ∧ Below w.heap.size w w' := by
  obtain ⟨a, cap, rfl, hlen, hrow⟩ := h
  have HA0 := hide (And.intro (heap_alloc_new w (.cells #[.int .i64 0, .int .i64 0, .slice none 0 0, .slice none 0 0] 94)) (below1 w (.cells #[.int .i64 0, .int .i64 0, .slice none 0 0, .slice none 0 0] 94)))
  have e0 : IntKind.i64.wrap ((l.length : Int) - 1) = (l.length : Int) - 1 := by simp [IntKind.wrap, IntKind.bits, IntKind.signed]; omega
  go_enter Tryz.func115, Tryz.ntmps115
  go_wp2
  go_loopw [6] (fun i w' => ∃ j : Nat, j ≤ l.length ∧ i = .int .i64 ((j : Int) - 1) ∧ Below w.heap.size w w' ∧ w'.heap[w.heap.size]? = some (.cells #[.int .i64 0, .int .i64 0, .slice none 0 0, .slice none 0 0] 94 (0, 0)) ∧ ∀ m, j ≤ m → m < l.length → (Ix.pg l m).1 ≠ x) (fun i _ => (intOf i + 1).toNat)
  case atStart => exact ⟨l.length, Nat.le_refl _, rfl, (unhide HA0).2, (unhide HA0).1, fun m h1 h2 => by omega⟩
  case round =>
    clear HA0
    obtain ⟨j, hj, rfl, hw, hA, hno⟩ := hrel
    have HW := hide hw
    have HA := hide hA
    have HN := hide hno
    clear hw hA hno
    rcases Nat.eq_zero_or_pos j with hj0 | hpos
    · subst hj0
      have hAx := unhide HA
      have c0 := cellOf hAx 0
      have c1 := cellOf hAx 1
      have c2 := cellOf hAx 2
      have c3 := cellOf hAx 3
      have f0 := frozenOf hAx 0
      have f1 := frozenOf hAx 1
      have f2 := frozenOf hAx 2
      have f3 := frozenOf hAx 3
      clear hAx
      go_wp2
      obtain ⟨⟨q0, q1, q2, q3⟩, hbel, hfar⟩ := fin4 (a := .int .i64 0) (b := .int .i64 0) (c := .slice none 0 0) (d := .slice none 0 0) (W := w) (unhide HA) (Nat.le_refl _) (unhide HW) rfl
      exact bodyPost_ret (v := .tuple #[.agg #[.int .i64 0, .int .i64 0, .slice none 0 0, .slice none 0 0], .bool false]) (by simp [results, Tryz.results115, go_sem, q0, q1, q2, q3]) rfl ⟨_, rfl, by rw [Ix.newest_none (unhide HN)]; exact ⟨_, _, rfl, OwP.zero _ _⟩, hbel⟩
    · obtain ⟨m, rfl⟩ : ∃ m, j = m + 1 := ⟨j - 1, by omega⟩
      obtain ⟨b, off, rfl, hb, _, hc⟩ := hrow (by omega)
      obtain ⟨fv, dv, hAt, hf, hd⟩ := hc m (by omega)
      clear hc hrow
      obtain ⟨nm, vr, fs, ds, hpk⟩ : ∃ nm vr fs ds, Ix.pg l m = (nm, vr, fs, ds) := ⟨_, _, _, _, rfl⟩
      rw [hpk] at hAt hf hd
      dsimp only at hf hd
      obtain ⟨fa, fc, hfv⟩ := hf.slice
      obtain ⟨da, dc, hdv⟩ := hd.slice
      subst hfv hdv
      obtain ⟨c0, c1, c2, c3⟩ := hAt.keep ((unhide HW).block b hb)
      dsimp only at c0 c1 c2 c3
      have hb' : b < wr.heap.size := Nat.lt_of_lt_of_le hb (unhide HW).size
      have ej : ((m + 1 : Nat) : Int) - 1 = (m : Int) := by omega
      have hi0 : (0 : Int) ≤ (m : Int) := Int.natCast_nonneg _
      have hi1 : (m : Int) < (l.length : Int) := by omega
      have HF := hide (And.intro (hf.prs.later (unhide HW)) (hd.prs.later (unhide HW)))
      have HPK := hide hpk
      have ew : IntKind.i64.wrap ((m : Int) - 1) = (m : Int) - 1 := by simp [IntKind.wrap, IntKind.bits, IntKind.signed]; omega
      clear hAt hf hd hpk
      rw [ej]
      clear ej
      by_cases hx : nm = x
      · subst hx
        go_wp2_with fail
        refine (specCopyPkg_any _ nm vr _ _ fs ds (unhide HF).1 (unhide HF).2).mono ?_
        rintro e w2 ⟨fv', dv', rfl, ho, hb2⟩
        obtain ⟨ga, gc, ha, hcc, h1, h2⟩ := ho.forms
        subst h1 h2
        have hA2 := (hb2.block _ (heapLt (unhide HA))).trans (unhide HA)
        have hO2 := ho.base (unhide HW).size
        have hB2 := (unhide HW).trans (hb2.mono (unhide HW).size)
        have r0 := cellOf hA2 0
        have r1 := cellOf hA2 1
        have r2 := cellOf hA2 2
        have r3 := cellOf hA2 3
        have s0 := frozenOf hA2 0
        have s1 := frozenOf hA2 1
        have s2 := frozenOf hA2 2
        have s3 := frozenOf hA2 3
        have HZ := hide (And.intro hA2 (And.intro hO2 hB2))
        clear ho hb2 hA2 hO2 hB2
        go_wp2
        obtain ⟨hR, hO, hB⟩ := unhide HZ
        obtain ⟨⟨q0, q1, q2, q3⟩, hbel, hfar⟩ := fin4 (a := .int .i64 nm) (b := .int .i64 vr) (c := .slice ga fs.length gc) (d := .slice ha ds.length hcc) (W := w) hR (Nat.le_refl _) hB rfl
        have hnew := Ix.newest_at (l := l) (n := nm) (i := m) (by omega) (by rw [unhide HPK]) (unhide HN)
        exact bodyPost_ret (v := .tuple #[.agg #[.int .i64 nm, .int .i64 vr, .slice ga fs.length gc, .slice ha ds.length hcc], .bool true]) (by simp [results, Tryz.results115, go_sem, q0, q1, q2, q3]) rfl ⟨_, rfl, by rw [hnew, unhide HPK]; exact ⟨_, _, rfl, ⟨own_keepS hO.f (fun g _ e _ hg => hfar g (fun e2 => own_ne hO.f hR (by decide) (by rw [e, e2]))), own_keepS hO.d (fun g _ e _ hg => hfar g (fun e2 => own_ne hO.d hR (by decide) (by rw [e, e2])))⟩⟩, hbel⟩
      · have hx' : (nm == x) = false := by simpa using hx
        go_wp2
        go_roundw
        case rel => exact ⟨m, by omega, rfl, unhide HW, unhide HA, fun k h1 h2 => by
          rcases Nat.lt_or_ge m k with h | h
          · exact unhide HN k h h2
          · obtain rfl : k = m := by omega
            rw [unhide HPK]
            exact hx⟩
        case measure => simp [intOf]
/-- What a package's box answers with. -/
theorem newAns_box {W w w' : World} {R : Nat} {a : Ix.Pg × Bool} {r0 r1 r2 r3 fv dv : Value} (hR : w.heap[R]? = some (.cells #[r0, r1, r2, r3] 94 (0, 0))) (lR : W.heap.size ≤ R) (hb : Below W.heap.size W w) (ho : OwP W.heap.size w fv dv a.1.2.2.1 a.1.2.2.2)
    (hw : w' = (((w.setCell ⟨R, 0, none⟩ (.int .i64 a.1.1)).setCell ⟨R, 1, none⟩ (.int .i64 a.1.2.1)).setCell ⟨R, 2, none⟩ fv).setCell ⟨R, 3, none⟩ dv) :
    (w'.cell? ⟨R, 0, none⟩ = some (.int .i64 a.1.1) ∧ w'.cell? ⟨R, 1, none⟩ = some (.int .i64 a.1.2.1) ∧ w'.cell? ⟨R, 2, none⟩ = some fv ∧ w'.cell? ⟨R, 3, none⟩ = some dv) ∧ NewAns W.heap.size w' (.tuple #[.agg #[.int .i64 a.1.1, .int .i64 a.1.2.1, fv, dv], .bool a.2]) a ∧ Below W.heap.size W w' := by
  obtain ⟨q, hbel, hfar⟩ := fin4 hR lR hb hw
  exact ⟨q, ⟨_, _, rfl, ⟨own_keepS ho.f (fun g _ e _ _ => hfar g (fun e2 => own_ne ho.f hR (by decide) (by rw [e, e2]))), own_keepS ho.d (fun g _ e _ _ => hfar g (fun e2 => own_ne ho.d hR (by decide) (by rw [e, e2])))⟩⟩, hbel⟩

end Go.Proofs.YtkhanndmbpemfaaGreatDoor

/- What both PlanOk return: whether packages can be in together; for every row of packages that can be read. -/
namespace Go.Proofs.YtkhanndmbpemfaaGreatDoor
open Go.RowKit

set_option maxHeartbeats 2000000 in
set_option maxRecDepth 100000 in
theorem implPlanOk_any {N : Nat → Prop} (w : World) (v : Value) (l : List Ix.Pg) (h : Pks N w v l) (hroom : ∀ a c, v = .slice a l.length c → l.length ≤ c) :
    Calls Tryz.prog 53 #[v] w fun e w' => e = .returned (.bool (Ix.planOk l)) ∧ Below w.heap.size w w' := by
  have H := hide h
  have HR := hide hroom
  obtain ⟨a, cap, hv⟩ := h.slice
  subst hv
  clear h hroom
  go_enter Tryz.func53, Tryz.ntmps53
  go_wp2_with fail
  refine (implStoreOk_any _ _ l (unhide H)).mono ?_
  rintro e w1 ⟨rfl, b1⟩
  have B1 := hide b1
  clear b1
  cases hk : Ix.pkgsOk l
  · go_wp2
    go_ret
    exact ⟨ret_bool (Ix.planOk_bad hk).symm, unhide B1⟩
  · go_wp2_with fail
    refine (faultsOf_any _ _ l ((unhide H).later (unhide B1)) (unhide HR) hk).mono ?_
    rintro e w2 ⟨u, rfl, hs, b2⟩
    obtain ⟨ua, uc, hu⟩ := own_formS hs
    subst hu
    have B2 := hide ((unhide B1).trans (b2.mono (unhide B1).size))
    have hp : Ix.planOk l = decide ((Ix.lines l).length = 0) := by unfold Ix.planOk; rw [hk, Bool.true_and]
    have HPL := hide hp
    clear hs b2 hp
    generalize Ix.lines l = ls at *
    by_cases h0 : ls.length = 0
    · have hq : ((ls.length : Int) == 0) = true := by rw [h0]; rfl
      have H0 := hide h0
      clear h0
      go_wp2
      go_ret
      exact ⟨ret_bool (by rw [unhide HPL, decide_eq_true (unhide H0)]), unhide B2⟩
    · have hq : ((ls.length : Int) == 0) = false := by rw [beq_eq_false_iff_ne]; omega
      go_wp2
      go_ret
      exact ⟨ret_bool (by rw [unhide HPL, decide_eq_false h0]), unhide B2⟩
end Go.Proofs.YtkhanndmbpemfaaGreatDoor

/- What spec's l13One, l13Meets, l13Owner and PlanOk return; for every row of packages that can be read. -/
namespace Go.Proofs.YtkhanndmbpemfaaGreatDoor
open Go.RowKit

attribute [local go_sem ↓] Go.wp_at_zero Go.wp_at_succ

set_option maxHeartbeats 4000000 in
set_option maxRecDepth 100000 in
theorem l13One_any {N : Nat → Prop} (w : World) (v : Value) (l : List Ix.Pg) (h : Pks N w v l) :
    Calls Tryz.prog 92 #[v] w fun e w' => ((e = .returned (.bool true) ∧ ∀ j, j + 1 < l.length → (Ix.pg l j).1 < (Ix.pg l (j + 1)).1) ∨ (e = .returned (.bool false) ∧ ∃ j, j + 1 < l.length ∧ (Ix.pg l (j + 1)).1 ≤ (Ix.pg l j).1)) ∧ Below w.heap.size w w' := by
  obtain ⟨a, cap, rfl, hlen, hrow⟩ := h
  go_enter Tryz.func92, Tryz.ntmps92
  go_wp2_with fail
  go_loopw [3] (fun i w' => ∃ k : Nat, i = .int .i64 ((k : Int) + 1) ∧ k ≤ l.length ∧ Below w.heap.size w w' ∧ ∀ j, j < k → j + 1 < l.length → (Ix.pg l j).1 < (Ix.pg l (j + 1)).1) (fun i _ => l.length + 1 - (intOf i).toNat)
  case atStart => exact ⟨0, rfl, Nat.zero_le _, Below.refl _ _, fun j hj => by omega⟩
  case round =>
    obtain ⟨k, rfl, hk, hw, hgood⟩ := hrel
    have HW := hide hw
    have HG := hide hgood
    clear hw hgood
    by_cases hlt : k + 1 < l.length
    · obtain ⟨b, off, rfl, hb, _, hc⟩ := hrow (by omega)
      obtain ⟨fv, dv, hAt, _, _⟩ := hc k (by omega)
      obtain ⟨fv', dv', hAt', _, _⟩ := hc (k + 1) hlt
      clear hc hrow
      have kk : ∀ w', Below wr.heap.size wr w' → w'.cell? ⟨b, off + k * 4, none⟩ = some (.int .i64 (Ix.pg l k).1) ∧ w'.cell? ⟨b, off + (k + 1) * 4, none⟩ = some (.int .i64 (Ix.pg l (k + 1)).1) := fun w' hw' => by
        have hB := ((unhide HW).trans (hw'.mono (unhide HW).size)).block b hb
        exact ⟨(hAt.keep hB).1, (hAt'.keep hB).1⟩
      have HK := hide kk
      have e1 : IntKind.i64.wrap (k : Int) = (k : Int) := by simp [IntKind.wrap, IntKind.bits, IntKind.signed]; omega
      have e2 : IntKind.i64.wrap ((k : Int) + 1 + 1) = (k : Int) + 1 + 1 := by simp [IntKind.wrap, IntKind.bits, IntKind.signed]; omega
      have hi0 : (0 : Int) ≤ (k : Int) := Int.natCast_nonneg _
      have hi1 : (k : Int) < (l.length : Int) := by omega
      have hi2 : (0 : Int) ≤ (k : Int) + 1 := by omega
      have hi3 : (k : Int) + 1 < (l.length : Int) := by omega
      have et : ((k : Int) + 1).toNat = k + 1 := by omega
      clear kk hAt hAt'
      generalize hx : (Ix.pg l k).1 = x at *
      generalize hy : (Ix.pg l (k + 1)).1 = y at *
      have HX := hide (And.intro hx hy)
      clear hx hy
      by_cases hge : y ≤ x
      · have hd : decide (y ≤ x) = true := decide_eq_true hge
        go_wp2_with fail
        refine wq_region (by kernel_rfl) (by kernel_rfl) ?_
        refine wq_move (d := some 10) rfl rfl (by rfl) rfl ?_
        simp only [Act.put, List.setIfInBounds_toArray, List.set_cons_zero, List.set_cons_succ, List.getElem_toArray, List.getElem_cons_zero]
        refine wq_move (d := some 11) rfl rfl (by rfl) rfl ?_
        simp only [Act.put, List.setIfInBounds_toArray, List.set_cons_zero, List.set_cons_succ, List.getElem_toArray, List.getElem_cons_zero, List.getElem_cons_succ]
        refine wq_take (d := some 12) rfl (by rfl) (v := ?_) ?_ ?_
        rotate_left
        · (intro w hCw; have hKw := (unhide HK) w hCw; go_simp <;> with_reducible rfl)
        simp only [Act.put, List.setIfInBounds_toArray, List.set_cons_zero, List.set_cons_succ]
        refine wq_take (d := some 13) rfl (by rfl) (v := ?_) ?_ ?_
        rotate_left
        · (intro w hCw; have hKw := (unhide HK) w hCw; go_simp <;> with_reducible rfl)
        simp only [Act.put, List.setIfInBounds_toArray, List.set_cons_zero, List.set_cons_succ]
        refine wq_take (d := some 14) rfl (by rfl) (v := ?_) ?_ ?_
        rotate_left
        · (intro w hCw; have hKw := (unhide HK) w hCw; go_simp <;> with_reducible rfl)
        simp only [Act.put, List.setIfInBounds_toArray, List.set_cons_zero, List.set_cons_succ]
        refine wq_take (d := some 15) rfl (by rfl) (v := ?_) ?_ ?_
        rotate_left
        · (intro w hCw; have hKw := (unhide HK) w hCw; go_simp <;> with_reducible rfl)
        simp only [Act.put, List.setIfInBounds_toArray, List.set_cons_zero, List.set_cons_succ]
        refine wq_move (d := some 16) rfl rfl (by rfl) rfl ?_
        simp only [Act.put, List.setIfInBounds_toArray, List.set_cons_zero, List.set_cons_succ, List.getElem_toArray, List.getElem_cons_zero]
        refine wq_move (d := some 17) rfl rfl (by rfl) rfl ?_
        simp only [Act.put, List.setIfInBounds_toArray, List.set_cons_zero, List.set_cons_succ, List.getElem_toArray, List.getElem_cons_zero, List.getElem_cons_succ]
        refine wq_take (d := some 18) rfl (by rfl) (v := ?_) ?_ ?_
        rotate_left
        · (intro w hCw; have hKw := (unhide HK) w hCw; go_simp <;> with_reducible rfl)
        simp only [Act.put, List.setIfInBounds_toArray, List.set_cons_zero, List.set_cons_succ]
        refine wq_take (d := some 19) rfl (by rfl) (v := ?_) ?_ ?_
        rotate_left
        · (intro w hCw; have hKw := (unhide HK) w hCw; go_simp <;> with_reducible rfl)
        simp only [Act.put, List.setIfInBounds_toArray, List.set_cons_zero, List.set_cons_succ]
        refine wq_take (d := some 20) rfl (by rfl) (v := ?_) ?_ ?_
        rotate_left
        · (intro w hCw; have hKw := (unhide HK) w hCw; go_simp <;> with_reducible rfl)
        simp only [Act.put, List.setIfInBounds_toArray, List.set_cons_zero, List.set_cons_succ]
        refine wq_take (d := some 21) rfl (by rfl) (v := ?_) ?_ ?_
        rotate_left
        · (intro w hCw; have hKw := (unhide HK) w hCw; go_simp <;> with_reducible rfl)
        simp only [Act.put, List.setIfInBounds_toArray, List.set_cons_zero, List.set_cons_succ]
        refine wq_nil ?_
        intro w9 hw9
        go_wp2
        go_ret
        exact ⟨.inr ⟨rfl, k, hlt, by rw [(unhide HX).1, (unhide HX).2]; exact hge⟩, (unhide HW).trans (hw9.mono (unhide HW).size)⟩
      · have hd : decide (y ≤ x) = false := decide_eq_false hge
        go_wp2_with fail
        refine wq_region (by kernel_rfl) (by kernel_rfl) ?_
        refine wq_move (d := some 10) rfl rfl (by rfl) rfl ?_
        simp only [Act.put, List.setIfInBounds_toArray, List.set_cons_zero, List.set_cons_succ, List.getElem_toArray, List.getElem_cons_zero]
        refine wq_move (d := some 11) rfl rfl (by rfl) rfl ?_
        simp only [Act.put, List.setIfInBounds_toArray, List.set_cons_zero, List.set_cons_succ, List.getElem_toArray, List.getElem_cons_zero, List.getElem_cons_succ]
        refine wq_take (d := some 12) rfl (by rfl) (v := ?_) ?_ ?_
        rotate_left
        · (intro w hCw; have hKw := (unhide HK) w hCw; go_simp <;> with_reducible rfl)
        simp only [Act.put, List.setIfInBounds_toArray, List.set_cons_zero, List.set_cons_succ]
        refine wq_take (d := some 13) rfl (by rfl) (v := ?_) ?_ ?_
        rotate_left
        · (intro w hCw; have hKw := (unhide HK) w hCw; go_simp <;> with_reducible rfl)
        simp only [Act.put, List.setIfInBounds_toArray, List.set_cons_zero, List.set_cons_succ]
        refine wq_take (d := some 14) rfl (by rfl) (v := ?_) ?_ ?_
        rotate_left
        · (intro w hCw; have hKw := (unhide HK) w hCw; go_simp <;> with_reducible rfl)
        simp only [Act.put, List.setIfInBounds_toArray, List.set_cons_zero, List.set_cons_succ]
        refine wq_take (d := some 15) rfl (by rfl) (v := ?_) ?_ ?_
        rotate_left
        · (intro w hCw; have hKw := (unhide HK) w hCw; go_simp <;> with_reducible rfl)
        simp only [Act.put, List.setIfInBounds_toArray, List.set_cons_zero, List.set_cons_succ]
        refine wq_move (d := some 16) rfl rfl (by rfl) rfl ?_
        simp only [Act.put, List.setIfInBounds_toArray, List.set_cons_zero, List.set_cons_succ, List.getElem_toArray, List.getElem_cons_zero]
        refine wq_move (d := some 17) rfl rfl (by rfl) rfl ?_
        simp only [Act.put, List.setIfInBounds_toArray, List.set_cons_zero, List.set_cons_succ, List.getElem_toArray, List.getElem_cons_zero, List.getElem_cons_succ]
        refine wq_take (d := some 18) rfl (by rfl) (v := ?_) ?_ ?_
        rotate_left
        · (intro w hCw; have hKw := (unhide HK) w hCw; go_simp <;> with_reducible rfl)
        simp only [Act.put, List.setIfInBounds_toArray, List.set_cons_zero, List.set_cons_succ]
        refine wq_take (d := some 19) rfl (by rfl) (v := ?_) ?_ ?_
        rotate_left
        · (intro w hCw; have hKw := (unhide HK) w hCw; go_simp <;> with_reducible rfl)
        simp only [Act.put, List.setIfInBounds_toArray, List.set_cons_zero, List.set_cons_succ]
        refine wq_take (d := some 20) rfl (by rfl) (v := ?_) ?_ ?_
        rotate_left
        · (intro w hCw; have hKw := (unhide HK) w hCw; go_simp <;> with_reducible rfl)
        simp only [Act.put, List.setIfInBounds_toArray, List.set_cons_zero, List.set_cons_succ]
        refine wq_take (d := some 21) rfl (by rfl) (v := ?_) ?_ ?_
        rotate_left
        · (intro w hCw; have hKw := (unhide HK) w hCw; go_simp <;> with_reducible rfl)
        simp only [Act.put, List.setIfInBounds_toArray, List.set_cons_zero, List.set_cons_succ]
        refine wq_nil ?_
        intro w9 hw9
        go_wp2
        go_roundw
        case rel => exact ⟨k + 1, by go_num, by omega, (unhide HW).trans (hw9.mono (unhide HW).size), fun j hj hj2 => by
          rcases Nat.lt_or_ge j k with h | h
          · exact unhide HG j h hj2
          · obtain rfl : j = k := by omega
            rw [(unhide HX).1, (unhide HX).2]
            omega⟩
        case measure => simp [intOf]; omega
    · have hd : decide ((k : Int) + 1 < (l.length : Int)) = false := decide_eq_false (by omega)
      go_wp2
      go_ret
      exact ⟨.inl ⟨rfl, fun j hj => unhide HG j (by omega) hj⟩, unhide HW⟩

set_option maxHeartbeats 4000000 in
set_option maxRecDepth 100000 in
theorem l13Meets_any {N : Nat → Prop} (w : World) (v : Value) (l : List Ix.Pg) (x y : Int) (h : Pks N w v l) :
    Calls Tryz.prog 93 #[v, .agg #[.int .i64 x, .int .i64 y]] w fun e w' => e = .returned (.bool (Ix.newMeets l (x, y))) ∧ Below w.heap.size w w' := by
  have b0 := below1 w (.cells #[.int .i64 x, .int .i64 y] 117)
  have H0 := hide (And.intro b0 (heap_alloc_new w (.cells #[.int .i64 x, .int .i64 y] 117)))
  have HP := hide (h.later b0)
  obtain ⟨a, cap, hv⟩ := h.slice
  subst hv
  clear h b0
  have hnm : Ix.newMeets l (x, y) = ((Ix.orNone (Ix.newest l x)).2 && decide (y ≤ (Ix.orNone (Ix.newest l x)).1.2.1)) := rfl
  rw [hnm]
  clear hnm
  have CN := hide (l12Newest_any _ _ l x (unhide HP))
  generalize Ix.orNone (Ix.newest l x) = an at *
  obtain ⟨⟨nm, vr, fs, ds⟩, bo⟩ := an
  dsimp only
  go_enter Tryz.func93, Tryz.ntmps93
  go_wp2_with fail
  refine (unhide CN).mono ?_
  generalize w.alloc _ = W0 at *
  rintro e w1 ⟨u, rfl, ⟨fv, dv, rfl, ho⟩, b1⟩
  obtain ⟨fa, fc, da, dc, h1, h2⟩ := ho.forms
  dsimp only at h1 h2
  subst h1 h2
  dsimp only
  have b2 := below1 w1 (.cells #[.int .i64 nm, .int .i64 vr, .slice fa fs.length fc, .slice da ds.length dc] 94)
  have hx1 := (b1.block _ (heapLt (unhide H0).2)).trans (unhide H0).2
  have hB1 := (unhide H0).1.trans (b1.mono (unhide H0).1.size)
  have HB2 := hide (hB1.trans (b2.mono hB1.size))
  have c1 := cellOf hx1 1
  have clt := heapLt hx1
  clear ho b1 b2 hx1 hB1
  cases bo
  · go_wp2
    go_ret
    exact ⟨rfl, unhide HB2⟩
  · go_wp2
    go_ret
    exact ⟨rfl, unhide HB2⟩

set_option maxHeartbeats 4000000 in
set_option maxRecDepth 100000 in
theorem l13Owner_any {N : Nat → Prop} (w : World) (v : Value) (l : List Ix.Pg) (i : Nat) (path : Int) (h : Pks N w v l) (hi : i ≤ l.length) :
    Calls Tryz.prog 94 #[v, .int .i64 i, .int .i64 path] w fun e w' => ((∃ n : Nat, n < i ∧ Ix.owner l i path = some (Ix.pg l n) ∧ e = .returned (.int .i64 n)) ∨ (Ix.owner l i path = none ∧ e = .returned (.int .i64 (-1)))) ∧ Below w.heap.size w w' := by
  obtain ⟨a, cap, rfl, hlen, hrow⟩ := h
  go_enter Tryz.func94, Tryz.ntmps94
  go_wp2_with fail
  go_loopw [7] (fun iv w' => ∃ k : Nat, k ≤ i ∧ iv = .int .i64 k ∧ Below w.heap.size w w' ∧ ∀ j, j < k → Ix.hasAt path (Ix.pg l j) = false) (fun iv _ => i - (intOf iv).toNat)
  case atStart => exact ⟨0, Nat.zero_le _, rfl, Below.refl _ _, fun j hj => by omega⟩
  case round =>
    obtain ⟨k, hk, rfl, hw, hno⟩ := hrel
    have HW := hide hw
    have HN := hide hno
    clear hw hno
    by_cases hlt : k < i
    · obtain ⟨b, off, rfl, hb, _, hc⟩ := hrow (by omega)
      obtain ⟨fv, dv, hAt, hf, _⟩ := hc k (by omega)
      clear hc hrow
      obtain ⟨nm, vr, fs, ds, hpk⟩ : ∃ nm vr fs ds, Ix.pg l k = (nm, vr, fs, ds) := ⟨_, _, _, _, rfl⟩
      rw [hpk] at hAt hf
      dsimp only at hf
      have HPK := hide hpk
      obtain ⟨fa, fc, hfv, hfl, hfr⟩ := hf
      subst hfv
      have hi0 : (0 : Int) ≤ (k : Int) := Int.natCast_nonneg _
      have hi1 : (k : Int) < (l.length : Int) := by omega
      have hi2 : (k : Int) < (i : Int) := by omega
      have er : IntKind.i64.wrap ((k : Int) + 1) = (k : Int) + 1 := by simp [IntKind.wrap, IntKind.bits, IntKind.signed]; omega
      have hAw : Hid (∀ w', Below w.heap.size w w' → w'.cell? ⟨b, off + k * 4 + 2, none⟩ = some (.slice fa fs.length fc)) := fun w' hb2 => (hAt.keep (hb2.block b hb)).2.2.1
      clear hAt hpk
      go_wp2_with fail
      go_loopw [8] (fun jv w' => ∃ m : Nat, m ≤ fs.length ∧ jv = .int .i64 m ∧ Below w.heap.size w w' ∧ ∀ j, j < m → Pk.fst fs j ≠ path) (fun jv _ => fs.length - (intOf jv).toNat)
      case atStart => exact ⟨0, Nat.zero_le _, rfl, unhide HW, fun j hj => by omega⟩
      case round =>
        clear HW
        obtain ⟨m, hm, rfl, hw, hnf⟩ := hrel
        have HW := hide hw
        have HF := hide hnf
        clear hw hnf
        have c2 := unhide hAw wr (unhide HW)
        by_cases hlt2 : m < fs.length
        · obtain ⟨fb, fo, rfl, hfb, _, hfc⟩ := hfr (by omega)
          obtain ⟨d0, _⟩ := hfc m hlt2
          rw [← (unhide HW).cell hfb] at d0
          have hj0 : (0 : Int) ≤ (m : Int) := Int.natCast_nonneg _
          have hj1 : (m : Int) < (fs.length : Int) := by omega
          have er2 : IntKind.i64.wrap ((m : Int) + 1) = (m : Int) + 1 := by simp [IntKind.wrap, IntKind.bits, IntKind.signed]; omega
          clear hfc hfr
          by_cases hx : Pk.fst fs m = path
          · have hq : (Pk.fst fs m == path) = true := by simpa using hx
            have HX := hide hx
            clear hx
            go_wp2
            go_ret
            have hy : Ix.hasAt path (Ix.pg l k) = true := by rw [unhide HPK]; exact Ix.hasAt_yes (p := (nm, vr, fs, ds)) hlt2 (unhide HX)
            exact ⟨.inl ⟨k, hlt, Ix.owner_at hi hlt hy (unhide HN), rfl⟩, unhide HW⟩
          · have hq : (Pk.fst fs m == path) = false := by simpa using hx
            go_wp2
            go_roundw
            case rel => exact ⟨m + 1, by omega, by go_num, unhide HW, fun j hj => by
              rcases Nat.lt_or_ge j m with h | h
              · exact unhide HF j h
              · obtain rfl : j = m := by omega
                exact hx⟩
            case measure => simp [intOf]; omega
        · obtain rfl : m = fs.length := by omega
          clear hlt2
          go_wp2
          go_roundw
          case rel => exact ⟨k + 1, by omega, by go_num, unhide HW, fun j hj => by
            rcases Nat.lt_or_ge j k with h | h
            · exact unhide HN j h
            · obtain rfl : j = k := by omega
              rw [unhide HPK]
              exact Ix.hasAt_no (p := (nm, vr, fs, ds)) (unhide HF)⟩
          case measure => simp [intOf]; omega
    · obtain rfl : k = i := by omega
      clear hlt
      go_wp2
      go_ret
      exact ⟨.inr ⟨Ix.owner_no hi (unhide HN), rfl⟩, unhide HW⟩
end Go.Proofs.YtkhanndmbpemfaaGreatDoor
