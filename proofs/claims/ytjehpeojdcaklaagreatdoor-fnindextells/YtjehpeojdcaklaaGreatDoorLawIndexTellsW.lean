/- The walk of laws.FnIndexTells: it returns true; for every code. -/
import Derived.Test.YtjehpeojdcaklaaGreatDoorDrawHasW
import Derived.Test.YtjehpeojdcaklaaGreatDoorSpecHasW
import Derived.Test.YtjehpeojdcaklaaGreatDoorLuW
import Derived.Test.YtjehpeojdcaklaaGreatDoorSumW
namespace Go.Proofs.YtjehpeojdcaklaaGreatDoor
open Go.RowKit

attribute [local go_sem ↓] Go.wp_at_zero Go.wp_at_succ

set_option maxHeartbeats 8000000 in
set_option maxRecDepth 100000 in
theorem indexTells_walk (w : World) (a0 : Option Addr) (len0 cap0 : Nat) (w0 : Bytes w a0 len0 cap0) (ev : Addr) (g : Gl w ev) :
    Calls Tryz.prog 5 #[.slice a0 len0 cap0] w fun e w' => e = .returned (.bool true) ∧ Below w.heap.size w w' := by
  have W0 := hide w0
  have BW := hide (Below.refl w.heap.size w)
  have G := hide g
  clear w0 g
  by_cases g0 : len0 ≤ 1048576
  rotate_left
  · have g0' : decide ((1048576 : Int) < (len0 : Int)) = true := by simp; omega
    go_enter Tryz.func5, Tryz.ntmps5
    go_wp2
    go_ret
    exact ⟨rfl, Below.refl _ _⟩
  go_enter Tryz.func5, Tryz.ntmps5
  go_wp2_with fail
  refine (drawHas_any w a0 len0 cap0 (unhide W0)).mono ?_
  rintro e w2 ⟨num, til, ma, mc, ms, s, rfl, hml, ho, hs40, bb⟩
  replace BW := hide ((unhide BW).trans (bb.mono (unhide BW).size))
  replace G := hide ((unhide G).later bb)
  clear bb W0
  have bx := below1 w2 (.cells #[.int .i64 num, .int .i64 til, .slice ma ms.length mc] 28)
  have T1 := hide ((Trs.own ho (by omega)).later bx)
  have X1 := hide (heap_alloc_new w2 (.cells #[.int .i64 num, .int .i64 til, .slice ma ms.length mc] 28))
  replace BW := hide ((unhide BW).trans (bx.mono (unhide BW).size))
  replace G := hide ((unhide G).later bx)
  clear bx ho
  obtain ⟨x0, x1, x2⟩ : _ ∧ _ ∧ _ := ⟨cellOf (unhide X1) 0, cellOf (unhide X1) 1, cellOf (unhide X1) 2⟩
  go_wp2_with fail
  refine (specHas_any _ num til _ ms s (unhide T1)).mono ?_
  generalize hQ : w2.heap.size = X at *
  generalize w2.alloc _ = W2 at *
  clear hQ
  clear w2
  have CI := hide (fun (W : World) (h : Trs W (.slice ma ms.length mc) ms) (g : Gl W ev) => implHas_any W num til _ ms s ev g h)
  unfold HasAns at CI
  rintro e w3 ⟨fv, dv, rfl, hf, hd, bb⟩
  replace BW := hide ((unhide BW).trans (bb.mono (unhide BW).size))
  replace G := hide ((unhide G).later bb)
  replace T1 := hide ((unhide T1).later bb)
  replace X1 := hide ((bb.block _ (heapLt (unhide X1))).trans (unhide X1))
  clear bb x0 x1 x2
  have hln := Ix.hasD_len num til ms s.data.toList
  obtain ⟨nm, vr, fs, ds, hp⟩ : ∃ nm vr fs ds, Ix.hasD num til ms s.data.toList = (nm, vr, fs, ds) := ⟨_, _, _, _, rfl⟩
  obtain ⟨b, hb⟩ : ∃ b, Ix.hasB num til ms s.data.toList = b := ⟨_, rfl⟩
  rw [hp, hb] at CI
  rw [hp] at hf hd hln
  rw [hp, hb]
  have HPB := hide (And.intro hp hb)
  dsimp only at hf hd hln ⊢
  obtain ⟨fa, fc, rfl⟩ := own_form hf
  obtain ⟨da, dc, rfl⟩ := own_form hd
  have hbb : (b != b) = false := by cases b <;> rfl
  clear hp hb
  have bx := below1 w3 (.cells #[.int .i64 nm, .int .i64 vr, .slice fa fs.length fc, .slice da ds.length dc] 35)
  have PF := hide ((Prs.own hf (by omega)).later bx)
  have PD := hide ((Prs.own hd (by omega)).later bx)
  have X2 := hide (heap_alloc_new w3 (.cells #[.int .i64 nm, .int .i64 vr, .slice fa fs.length fc, .slice da ds.length dc] 35))
  replace BW := hide ((unhide BW).trans (bx.mono (unhide BW).size))
  replace G := hide ((unhide G).later bx)
  replace T1 := hide ((unhide T1).later bx)
  replace X1 := hide ((bx.block _ (heapLt (unhide X1))).trans (unhide X1))
  clear bx hf hd
  clear W2
  obtain ⟨x0, x1, x2⟩ : _ ∧ _ ∧ _ := ⟨cellOf (unhide X1) 0, cellOf (unhide X1) 1, cellOf (unhide X1) 2⟩
  go_wp2_with fail
  refine (unhide CI _ (unhide T1) (unhide G)).mono ?_
  generalize hQ : w3.heap.size = P at *
  generalize w3.alloc _ = W3 at *
  clear hQ
  clear w3
  rintro e w4 ⟨fv, dv, rfl, hf, hd, bb⟩
  replace BW := hide ((unhide BW).trans (bb.mono (unhide BW).size))
  replace G := hide ((unhide G).later bb)
  replace T1 := hide ((unhide T1).later bb)
  replace X1 := hide ((bb.block _ (heapLt (unhide X1))).trans (unhide X1))
  replace PF := hide ((unhide PF).later bb)
  replace PD := hide ((unhide PD).later bb)
  replace X2 := hide ((bb.block _ (heapLt (unhide X2))).trans (unhide X2))
  clear bb x0 x1 x2
  dsimp only at hf hd ⊢
  obtain ⟨ga, gc, rfl⟩ := own_form hf
  obtain ⟨ea, ec, rfl⟩ := own_form hd
  have bx := below1 w4 (.cells #[.int .i64 nm, .int .i64 vr, .slice ga fs.length gc, .slice ea ds.length ec] 35)
  have QF := hide ((Prs.own hf (by omega)).later bx)
  have QD := hide ((Prs.own hd (by omega)).later bx)
  have X3 := hide (heap_alloc_new w4 (.cells #[.int .i64 nm, .int .i64 vr, .slice ga fs.length gc, .slice ea ds.length ec] 35))
  replace BW := hide ((unhide BW).trans (bx.mono (unhide BW).size))
  replace G := hide ((unhide G).later bx)
  replace T1 := hide ((unhide T1).later bx)
  replace X1 := hide ((bx.block _ (heapLt (unhide X1))).trans (unhide X1))
  replace PF := hide ((unhide PF).later bx)
  replace PD := hide ((unhide PD).later bx)
  replace X2 := hide ((bx.block _ (heapLt (unhide X2))).trans (unhide X2))
  clear bx hf hd
  clear W3
  have hsame : same nm vr nm vr fs ds fs ds = true := same_yes ⟨rfl, rfl, rfl, rfl⟩
  have HSM := hide hsame
  clear hsame CI
  obtain ⟨p0, p1, p2, p3⟩ : _ ∧ _ ∧ _ ∧ _ := ⟨cellOf (unhide X2) 0, cellOf (unhide X2) 1, cellOf (unhide X2) 2, cellOf (unhide X2) 3⟩
  go_wp2_with fail
  refine (lu_any _ nm vr nm vr _ _ _ _ fs ds fs ds (unhide QF) (unhide QD) (unhide PF) (unhide PD)).mono ?_
  rw [unhide HSM]
  generalize hQ : w4.heap.size = Q at *
  generalize w4.alloc _ = W4 at *
  clear hQ
  clear w4
  rintro e w5 ⟨rfl, bb⟩
  replace BW := hide ((unhide BW).trans (bb.mono (unhide BW).size))
  replace G := hide ((unhide G).later bb)
  replace T1 := hide ((unhide T1).later bb)
  replace X1 := hide ((bb.block _ (heapLt (unhide X1))).trans (unhide X1))
  replace PF := hide ((unhide PF).later bb)
  replace PD := hide ((unhide PD).later bb)
  replace X2 := hide ((bb.block _ (heapLt (unhide X2))).trans (unhide X2))
  replace QF := hide ((unhide QF).later bb)
  replace QD := hide ((unhide QD).later bb)
  replace X3 := hide ((bb.block _ (heapLt (unhide X3))).trans (unhide X3))
  clear bb p0 p1 p2 p3
  clear W4
  obtain ⟨x0, x1, x2⟩ : _ ∧ _ ∧ _ := ⟨cellOf (unhide X1) 0, cellOf (unhide X1) 1, cellOf (unhide X1) 2⟩
  obtain ⟨p0, p1, p2, p3⟩ : _ ∧ _ ∧ _ ∧ _ := ⟨cellOf (unhide X2) 0, cellOf (unhide X2) 1, cellOf (unhide X2) 2, cellOf (unhide X2) 3⟩
  obtain ⟨q0, q1, q2, q3⟩ : _ ∧ _ ∧ _ ∧ _ := ⟨cellOf (unhide X3) 0, cellOf (unhide X3) 1, cellOf (unhide X3) 2, cellOf (unhide X3) 3⟩
  go_wp2_with fail
  refine (indexOk_any _ num til _ ms (unhide T1)).mono ?_
  rintro e w6 ⟨rfl, bb⟩
  replace BW := hide ((unhide BW).trans (bb.mono (unhide BW).size))
  replace G := hide ((unhide G).later bb)
  replace T1 := hide ((unhide T1).later bb)
  replace X1 := hide ((bb.block _ (heapLt (unhide X1))).trans (unhide X1))
  replace PF := hide ((unhide PF).later bb)
  replace PD := hide ((unhide PD).later bb)
  replace X2 := hide ((bb.block _ (heapLt (unhide X2))).trans (unhide X2))
  replace QF := hide ((unhide QF).later bb)
  replace QD := hide ((unhide QD).later bb)
  replace X3 := hide ((bb.block _ (heapLt (unhide X3))).trans (unhide X3))
  clear bb x0 x1 x2
  clear p0 p1 p2 p3 q0 q1 q2 q3
  obtain ⟨p0, p1, p2, p3⟩ : _ ∧ _ ∧ _ ∧ _ := ⟨cellOf (unhide X2) 0, cellOf (unhide X2) 1, cellOf (unhide X2) 2, cellOf (unhide X2) 3⟩
  obtain ⟨q0, q1, q2, q3⟩ : _ ∧ _ ∧ _ ∧ _ := ⟨cellOf (unhide X3) 0, cellOf (unhide X3) 1, cellOf (unhide X3) 2, cellOf (unhide X3) 3⟩
  cases hok : Ix.idxOk num til ms
  · clear hok
    go_wp2_with fail
    refine (lu_any _ nm vr nm vr _ _ _ _ fs ds fs ds (unhide QF) (unhide QD) (unhide PF) (unhide PD)).mono ?_
    rw [unhide HSM]
    rintro e wz ⟨rfl, bb⟩
    replace BW := hide ((unhide BW).trans (bb.mono (unhide BW).size))
    replace G := hide ((unhide G).later bb)
    replace T1 := hide ((unhide T1).later bb)
    replace X1 := hide ((bb.block _ (heapLt (unhide X1))).trans (unhide X1))
    replace PF := hide ((unhide PF).later bb)
    replace PD := hide ((unhide PD).later bb)
    replace X2 := hide ((bb.block _ (heapLt (unhide X2))).trans (unhide X2))
    replace QF := hide ((unhide QF).later bb)
    replace QD := hide ((unhide QD).later bb)
    replace X3 := hide ((bb.block _ (heapLt (unhide X3))).trans (unhide X3))
    go_wp2
    go_ret
    exact ⟨rfl, unhide BW⟩
  have HK := hide hok
  clear hok
  clear p0 p1 p2 p3 q0 q1 q2 q3
  go_wp2_with fail
  refine (implRead_any s _ ev (unhide G)).mono ?_
  intro e w7 h7
  obtain ⟨fv, dv, rfl, hf, hd, bb⟩ := h7.of
  clear h7
  replace BW := hide ((unhide BW).trans (bb.mono (unhide BW).size))
  replace G := hide ((unhide G).later bb)
  replace T1 := hide ((unhide T1).later bb)
  replace X1 := hide ((bb.block _ (heapLt (unhide X1))).trans (unhide X1))
  replace PF := hide ((unhide PF).later bb)
  replace PD := hide ((unhide PD).later bb)
  replace X2 := hide ((bb.block _ (heapLt (unhide X2))).trans (unhide X2))
  replace QF := hide ((unhide QF).later bb)
  replace QD := hide ((unhide QD).later bb)
  replace X3 := hide ((bb.block _ (heapLt (unhide X3))).trans (unhide X3))
  have hln2 := Ix.rpD_len s.data.toList
  obtain ⟨n2, v2, f2, d2, hp2⟩ : ∃ nm vr fs ds, Ix.rpD s.data.toList = (nm, vr, fs, ds) := ⟨_, _, _, _, rfl⟩
  obtain ⟨rd, hrd⟩ : ∃ b, (Ix.rp s.data.toList).isSome = b := ⟨_, rfl⟩
  rw [hp2] at hf hd hln2
  rw [hp2, hrd]
  have HPR := hide (And.intro hp2 hrd)
  dsimp only at hf hd hln2 ⊢
  obtain ⟨ha, hc, rfl⟩ := own_form hf
  obtain ⟨ja, jc, rfl⟩ := own_form hd
  clear hp2 hrd bb
  have bx := below1 w7 (.cells #[.int .i64 n2, .int .i64 v2, .slice ha f2.length hc, .slice ja d2.length jc] 35)
  have RF := hide ((Prs.own hf (by omega)).later bx)
  have RD := hide ((Prs.own hd (by omega)).later bx)
  have X4 := hide (heap_alloc_new w7 (.cells #[.int .i64 n2, .int .i64 v2, .slice ha f2.length hc, .slice ja d2.length jc] 35))
  replace BW := hide ((unhide BW).trans (bx.mono (unhide BW).size))
  replace G := hide ((unhide G).later bx)
  replace T1 := hide ((unhide T1).later bx)
  replace X1 := hide ((bx.block _ (heapLt (unhide X1))).trans (unhide X1))
  replace PF := hide ((unhide PF).later bx)
  replace PD := hide ((unhide PD).later bx)
  replace X2 := hide ((bx.block _ (heapLt (unhide X2))).trans (unhide X2))
  replace QF := hide ((unhide QF).later bx)
  replace QD := hide ((unhide QD).later bx)
  replace X3 := hide ((bx.block _ (heapLt (unhide X3))).trans (unhide X3))
  clear bx hf hd
  obtain ⟨sm, hsm⟩ : ∃ x, x = Sm.sum s.data.toList := ⟨_, rfl⟩
  have HSU := hide hsm
  clear hsm
  have hmax : s.size ≤ maxLen := by unfold maxLen; omega
  have HOKD : Hid (b = (rd && decide ((n2, v2, sm) ∈ ms)) ∧ (b = true → (nm, vr, fs, ds) = (n2, v2, f2, d2))) := by
    obtain ⟨h1, h2⟩ := unhide HPB
    obtain ⟨h3, h4⟩ := unhide HPR
    rw [← h2, ← h4, unhide HSU, ← h1, ← h3]
    cases hr : Ix.rp s.data.toList with
    | none =>
      rw [(Ix.hasD_none (Ix.has_none hr)).2]
      exact ⟨rfl, fun h => absurd h (by simp)⟩
    | some p =>
      have hD := Ix.rpD_some hr
      have hM := Ix.metaP_text (Ix.rp_some.1 hr).2
      rw [hD] at h3
      have e1 : n2 = p.1 ∧ v2 = p.2.1 := by rw [h3]; exact ⟨rfl, rfl⟩
      rw [e1.1, e1.2, ← hM]
      cases hd : decide (Ix.metaP p ∈ ms)
      · rw [(Ix.hasD_none (Ix.has_no hr (by unfold Ix.tellsP; rw [hd, Bool.and_false]))).2]
        exact ⟨rfl, fun h => absurd h (by simp)⟩
      · have hy := Ix.has_yes (num := num) (til := til) (ms := ms) hr (by unfold Ix.tellsP; rw [hd, unhide HK]; rfl)
        rw [(Ix.hasD_some hy).1, (Ix.hasD_some hy).2, hD]
        exact ⟨rfl, fun _ => rfl⟩
  go_wp2_with fail
  generalize hQ : w7.heap.size = Rb at *
  generalize w7.alloc _ = W7 at *
  clear hQ
  clear w7
  obtain ⟨_, _, e1, _, hrow⟩ := unhide T1
  injection e1 with e1 _ e3
  subst e1 e3
  go_loopw [11, 12] (fun t i w' => ∃ k : Nat, k ≤ ms.length ∧ i = .int .i64 k ∧ t = .bool (decide ((n2, v2, sm) ∈ ms.take k)) ∧ Below W7.heap.size W7 w') (fun _ i _ => ms.length - (intOf i).toNat)
  case atStart => exact ⟨0, Nat.zero_le _, rfl, by simp, Below.refl _ _⟩
  case round =>
    obtain ⟨k, hk, rfl, rfl, hw⟩ := hrel
    have HW := hide hw
    have hx := (hw.block _ (heapLt (unhide X1))).trans (unhide X1)
    have x2 := cellOf hx 2
    clear hw hx
    by_cases hlt : k < ms.length
    · obtain ⟨bk, off, rfl, hbs, hc⟩ := hrow (by omega)
      obtain ⟨c0, c1, c2⟩ := hc k hlt
      have HC := hide (And.intro c0 (And.intro c1 c2))
      clear hc hrow c0 c1 c2
      have hi0 : (0 : Int) ≤ (k : Int) := Int.natCast_nonneg _
      have hi1 : (k : Int) < (ms.length : Int) := by omega
      have HTK : Hid (ms.take (k + 1) = ms.take k ++ [(Ix.nm ms k, Ix.vr ms k, Ix.sm ms k)]) := by
        show _ = _
        rw [List.take_succ_eq_append_getElem hlt]
        congr 2
        unfold Ix.nm Ix.vr Ix.sm
        rw [List.getD_eq_getElem?_getD, List.getElem?_eq_getElem hlt]
        rfl
      have kk : ∀ w', Below wr.heap.size wr w' → w'.cell? ⟨X, 2, none⟩ = some (.slice (some ⟨bk, off, none⟩) ms.length mc) ∧ (w'.cell? ⟨bk, off + k * 3, none⟩ = some (.int .i64 (Ix.nm ms k)) ∧ w'.cell? ⟨bk, off + k * 3 + 1, none⟩ = some (.int .i64 (Ix.vr ms k)) ∧ w'.cell? ⟨bk, off + k * 3 + 2, none⟩ = some (.int .i64 (Ix.sm ms k))) ∧ (w'.cell? ⟨Rb, 0, none⟩ = some (.int .i64 n2) ∧ w'.cell? ⟨Rb, 1, none⟩ = some (.int .i64 v2)) := fun w' hw' => by
        have hb := (unhide HW).trans (hw'.mono (unhide HW).size)
        have hx := (hb.block _ (heapLt (unhide X1))).trans (unhide X1)
        have hy := (hb.block _ (heapLt (unhide X4))).trans (unhide X4)
        refine ⟨cellOf hx 2, ?_, cellOf hy 0, cellOf hy 1⟩
        rw [hb.cell hbs, hb.cell hbs, hb.cell hbs]
        exact unhide HC
      have KK := hide kk
      have cS : ∀ w', Below wr.heap.size wr w' → Calls Tryz.prog 20 #[.string s] w' fun e w'' => e = .returned (.int .i64 sm) ∧ Below wr.heap.size wr w'' := fun w' hw' =>
        (implSum_any s w' hmax).mono fun e w'' ⟨h1, h2⟩ => ⟨by rw [h1, unhide HSU], by rw [h2]; exact hw'⟩
      have CS := hide cS
      clear kk cS
      generalize Ix.nm ms k = z1 at *
      generalize Ix.vr ms k = z2 at *
      generalize Ix.sm ms k = z3 at *
      cases ht : decide ((n2, v2, sm) ∈ ms.take k)
      · by_cases hq : (z1, z2, z3) = (n2, v2, sm)
        · have HN : Hid (decide ((n2, v2, sm) ∈ ms.take (k + 1)) = true) := by
            show _ = _
            rw [unhide HTK, hq]
            simp
          injection hq with q1 q2
          injection q2 with q2 q3
          rw [q1, q2, q3] at KK
          clear ht q1 q2 q3
          go_wp2_with fail
          refine wq_region (by kernel_rfl) (by kernel_rfl) ?_
          refine wq_move (d := some 67) rfl rfl (by rfl) rfl ?_
          simp only [Act.put, List.setIfInBounds_toArray, List.set_cons_zero, List.set_cons_succ, List.getElem_toArray, List.getElem_cons_zero, List.getElem_cons_succ]
          refine wq_move (d := some 68) rfl rfl (by rfl) rfl ?_
          simp only [Act.put, List.setIfInBounds_toArray, List.set_cons_zero, List.set_cons_succ, List.getElem_toArray, List.getElem_cons_zero, List.getElem_cons_succ]
          refine wq_take (d := some 69) rfl (by rfl) (v := ?_) ?_ ?_
          rotate_left
          · (intro w hCw; have hKw := (unhide KK) w hCw; go_simp <;> with_reducible rfl)
          simp only [Act.put, List.setIfInBounds_toArray, List.set_cons_zero, List.set_cons_succ]
          refine wq_take (d := some 70) rfl (by rfl) (v := ?_) ?_ ?_
          rotate_left
          · (intro w hCw; have hKw := (unhide KK) w hCw; go_simp <;> with_reducible rfl)
          simp only [Act.put, List.setIfInBounds_toArray, List.set_cons_zero, List.set_cons_succ]
          refine wq_move (d := some 71) rfl rfl (by rfl) rfl ?_
          simp only [Act.put, List.setIfInBounds_toArray, List.set_cons_zero, List.set_cons_succ, List.getElem_toArray, List.getElem_cons_zero, List.getElem_cons_succ]
          refine wq_take (d := some 72) rfl (by rfl) (v := ?_) ?_ ?_
          rotate_left
          · (intro w hCw; have hKw := (unhide KK) w hCw; go_simp <;> with_reducible rfl)
          simp only [Act.put, List.setIfInBounds_toArray, List.set_cons_zero, List.set_cons_succ]
          refine wq_take (d := some 73) rfl (by rfl) (v := ?_) ?_ ?_
          rotate_left
          · (intro w hCw; have hKw := (unhide KK) w hCw; go_simp <;> with_reducible rfl)
          simp only [Act.put, List.setIfInBounds_toArray, List.set_cons_zero, List.set_cons_succ]
          refine wq_take (d := some 74) rfl (by rfl) (v := ?_) ?_ ?_
          rotate_left
          · (intro w hCw; have hKw := (unhide KK) w hCw; go_simp <;> with_reducible rfl)
          simp only [Act.put, List.setIfInBounds_toArray, List.set_cons_zero, List.set_cons_succ]
          refine wq_take (d := some 75) rfl (by rfl) (v := ?_) ?_ ?_
          rotate_left
          · (intro w hCw; have hKw := (unhide KK) w hCw; go_simp <;> with_reducible rfl)
          simp only [Act.put, List.setIfInBounds_toArray, List.set_cons_zero, List.set_cons_succ]
          refine wq_take (d := some 76) rfl (by rfl) (v := ?_) ?_ ?_
          rotate_left
          · (intro w hCw; have hKw := (unhide KK) w hCw; go_simp <;> with_reducible rfl)
          simp only [Act.put, List.setIfInBounds_toArray, List.set_cons_zero, List.set_cons_succ]
          refine wq_take (d := some 77) rfl (by rfl) (v := ?_) ?_ ?_
          rotate_left
          · (intro w hCw; have hKw := (unhide KK) w hCw; go_simp <;> with_reducible rfl)
          simp only [Act.put, List.setIfInBounds_toArray, List.set_cons_zero, List.set_cons_succ]
          refine wq_move (d := some 78) rfl rfl (by rfl) rfl ?_
          simp only [Act.put, List.setIfInBounds_toArray, List.set_cons_zero, List.set_cons_succ, List.getElem_toArray, List.getElem_cons_zero, List.getElem_cons_succ]
          refine wq_call (d := some 79) rfl (by rfl) (hc := (unhide CS)) ?_ ?_
          · (intro w hCw; go_simp)
          simp only [Act.put, List.setIfInBounds_toArray, List.set_cons_zero, List.set_cons_succ]
          refine wq_take (d := some 80) rfl (by rfl) (v := ?_) ?_ ?_
          rotate_left
          · (intro w hCw; have hKw := (unhide KK) w hCw; go_simp <;> with_reducible rfl)
          simp only [Act.put, List.setIfInBounds_toArray, List.set_cons_zero, List.set_cons_succ]
          refine wq_take (d := some 81) rfl (by rfl) (v := (.bool true)) ?_ ?_
          · (intro w hCw; go_simp <;> omega)
          simp only [Act.put, List.setIfInBounds_toArray, List.set_cons_zero, List.set_cons_succ]
          refine wq_take (d := some 82) rfl (by rfl) (v := ?_) ?_ ?_
          rotate_left
          · (intro w hCw; have hKw := (unhide KK) w hCw; go_simp <;> with_reducible rfl)
          simp only [Act.put, List.setIfInBounds_toArray, List.set_cons_zero, List.set_cons_succ]
          refine wq_take (d := some 11) rfl (by rfl) (v := ?_) ?_ ?_
          rotate_left
          · (intro w hCw; have hKw := (unhide KK) w hCw; go_simp <;> with_reducible rfl)
          simp only [Act.put, List.setIfInBounds_toArray, List.set_cons_zero, List.set_cons_succ]
          refine wq_nil ?_
          intro w9 hw9
          go_wp2
          go_roundw
          case rel => exact ⟨k + 1, by omega, by go_num, by rw [unhide HN], (unhide HW).trans (hw9.mono (unhide HW).size)⟩
          case measure => simp [intOf]; omega
        · have HN : Hid (decide ((n2, v2, sm) ∈ ms.take (k + 1)) = false) := by
            show _ = _
            rw [unhide HTK, decide_eq_false_iff_not, List.mem_append]
            rintro (h | h)
            · rw [decide_eq_true h] at ht; cases ht
            · rw [List.mem_singleton] at h
              exact hq h.symm
          clear ht
          go_wp2_with fail
          refine wq_region (by kernel_rfl) (by kernel_rfl) ?_
          by_cases q1 : z1 = n2
          · by_cases q2 : z2 = v2
            · have q3 : ¬ z3 = sm := fun h => hq (by rw [q1, q2, h])
              subst q1 q2
              clear hq
              refine wq_move (d := some 67) rfl rfl (by rfl) rfl ?_
              simp only [Act.put, List.setIfInBounds_toArray, List.set_cons_zero, List.set_cons_succ, List.getElem_toArray, List.getElem_cons_zero, List.getElem_cons_succ]
              refine wq_move (d := some 68) rfl rfl (by rfl) rfl ?_
              simp only [Act.put, List.setIfInBounds_toArray, List.set_cons_zero, List.set_cons_succ, List.getElem_toArray, List.getElem_cons_zero, List.getElem_cons_succ]
              refine wq_take (d := some 69) rfl (by rfl) (v := ?_) ?_ ?_
              rotate_left
              · (intro w hCw; have hKw := (unhide KK) w hCw; go_simp <;> with_reducible rfl)
              simp only [Act.put, List.setIfInBounds_toArray, List.set_cons_zero, List.set_cons_succ]
              refine wq_take (d := some 70) rfl (by rfl) (v := ?_) ?_ ?_
              rotate_left
              · (intro w hCw; have hKw := (unhide KK) w hCw; go_simp <;> with_reducible rfl)
              simp only [Act.put, List.setIfInBounds_toArray, List.set_cons_zero, List.set_cons_succ]
              refine wq_move (d := some 71) rfl rfl (by rfl) rfl ?_
              simp only [Act.put, List.setIfInBounds_toArray, List.set_cons_zero, List.set_cons_succ, List.getElem_toArray, List.getElem_cons_zero, List.getElem_cons_succ]
              refine wq_take (d := some 72) rfl (by rfl) (v := ?_) ?_ ?_
              rotate_left
              · (intro w hCw; have hKw := (unhide KK) w hCw; go_simp <;> with_reducible rfl)
              simp only [Act.put, List.setIfInBounds_toArray, List.set_cons_zero, List.set_cons_succ]
              refine wq_take (d := some 73) rfl (by rfl) (v := ?_) ?_ ?_
              rotate_left
              · (intro w hCw; have hKw := (unhide KK) w hCw; go_simp <;> with_reducible rfl)
              simp only [Act.put, List.setIfInBounds_toArray, List.set_cons_zero, List.set_cons_succ]
              refine wq_take (d := some 74) rfl (by rfl) (v := ?_) ?_ ?_
              rotate_left
              · (intro w hCw; have hKw := (unhide KK) w hCw; go_simp <;> with_reducible rfl)
              simp only [Act.put, List.setIfInBounds_toArray, List.set_cons_zero, List.set_cons_succ]
              refine wq_take (d := some 75) rfl (by rfl) (v := ?_) ?_ ?_
              rotate_left
              · (intro w hCw; have hKw := (unhide KK) w hCw; go_simp <;> with_reducible rfl)
              simp only [Act.put, List.setIfInBounds_toArray, List.set_cons_zero, List.set_cons_succ]
              refine wq_take (d := some 76) rfl (by rfl) (v := ?_) ?_ ?_
              rotate_left
              · (intro w hCw; have hKw := (unhide KK) w hCw; go_simp <;> with_reducible rfl)
              simp only [Act.put, List.setIfInBounds_toArray, List.set_cons_zero, List.set_cons_succ]
              refine wq_take (d := some 77) rfl (by rfl) (v := ?_) ?_ ?_
              rotate_left
              · (intro w hCw; have hKw := (unhide KK) w hCw; go_simp <;> with_reducible rfl)
              simp only [Act.put, List.setIfInBounds_toArray, List.set_cons_zero, List.set_cons_succ]
              refine wq_move (d := some 78) rfl rfl (by rfl) rfl ?_
              simp only [Act.put, List.setIfInBounds_toArray, List.set_cons_zero, List.set_cons_succ, List.getElem_toArray, List.getElem_cons_zero, List.getElem_cons_succ]
              refine wq_call (d := some 79) rfl (by rfl) (hc := (unhide CS)) ?_ ?_
              · (intro w hCw; go_simp)
              simp only [Act.put, List.setIfInBounds_toArray, List.set_cons_zero, List.set_cons_succ]
              refine wq_take (d := some 80) rfl (by rfl) (v := ?_) ?_ ?_
              rotate_left
              · (intro w hCw; have hKw := (unhide KK) w hCw; go_simp <;> with_reducible rfl)
              simp only [Act.put, List.setIfInBounds_toArray, List.set_cons_zero, List.set_cons_succ]
              refine wq_take (d := some 81) rfl (by rfl) (v := (.bool false)) ?_ ?_
              · (intro w hCw; go_simp <;> omega)
              simp only [Act.put, List.setIfInBounds_toArray, List.set_cons_zero, List.set_cons_succ]
              refine wq_take (d := some 82) rfl (by rfl) (v := ?_) ?_ ?_
              rotate_left
              · (intro w hCw; have hKw := (unhide KK) w hCw; go_simp <;> with_reducible rfl)
              simp only [Act.put, List.setIfInBounds_toArray, List.set_cons_zero, List.set_cons_succ]
              refine wq_take (d := some 11) rfl (by rfl) (v := ?_) ?_ ?_
              rotate_left
              · (intro w hCw; have hKw := (unhide KK) w hCw; go_simp <;> with_reducible rfl)
              simp only [Act.put, List.setIfInBounds_toArray, List.set_cons_zero, List.set_cons_succ]
              refine wq_nil ?_
              intro w9 hw9
              go_wp2
              go_roundw
              case rel => exact ⟨k + 1, by omega, by go_num, by rw [unhide HN], (unhide HW).trans (hw9.mono (unhide HW).size)⟩
              case measure => simp [intOf]; omega
            · subst q1
              clear hq
              refine wq_move (d := some 67) rfl rfl (by rfl) rfl ?_
              simp only [Act.put, List.setIfInBounds_toArray, List.set_cons_zero, List.set_cons_succ, List.getElem_toArray, List.getElem_cons_zero, List.getElem_cons_succ]
              refine wq_move (d := some 68) rfl rfl (by rfl) rfl ?_
              simp only [Act.put, List.setIfInBounds_toArray, List.set_cons_zero, List.set_cons_succ, List.getElem_toArray, List.getElem_cons_zero, List.getElem_cons_succ]
              refine wq_take (d := some 69) rfl (by rfl) (v := ?_) ?_ ?_
              rotate_left
              · (intro w hCw; have hKw := (unhide KK) w hCw; go_simp <;> with_reducible rfl)
              simp only [Act.put, List.setIfInBounds_toArray, List.set_cons_zero, List.set_cons_succ]
              refine wq_take (d := some 70) rfl (by rfl) (v := ?_) ?_ ?_
              rotate_left
              · (intro w hCw; have hKw := (unhide KK) w hCw; go_simp <;> with_reducible rfl)
              simp only [Act.put, List.setIfInBounds_toArray, List.set_cons_zero, List.set_cons_succ]
              refine wq_move (d := some 71) rfl rfl (by rfl) rfl ?_
              simp only [Act.put, List.setIfInBounds_toArray, List.set_cons_zero, List.set_cons_succ, List.getElem_toArray, List.getElem_cons_zero, List.getElem_cons_succ]
              refine wq_take (d := some 72) rfl (by rfl) (v := ?_) ?_ ?_
              rotate_left
              · (intro w hCw; have hKw := (unhide KK) w hCw; go_simp <;> with_reducible rfl)
              simp only [Act.put, List.setIfInBounds_toArray, List.set_cons_zero, List.set_cons_succ]
              refine wq_take (d := some 73) rfl (by rfl) (v := ?_) ?_ ?_
              rotate_left
              · (intro w hCw; have hKw := (unhide KK) w hCw; go_simp <;> with_reducible rfl)
              simp only [Act.put, List.setIfInBounds_toArray, List.set_cons_zero, List.set_cons_succ]
              refine wq_take (d := some 74) rfl (by rfl) (v := ?_) ?_ ?_
              rotate_left
              · (intro w hCw; have hKw := (unhide KK) w hCw; go_simp <;> with_reducible rfl)
              simp only [Act.put, List.setIfInBounds_toArray, List.set_cons_zero, List.set_cons_succ]
              refine wq_take (d := some 75) rfl (by rfl) (v := ?_) ?_ ?_
              rotate_left
              · (intro w hCw; have hKw := (unhide KK) w hCw; go_simp <;> with_reducible rfl)
              simp only [Act.put, List.setIfInBounds_toArray, List.set_cons_zero, List.set_cons_succ]
              refine wq_take (d := some 76) rfl (by rfl) (v := ?_) ?_ ?_
              rotate_left
              · (intro w hCw; have hKw := (unhide KK) w hCw; go_simp <;> with_reducible rfl)
              simp only [Act.put, List.setIfInBounds_toArray, List.set_cons_zero, List.set_cons_succ]
              refine wq_take (d := some 77) rfl (by rfl) (v := ?_) ?_ ?_
              rotate_left
              · (intro w hCw; have hKw := (unhide KK) w hCw; go_simp <;> with_reducible rfl)
              simp only [Act.put, List.setIfInBounds_toArray, List.set_cons_zero, List.set_cons_succ]
              refine wq_move (d := some 78) rfl rfl (by rfl) rfl ?_
              simp only [Act.put, List.setIfInBounds_toArray, List.set_cons_zero, List.set_cons_succ, List.getElem_toArray, List.getElem_cons_zero, List.getElem_cons_succ]
              refine wq_call (d := some 79) rfl (by rfl) (hc := (unhide CS)) ?_ ?_
              · (intro w hCw; go_simp)
              simp only [Act.put, List.setIfInBounds_toArray, List.set_cons_zero, List.set_cons_succ]
              refine wq_take (d := some 80) rfl (by rfl) (v := ?_) ?_ ?_
              rotate_left
              · (intro w hCw; have hKw := (unhide KK) w hCw; go_simp <;> with_reducible rfl)
              simp only [Act.put, List.setIfInBounds_toArray, List.set_cons_zero, List.set_cons_succ]
              refine wq_take (d := some 81) rfl (by rfl) (v := (.bool false)) ?_ ?_
              · (intro w hCw; go_simp <;> omega)
              simp only [Act.put, List.setIfInBounds_toArray, List.set_cons_zero, List.set_cons_succ]
              refine wq_take (d := some 82) rfl (by rfl) (v := ?_) ?_ ?_
              rotate_left
              · (intro w hCw; have hKw := (unhide KK) w hCw; go_simp <;> with_reducible rfl)
              simp only [Act.put, List.setIfInBounds_toArray, List.set_cons_zero, List.set_cons_succ]
              refine wq_take (d := some 11) rfl (by rfl) (v := ?_) ?_ ?_
              rotate_left
              · (intro w hCw; have hKw := (unhide KK) w hCw; go_simp <;> with_reducible rfl)
              simp only [Act.put, List.setIfInBounds_toArray, List.set_cons_zero, List.set_cons_succ]
              refine wq_nil ?_
              intro w9 hw9
              go_wp2
              go_roundw
              case rel => exact ⟨k + 1, by omega, by go_num, by rw [unhide HN], (unhide HW).trans (hw9.mono (unhide HW).size)⟩
              case measure => simp [intOf]; omega
          · clear hq
            refine wq_move (d := some 67) rfl rfl (by rfl) rfl ?_
            simp only [Act.put, List.setIfInBounds_toArray, List.set_cons_zero, List.set_cons_succ, List.getElem_toArray, List.getElem_cons_zero, List.getElem_cons_succ]
            refine wq_move (d := some 68) rfl rfl (by rfl) rfl ?_
            simp only [Act.put, List.setIfInBounds_toArray, List.set_cons_zero, List.set_cons_succ, List.getElem_toArray, List.getElem_cons_zero, List.getElem_cons_succ]
            refine wq_take (d := some 69) rfl (by rfl) (v := ?_) ?_ ?_
            rotate_left
            · (intro w hCw; have hKw := (unhide KK) w hCw; go_simp <;> with_reducible rfl)
            simp only [Act.put, List.setIfInBounds_toArray, List.set_cons_zero, List.set_cons_succ]
            refine wq_take (d := some 70) rfl (by rfl) (v := ?_) ?_ ?_
            rotate_left
            · (intro w hCw; have hKw := (unhide KK) w hCw; go_simp <;> with_reducible rfl)
            simp only [Act.put, List.setIfInBounds_toArray, List.set_cons_zero, List.set_cons_succ]
            refine wq_move (d := some 71) rfl rfl (by rfl) rfl ?_
            simp only [Act.put, List.setIfInBounds_toArray, List.set_cons_zero, List.set_cons_succ, List.getElem_toArray, List.getElem_cons_zero, List.getElem_cons_succ]
            refine wq_take (d := some 72) rfl (by rfl) (v := ?_) ?_ ?_
            rotate_left
            · (intro w hCw; have hKw := (unhide KK) w hCw; go_simp <;> with_reducible rfl)
            simp only [Act.put, List.setIfInBounds_toArray, List.set_cons_zero, List.set_cons_succ]
            refine wq_take (d := some 73) rfl (by rfl) (v := ?_) ?_ ?_
            rotate_left
            · (intro w hCw; have hKw := (unhide KK) w hCw; go_simp <;> with_reducible rfl)
            simp only [Act.put, List.setIfInBounds_toArray, List.set_cons_zero, List.set_cons_succ]
            refine wq_take (d := some 74) rfl (by rfl) (v := ?_) ?_ ?_
            rotate_left
            · (intro w hCw; have hKw := (unhide KK) w hCw; go_simp <;> with_reducible rfl)
            simp only [Act.put, List.setIfInBounds_toArray, List.set_cons_zero, List.set_cons_succ]
            refine wq_take (d := some 75) rfl (by rfl) (v := ?_) ?_ ?_
            rotate_left
            · (intro w hCw; have hKw := (unhide KK) w hCw; go_simp <;> with_reducible rfl)
            simp only [Act.put, List.setIfInBounds_toArray, List.set_cons_zero, List.set_cons_succ]
            refine wq_take (d := some 76) rfl (by rfl) (v := ?_) ?_ ?_
            rotate_left
            · (intro w hCw; have hKw := (unhide KK) w hCw; go_simp <;> with_reducible rfl)
            simp only [Act.put, List.setIfInBounds_toArray, List.set_cons_zero, List.set_cons_succ]
            refine wq_take (d := some 77) rfl (by rfl) (v := ?_) ?_ ?_
            rotate_left
            · (intro w hCw; have hKw := (unhide KK) w hCw; go_simp <;> with_reducible rfl)
            simp only [Act.put, List.setIfInBounds_toArray, List.set_cons_zero, List.set_cons_succ]
            refine wq_move (d := some 78) rfl rfl (by rfl) rfl ?_
            simp only [Act.put, List.setIfInBounds_toArray, List.set_cons_zero, List.set_cons_succ, List.getElem_toArray, List.getElem_cons_zero, List.getElem_cons_succ]
            refine wq_call (d := some 79) rfl (by rfl) (hc := (unhide CS)) ?_ ?_
            · (intro w hCw; go_simp)
            simp only [Act.put, List.setIfInBounds_toArray, List.set_cons_zero, List.set_cons_succ]
            refine wq_take (d := some 80) rfl (by rfl) (v := ?_) ?_ ?_
            rotate_left
            · (intro w hCw; have hKw := (unhide KK) w hCw; go_simp <;> with_reducible rfl)
            simp only [Act.put, List.setIfInBounds_toArray, List.set_cons_zero, List.set_cons_succ]
            refine wq_take (d := some 81) rfl (by rfl) (v := (.bool false)) ?_ ?_
            · (intro w hCw; go_simp <;> omega)
            simp only [Act.put, List.setIfInBounds_toArray, List.set_cons_zero, List.set_cons_succ]
            refine wq_take (d := some 82) rfl (by rfl) (v := ?_) ?_ ?_
            rotate_left
            · (intro w hCw; have hKw := (unhide KK) w hCw; go_simp <;> with_reducible rfl)
            simp only [Act.put, List.setIfInBounds_toArray, List.set_cons_zero, List.set_cons_succ]
            refine wq_take (d := some 11) rfl (by rfl) (v := ?_) ?_ ?_
            rotate_left
            · (intro w hCw; have hKw := (unhide KK) w hCw; go_simp <;> with_reducible rfl)
            simp only [Act.put, List.setIfInBounds_toArray, List.set_cons_zero, List.set_cons_succ]
            refine wq_nil ?_
            intro w9 hw9
            go_wp2
            go_roundw
            case rel => exact ⟨k + 1, by omega, by go_num, by rw [unhide HN], (unhide HW).trans (hw9.mono (unhide HW).size)⟩
            case measure => simp [intOf]; omega
      · have HN : Hid (decide ((n2, v2, sm) ∈ ms.take (k + 1)) = true) := by
          show _ = _
          rw [unhide HTK, decide_eq_true_eq, List.mem_append]
          exact .inl (of_decide_eq_true ht)
        clear ht
        go_wp2_with fail
        refine wq_region (by kernel_rfl) (by kernel_rfl) ?_
        refine wq_move (d := some 67) rfl rfl (by rfl) rfl ?_
        simp only [Act.put, List.setIfInBounds_toArray, List.set_cons_zero, List.set_cons_succ, List.getElem_toArray, List.getElem_cons_zero, List.getElem_cons_succ]
        refine wq_move (d := some 68) rfl rfl (by rfl) rfl ?_
        simp only [Act.put, List.setIfInBounds_toArray, List.set_cons_zero, List.set_cons_succ, List.getElem_toArray, List.getElem_cons_zero, List.getElem_cons_succ]
        refine wq_skip (d := some 69) rfl (by rfl) ?_
        simp only [Act.put, List.setIfInBounds_toArray, List.set_cons_zero, List.set_cons_succ]
        refine wq_skip (d := some 70) rfl (by rfl) ?_
        simp only [Act.put, List.setIfInBounds_toArray, List.set_cons_zero, List.set_cons_succ]
        refine wq_skip (d := some 71) rfl (by rfl) ?_
        simp only [Act.put, List.setIfInBounds_toArray, List.set_cons_zero, List.set_cons_succ]
        refine wq_skip (d := some 72) rfl (by rfl) ?_
        simp only [Act.put, List.setIfInBounds_toArray, List.set_cons_zero, List.set_cons_succ]
        refine wq_skip (d := some 73) rfl (by rfl) ?_
        simp only [Act.put, List.setIfInBounds_toArray, List.set_cons_zero, List.set_cons_succ]
        refine wq_skip (d := some 74) rfl (by rfl) ?_
        simp only [Act.put, List.setIfInBounds_toArray, List.set_cons_zero, List.set_cons_succ]
        refine wq_skip (d := some 75) rfl (by rfl) ?_
        simp only [Act.put, List.setIfInBounds_toArray, List.set_cons_zero, List.set_cons_succ]
        refine wq_skip (d := some 76) rfl (by rfl) ?_
        simp only [Act.put, List.setIfInBounds_toArray, List.set_cons_zero, List.set_cons_succ]
        refine wq_skip (d := some 77) rfl (by rfl) ?_
        simp only [Act.put, List.setIfInBounds_toArray, List.set_cons_zero, List.set_cons_succ]
        refine wq_skip (d := some 78) rfl (by rfl) ?_
        simp only [Act.put, List.setIfInBounds_toArray, List.set_cons_zero, List.set_cons_succ]
        refine wq_skip (d := some 79) rfl (by rfl) ?_
        simp only [Act.put, List.setIfInBounds_toArray, List.set_cons_zero, List.set_cons_succ]
        refine wq_skip (d := some 80) rfl (by rfl) ?_
        simp only [Act.put, List.setIfInBounds_toArray, List.set_cons_zero, List.set_cons_succ]
        refine wq_skip (d := some 81) rfl (by rfl) ?_
        simp only [Act.put, List.setIfInBounds_toArray, List.set_cons_zero, List.set_cons_succ]
        refine wq_take (d := some 82) rfl (by rfl) (v := ?_) ?_ ?_
        rotate_left
        · (intro w hCw; have hKw := (unhide KK) w hCw; go_simp <;> with_reducible rfl)
        simp only [Act.put, List.setIfInBounds_toArray, List.set_cons_zero, List.set_cons_succ]
        refine wq_take (d := some 11) rfl (by rfl) (v := ?_) ?_ ?_
        rotate_left
        · (intro w hCw; have hKw := (unhide KK) w hCw; go_simp <;> with_reducible rfl)
        simp only [Act.put, List.setIfInBounds_toArray, List.set_cons_zero, List.set_cons_succ]
        refine wq_nil ?_
        intro w9 hw9
        go_wp2
        go_roundw
        case rel => exact ⟨k + 1, by omega, by go_num, by rw [unhide HN], (unhide HW).trans (hw9.mono (unhide HW).size)⟩
        case measure => simp [intOf]; omega
    · obtain rfl : k = ms.length := by omega
      rw [List.take_length]
      clear hlt hrow
      obtain ⟨hbe, hbd⟩ := unhide HOKD
      have hw := unhide HW
      replace BW := hide ((unhide BW).trans (hw.mono (unhide BW).size))
      replace QF := hide ((unhide QF).later hw)
      replace QD := hide ((unhide QD).later hw)
      replace RF := hide ((unhide RF).later hw)
      replace RD := hide ((unhide RD).later hw)
      replace X3 := hide ((hw.block _ (heapLt (unhide X3))).trans (unhide X3))
      replace X4 := hide ((hw.block _ (heapLt (unhide X4))).trans (unhide X4))
      clear hw
      cases ht : decide ((n2, v2, sm) ∈ ms)
      · rw [ht, Bool.and_false] at hbe
        clear ht hbd
        subst hbe
        cases rd
        all_goals
          go_wp2
          go_ret
          exact ⟨rfl, unhide BW⟩
      · rw [ht, Bool.and_true] at hbe
        clear ht
        subst hbe
        cases b with
        | false =>
          clear hbd
          go_wp2
          go_ret
          exact ⟨rfl, unhide BW⟩
        | true =>
          obtain ⟨rfl, rfl, rfl, rfl⟩ : nm = n2 ∧ vr = v2 ∧ fs = f2 ∧ ds = d2 := by
            have := hbd rfl
            injection this with e1 e2
            injection e2 with e2 e3
            injection e3 with e3 e4
            exact ⟨e1, e2, e3, e4⟩
          clear hbd
          obtain ⟨q0, q1, q2, q3⟩ : _ ∧ _ ∧ _ ∧ _ := ⟨cellOf (unhide X3) 0, cellOf (unhide X3) 1, cellOf (unhide X3) 2, cellOf (unhide X3) 3⟩
          obtain ⟨y0, y1, y2, y3⟩ : _ ∧ _ ∧ _ ∧ _ := ⟨cellOf (unhide X4) 0, cellOf (unhide X4) 1, cellOf (unhide X4) 2, cellOf (unhide X4) 3⟩
          go_wp2_with fail
          refine (lu_any _ nm vr nm vr _ _ _ _ fs ds fs ds (unhide QF) (unhide QD) (unhide RF) (unhide RD)).mono ?_
          rw [unhide HSM]
          rintro e w9 ⟨rfl, bb⟩
          replace BW := hide ((unhide BW).trans (bb.mono (unhide BW).size))
          clear bb
          go_wp2
          go_ret
          exact ⟨rfl, unhide BW⟩
end Go.Proofs.YtjehpeojdcaklaaGreatDoor
