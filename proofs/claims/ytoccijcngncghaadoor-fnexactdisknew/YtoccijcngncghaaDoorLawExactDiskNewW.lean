/- The walk of FnExactDiskNew: it returns true. -/
import Derived.Test.YtoccijcngncghaaDoorMarkDkW
namespace Go.Proofs.YtoccijcngncghaaDoor
open Go.RowKit

theorem Pks.none (w : World) : Pks (fun _ => True) w (.slice none 0 0) [] := ⟨.none, 0, rfl, by simp, fun h => absurd h (by simp)⟩
theorem Pks.empty (w : World) (g : Nat) : Pks (fun _ => True) w (.slice (some ⟨g, 0, .none⟩) 0 0) [] := ⟨some ⟨g, 0, .none⟩, 0, rfl, by simp, fun h => absurd h (by simp)⟩
theorem Ix.pkgsOk_nil : Ix.pkgsOk [] = true := by decide
theorem Ix.planFiles_nil : Ix.planFiles [] = Ix.filesTo [] 0 ∧ (Ix.planFiles []).length = 6 := by
  have h : Ix.planOk [] = true := by decide
  have e : Ix.planFiles [] = Ix.filesTo [] 0 := by unfold Ix.planFiles; rw [if_pos h, List.length_nil]
  exact ⟨e, by rw [e]; exact Ix.filesTo_len [] 0 (Nat.le_refl _)⟩

set_option maxHeartbeats 2000000 in
set_option maxRecDepth 100000 in
theorem implDiskNew_any (w : World) :
    Calls Tryd.prog 12 #[] w fun e w' => ∃ vf, e = .returned (dkV (.slice none 0 0) vf false (.slice none 0 0)) ∧ OwI w.heap.size w' vf (Ix.planFiles []) ∧ Below w.heap.size w w' := by
  have hlb : (Ix.planFiles []).length ≤ 1000 := by rw [Ix.planFiles_nil.2]; omega
  have CP := hide (fun (W : World) => implPlanFiles_any (N := fun _ => True) W (.slice none 0 0) [] (Pks.none W) (fun _ _ _ => Nat.zero_le _))
  generalize Ix.planFiles [] = PF at *
  have b0 := below1 w (.cells #[.slice none 0 0, .slice none 0 0, .bool false, .slice none 0 0] 26)
  have HR := hide (heap_alloc_new w (.cells #[.slice none 0 0, .slice none 0 0, .bool false, .slice none 0 0] 26))
  have BW := hide b0
  clear b0
  go_enter Tryd.func12, Tryd.ntmps12
  go_wp2_with fail
  refine (unhide CP _).mono ?_
  generalize w.alloc _ = W0 at *
  rintro e w1 ⟨u, rfl, ho, b⟩
  obtain ⟨ua, uc, hu⟩ := own_formS ho
  subst hu
  replace HR := hide ((b.block _ (heapLt (unhide HR))).trans (unhide HR))
  have HO := hide (own_base' ho (unhide BW).size)
  replace BW := hide ((unhide BW).trans (b.mono (unhide BW).size))
  obtain ⟨⟨c0, f0⟩, ⟨c1, f1⟩, ⟨c2, f2⟩, c3, f3⟩ : (_ ∧ _) ∧ (_ ∧ _) ∧ (_ ∧ _) ∧ _ ∧ _ := ⟨⟨cellOf (unhide HR) 0, frozenOf (unhide HR) 0⟩, ⟨cellOf (unhide HR) 1, frozenOf (unhide HR) 1⟩, ⟨cellOf (unhide HR) 2, frozenOf (unhide HR) 2⟩, cellOf (unhide HR) 3, frozenOf (unhide HR) 3⟩
  clear ho b CP
  go_wp2
  obtain ⟨⟨q0, q1, q2, q3⟩, hbel, hfar⟩ := fin4 (a := .slice none 0 0) (b := .slice ua PF.length uc) (c := .bool false) (d := .slice none 0 0) (W := w) (unhide HR) (Nat.le_refl _) (unhide BW) rfl
  exact bodyPost_ret (v := .agg #[.slice none 0 0, .slice ua PF.length uc, .bool false, .slice none 0 0]) (by simp [results, Tryd.results12, go_sem, q0, q1, q2, q3]) rfl ⟨_, rfl, own_keepS (unhide HO) (fun g _ e _ _ => hfar g (fun e2 => own_ne (unhide HO) (unhide HR) (by decide) (by rw [e, e2]))), hbel⟩

set_option maxHeartbeats 2000000 in
set_option maxRecDepth 100000 in
theorem specDiskNew_any (w : World) :
    Calls Tryd.prog 21 #[] w fun e w' => ∃ g1 g2 vf, e = .returned (dkV (.slice (some ⟨g1, 0, none⟩) 0 0) vf false (.slice (some ⟨g2, 0, none⟩) 0 0)) ∧ Ins w' vf (Ix.planFiles []) ∧ Below w.heap.size w w' := by
  have hlb : (Ix.planFiles []).length ≤ 1000 := by rw [Ix.planFiles_nil.2]; omega
  have CP : Hid (∀ W : World, Calls Tryd.prog 35 #[.slice none 0 0] W fun e w' => ∃ u, e = .returned u ∧ OwI W.heap.size w' u (Ix.planFiles []) ∧ Below W.heap.size W w') := fun W => by
    rw [Ix.planFiles_nil.1]
    exact l13Files_any (N := fun _ => True) W (.slice none 0 0) [] (Pks.none W) Ix.pkgsOk_nil
  generalize Ix.planFiles [] = PF at *
  have b0 := below1 w (.cells #[.slice none 0 0, .slice none 0 0, .bool false, .slice none 0 0] 26)
  have hR := heap_alloc_new w (.cells #[.slice none 0 0, .slice none 0 0, .bool false, .slice none 0 0] 26)
  have b1 := below1 (w.alloc (.cells #[.slice none 0 0, .slice none 0 0, .bool false, .slice none 0 0] 26)) (.cells #[] 64)
  have HR := hide ((b1.block _ (heapLt hR)).trans hR)
  have BW := hide (b0.trans (b1.mono b0.size))
  clear b0 b1 hR
  go_enter Tryd.func21, Tryd.ntmps21
  go_wp2_with fail
  refine (unhide CP _).mono ?_
  generalize World.alloc _ _ = W0 at *
  rintro e w1 ⟨u, rfl, ho, b⟩
  obtain ⟨ua, uc, hu⟩ := own_formS ho
  subst hu
  have b2 := below1 w1 (.cells #[] 64)
  have b12 := b.trans (b2.mono b.size)
  have hR := (b12.block _ (heapLt (unhide HR))).trans (unhide HR)
  replace HR := hide hR
  have HO := hide (own_later ho b2)
  replace BW := hide ((unhide BW).trans (b12.mono (unhide BW).size))
  obtain ⟨⟨c0, f0⟩, ⟨c1, f1⟩, ⟨c2, f2⟩, c3, f3⟩ : (_ ∧ _) ∧ (_ ∧ _) ∧ (_ ∧ _) ∧ _ ∧ _ := ⟨⟨cellOf hR 0, frozenOf hR 0⟩, ⟨cellOf hR 1, frozenOf hR 1⟩, ⟨cellOf hR 2, frozenOf hR 2⟩, cellOf hR 3, frozenOf hR 3⟩
  clear ho b CP b2 b12 hR
  go_wp2
  obtain ⟨⟨q0, q1, q2, q3⟩, hbel, hfar⟩ := fin4 (a := .slice (some ⟨w.heap.size + 1, 0, none⟩) 0 0) (b := .slice ua PF.length uc) (c := .bool false) (d := .slice (some ⟨w1.heap.size, 0, none⟩) 0 0) (W := w) (unhide HR) (Nat.le_refl _) (unhide BW) rfl
  exact bodyPost_ret (v := .agg #[.slice (some ⟨w.heap.size + 1, 0, none⟩) 0 0, .slice ua PF.length uc, .bool false, .slice (some ⟨w1.heap.size, 0, none⟩) 0 0]) (by simp [results, Tryd.results21, go_sem, q0, q1, q2, q3]) rfl ⟨_, _, _, rfl, OwI.wide (own_keepS (unhide HO) (fun g _ e _ _ => hfar g (fun e2 => own_ne (unhide HO) (unhide HR) (by decide) (by rw [e, e2])))) (by omega), hbel⟩


set_option maxHeartbeats 8000000 in
set_option maxRecDepth 100000 in
theorem exactDiskNew_walk (w : World) :
    Calls Tryd.prog 6 #[] w fun e w' => e = .returned (.bool true) ∧ Below w.heap.size w w' := by
  have hlb : (Ix.planFiles []).length ≤ 1000 := by rw [Ix.planFiles_nil.2]; omega
  have CI := hide implDiskNew_any
  have CS := hide specDiskNew_any
  have CE := hide (fun (W : World) (v1 vf v2 u1 uf u2 : Value) p1 pf p2 q1 qf q2 => eqDisk_any (N1 := fun _ => True) (N2 := fun _ => True) (M1 := fun _ => True) (M2 := fun _ => True) W ⟨[], Ix.planFiles [], false, []⟩ v1 vf v2 u1 uf u2 p1 pf p2 q1 qf q2)
  dsimp only [dkV] at CI CS CE
  generalize Ix.planFiles [] = PF at *
  have s0 : smallE [] := ⟨Nat.zero_le _, fun _ he => (by cases he)⟩
  go_enter Tryd.func6, Tryd.ntmps6
  go_wp2_with fail
  refine (unhide CS _).mono ?_
  rintro e w1 ⟨g1, g2, vf, rfl, hi, b⟩
  obtain ⟨ua, uc, hu⟩ := hi.slice
  subst hu
  have b2 := below1 w1 (.cells #[.slice (some ⟨g1, 0, none⟩) 0 0, .slice ua PF.length uc, .bool false, .slice (some ⟨g2, 0, none⟩) 0 0] 26)
  have HX := hide (heap_alloc_new w1 (.cells #[.slice (some ⟨g1, 0, none⟩) 0 0, .slice ua PF.length uc, .bool false, .slice (some ⟨g2, 0, none⟩) 0 0] 26))
  have HI := hide (hi.later b2)
  have BW := hide (b.trans (b2.mono b.size))
  clear hi b b2
  go_wp2_with fail
  refine (unhide CI _).mono ?_
  generalize hXe : w1.heap.size = X at *
  generalize hW2 : w1.alloc _ = W2 at *
  clear hXe hW2
  clear w1
  rintro e w3 ⟨vf2, rfl, ho, b⟩
  obtain ⟨ya, yc, hu⟩ := own_formS ho
  subst hu
  have b3 := below1 w3 (.cells #[.slice none 0 0, .slice ya PF.length yc, .bool false, .slice none 0 0] 26)
  have HY := hide (heap_alloc_new w3 (.cells #[.slice none 0 0, .slice ya PF.length yc, .bool false, .slice none 0 0] 26))
  have b23 := b.trans (b3.mono b.size)
  have hww := (unhide BW).size
  have hw2 : W2.heap.size ≤ (w3.alloc (.cells #[.slice none 0 0, .slice ya PF.length yc, .bool false, .slice none 0 0] 26)).heap.size := b23.size
  replace HX := hide ((b23.block _ (heapLt (unhide HX))).trans (unhide HX))
  replace BW := hide ((unhide BW).trans (b23.mono (unhide BW).size))
  have BV := hide b23
  have DA : Hid (DAns W2.heap.size (w3.alloc (.cells #[.slice none 0 0, .slice ya PF.length yc, .bool false, .slice none 0 0] 26)) (.slice none 0 0) (.slice ya PF.length yc) (.slice none 0 0) [] PF []) :=
    ⟨PAns.nil _ _, own_later ho b3, PAns.nil _ _, fun g hg => by rcases hg with hg | ⟨e, he, _⟩; cases hg; cases he⟩
  clear ho b b3 b23
  obtain ⟨⟨x0, y0⟩, ⟨x1, y1⟩, ⟨x2, y2⟩, x3, y3⟩ : (_ ∧ _) ∧ (_ ∧ _) ∧ (_ ∧ _) ∧ _ ∧ _ := ⟨⟨cellOf (unhide HX) 0, cellOf (unhide HY) 0⟩, ⟨cellOf (unhide HX) 1, cellOf (unhide HY) 1⟩, ⟨cellOf (unhide HX) 2, cellOf (unhide HY) 2⟩, cellOf (unhide HX) 3, cellOf (unhide HY) 3⟩
  have CQ := hide (unhide CE (w3.alloc (.cells #[.slice none 0 0, .slice ya PF.length yc, .bool false, .slice none 0 0] 26)) _ _ _ _ _ _ (Pks.none _) (OwI.wide (unhide DA).pf (by omega)) (Pks.none _) (Pks.empty _ g1) ((unhide HI).later (unhide BV)) (Pks.empty _ g2))
  go_wp2_with fail
  refine (unhide CQ).mono ?_
  generalize hYe : w3.heap.size = Y at *
  generalize hW4 : w3.alloc _ = W4 at *
  clear hYe hW4
  clear w3 x0 x1 x2 x3 y0 y1 y2 y3 CQ
  rintro e w5 ⟨rfl, b⟩
  replace HX := hide ((b.block _ (heapLt (unhide HX))).trans (unhide HX))
  replace HY := hide ((b.block _ (heapLt (unhide HY))).trans (unhide HY))
  replace BV := hide ((unhide BV).trans (b.mono (unhide BV).size))
  replace BW := hide ((unhide BW).trans (b.mono (unhide BW).size))
  replace DA := hide ((unhide DA).later b)
  have hw5 : W2.heap.size ≤ w5.heap.size := Nat.le_trans hw2 b.size
  clear b
  obtain ⟨y0, y1, y2, y3⟩ : _ ∧ _ ∧ _ ∧ _ := ⟨cellOf (unhide HY) 0, cellOf (unhide HY) 1, cellOf (unhide HY) 2, cellOf (unhide HY) 3⟩
  have CM := hide (markDisk_own w5 false _ _ _ [] [] PF W2.heap.size 1 (unhide DA) hw5 s0 hlb s0 (by omega) (by omega))
  dsimp only [dkV] at CM
  have hmk : ¬ markK (markK 1 [] + (PF.length : Int)) [] < 0 := by unfold markK; simp only [List.foldl_nil]; omega
  have hmm : (markK (markK 1 [] + (PF.length : Int)) [] != markK (markK 1 [] + (PF.length : Int)) []) = false := by simp
  generalize hMK : markK (markK 1 [] + (PF.length : Int)) [] = MK at *
  go_wp2_with fail
  refine (unhide CM).mono ?_
  rintro e w6 ⟨rfl, hD, b, kd⟩
  replace HX := hide (kd _ _ (unhide HX))
  replace HY := hide (kd _ _ (unhide HY))
  replace BW := hide ((unhide BW).trans (b.mono hww))
  have DM := hide hD
  clear hD kd CM DA y0 y1 y2 y3
  obtain ⟨y0, y1, y2, y3⟩ : _ ∧ _ ∧ _ ∧ _ := ⟨cellOf (unhide HY) 0, cellOf (unhide HY) 1, cellOf (unhide HY) 2, cellOf (unhide HY) 3⟩
  replace BV := hide ((unhide BV).trans b)
  clear b
  have CH := hide (heldDisk_own w6 false _ _ _ [] [] PF.length W2.heap.size 1 (unhide DM) s0 hlb s0 (by omega) (by omega))
  dsimp only [dkV] at CH
  rw [hMK] at CH
  go_wp2_with fail
  refine (unhide CH).mono ?_
  rintro e w7 ⟨rfl, b⟩
  replace HX := hide ((b.block _ (heapLt (unhide HX))).trans (unhide HX))
  replace HY := hide ((b.block _ (heapLt (unhide HY))).trans (unhide HY))
  replace BW := hide ((unhide BW).trans (b.mono (unhide BW).size))
  replace DM := hide ((unhide DM).later b)
  replace BV := hide ((unhide BV).trans (b.mono (unhide BV).size))
  clear b CH y0 y1 y2 y3
  go_wp2_with fail
  refine (unhide CI _).mono ?_
  rintro e w8 ⟨vf3, rfl, ho, b⟩
  obtain ⟨za, zc, hu⟩ := own_formS ho
  subst hu
  have b8 := below1 w8 (.cells #[.slice none 0 0, .slice za PF.length zc, .bool false, .slice none 0 0] 26)
  have HZ := hide (heap_alloc_new w8 (.cells #[.slice none 0 0, .slice za PF.length zc, .bool false, .slice none 0 0] 26))
  have b78 := b.trans (b8.mono b.size)
  have hi3 := OwI.wide (own_later ho b8) (by omega)
  replace HX := hide ((b78.block _ (heapLt (unhide HX))).trans (unhide HX))
  replace HY := hide ((b78.block _ (heapLt (unhide HY))).trans (unhide HY))
  replace BW := hide ((unhide BW).trans (b78.mono (unhide BW).size))
  replace DM := hide ((unhide DM).later b78)
  replace BV := hide ((unhide BV).trans (b78.mono (unhide BV).size))
  have CQ := hide (unhide CE (w8.alloc (.cells #[.slice none 0 0, .slice za PF.length zc, .bool false, .slice none 0 0] 26)) _ _ _ _ _ _ (Pks.none _) hi3 (Pks.none _) (Pks.empty _ g1) ((unhide HI).later (unhide BV)) (Pks.empty _ g2))
  clear ho b b8 b78 hi3
  obtain ⟨⟨x0, z0⟩, ⟨x1, z1⟩, ⟨x2, z2⟩, x3, z3⟩ : (_ ∧ _) ∧ (_ ∧ _) ∧ (_ ∧ _) ∧ _ ∧ _ := ⟨⟨cellOf (unhide HX) 0, cellOf (unhide HZ) 0⟩, ⟨cellOf (unhide HX) 1, cellOf (unhide HZ) 1⟩, ⟨cellOf (unhide HX) 2, cellOf (unhide HZ) 2⟩, cellOf (unhide HX) 3, cellOf (unhide HZ) 3⟩
  go_wp2_with fail
  refine (unhide CQ).mono ?_
  generalize hZe : w8.heap.size = Z at *
  generalize hW9 : w8.alloc _ = W9 at *
  clear hZe hW9
  clear w8 x0 x1 x2 x3 z0 z1 z2 z3 CQ
  rintro e w10 ⟨rfl, b⟩
  replace HY := hide ((b.block _ (heapLt (unhide HY))).trans (unhide HY))
  replace BW := hide ((unhide BW).trans (b.mono (unhide BW).size))
  replace DM := hide ((unhide DM).later b)
  clear b HX
  obtain ⟨y0, y1, y2, y3⟩ : _ ∧ _ ∧ _ ∧ _ := ⟨cellOf (unhide HY) 0, cellOf (unhide HY) 1, cellOf (unhide HY) 2, cellOf (unhide HY) 3⟩
  have CH := hide (heldDisk_own w10 false _ _ _ [] [] PF.length W2.heap.size 1 (unhide DM) s0 hlb s0 (by omega) (by omega))
  dsimp only [dkV] at CH
  rw [hMK] at CH
  go_wp2_with fail
  refine (unhide CH).mono ?_
  rintro e w11 ⟨rfl, b⟩
  replace BW := hide ((unhide BW).trans (b.mono (unhide BW).size))
  clear b CH y0 y1 y2 y3 HY DM BV HI HZ
  go_wp2
  go_ret
  exact ⟨rfl, unhide BW⟩
end Go.Proofs.YtoccijcngncghaaDoor
