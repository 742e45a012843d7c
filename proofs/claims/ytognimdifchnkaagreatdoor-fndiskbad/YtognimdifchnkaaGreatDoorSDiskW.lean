/- spec.DiskDo and spec.DiskTear: the disk behind a step, in rows of its own, and whether. -/
import Derived.Test.YtognimdifchnkaaGreatDoorSDoW
namespace Go.Proofs.YtognimdifchnkaaGreatDoor
open Go.RowKit

attribute [local go_sem ↓] Go.wp_at_zero Go.wp_at_succ

set_option linter.unusedSimpArgs false in
set_option maxHeartbeats 8000000 in
set_option maxRecDepth 100000 in
theorem specDiskDo_any {N M L : Nat → Prop} (w : World) (d : Dk.D) (s : Dk.S) (v1 vf v2 vs : Value) (h1 : Pks N w v1 d.db) (hf : Ins w vf d.fl) (h2 : Pks M w v2 d.jr) (hs : Pks L w vs s.ps) :
    Calls Tryz.prog 13 #[dkV v1 vf d.has v2, stV s.k s.p s.x vs] w fun e w' => ∃ u, e = .returned u ∧ DkAns w.heap.size w' (Dk.doA d s) u ∧ Below w.heap.size w w' := by
  have CO := hide (fun (W : World) h1 hf h2 => specDiskOk_any (N := N) (M := M) W d v1 vf v2 h1 hf h2)
  have CS := hide (fun (W : World) h => specStep_any (N := L) W s vs h)
  have GD := hide (fun h => Dk.ok_get (d := d) h)
  have GS := hide (fun h => Dk.S.ok_get (s := s) h)
  have HE0 := hide (show d.ok = false → Dk.doA d s = (Dk.D.none, false) from fun h => by unfold Dk.doA; rw [if_neg (by rw [h]; simp)])
  have HE1 := hide (show s.ok = false → Dk.doA d s = (Dk.D.none, false) from fun h => by unfold Dk.doA; rw [if_neg (by rw [h]; simp)])
  have HE2 := hide (show d.ok = true → s.ok = true → Dk.doA d s = (Dk.D.step d s, true) from fun h h' => by unfold Dk.doA; rw [if_pos ⟨h, h'⟩])
  generalize Dk.doA d s = AA at *
  generalize d.ok = dok at *
  generalize s.ok = sok at *
  obtain ⟨db, fl, has, jr⟩ := d
  obtain ⟨k, p, x, ps⟩ := s
  dsimp only [dkV, stV] at *
  obtain ⟨a1, c1, e1⟩ := h1.slice
  obtain ⟨af, cf, ef⟩ := hf.slice
  obtain ⟨a2, c2, e2⟩ := h2.slice
  obtain ⟨sa, sc, e3⟩ := hs.slice
  subst e1 ef e2 e3
  obtain ⟨b0, k0, k1, k2, kz⟩ := three_boxesD w (.cells #[.slice a1 db.length c1, .slice af fl.length cf, .bool has, .slice a2 jr.length c2] 26) (.cells #[.int .i64 k, .int .i64 p, .int .i64 x, .slice sa ps.length sc] 28) (.cells #[.slice none 0 0, .slice none 0 0, .bool false, .slice none 0 0] 26)
  have HD := hide k0
  have HT := hide k1
  have HR := hide k2
  have BW := hide b0
  have H0 := hide (And.intro h1 (And.intro hf (And.intro h2 hs)))
  clear h1 hf h2 hs b0 k0 k1 k2 kz
  go_enter Tryz.func13, Tryz.ntmps13
  go_wp2_with fail
  generalize World.alloc _ _ = W0 at *
  refine (unhide CO _ ((unhide H0).1.later (unhide BW)) ((unhide H0).2.1.later (unhide BW)) ((unhide H0).2.2.1.later (unhide BW))).mono ?_
  rintro e w1 ⟨rfl, b⟩
  replace HD := hide ((b.block _ (heapLt (unhide HD))).trans (unhide HD))
  replace HT := hide ((b.block _ (heapLt (unhide HT))).trans (unhide HT))
  replace HR := hide ((b.block _ (heapLt (unhide HR))).trans (unhide HR))
  replace BW := hide ((unhide BW).trans (b.mono (unhide BW).size))
  clear b
  clear CO
  cases dok
  · have HE := hide (unhide HE0 (by trivial))
    obtain ⟨⟨x0, y0⟩, ⟨x1, y1⟩, ⟨x2, y2⟩, x3, y3⟩ : (_ ∧ _) ∧ (_ ∧ _) ∧ (_ ∧ _) ∧ _ ∧ _ := ⟨⟨cellOf (unhide HR) 0, frozenOf (unhide HR) 0⟩, ⟨cellOf (unhide HR) 1, frozenOf (unhide HR) 1⟩, ⟨cellOf (unhide HR) 2, frozenOf (unhide HR) 2⟩, cellOf (unhide HR) 3, frozenOf (unhide HR) 3⟩
    clear CS HE0 HE1 HE2
    go_wp2
    obtain ⟨⟨q0, q1, q2, q3⟩, hbel, hfar⟩ := fin4 (a := .slice none 0 0) (b := .slice none 0 0) (c := .bool false) (d := .slice none 0 0) (W := w) (unhide HR) (by omega) (unhide BW) rfl
    exact bodyPost_ret (v := .tuple #[.agg #[.slice none 0 0, .slice none 0 0, .bool false, .slice none 0 0], .bool false]) (by simp [results, Tryz.results13, go_sem, q0, q1, q2, q3]) rfl ⟨_, rfl, by rw [unhide HE]; exact ⟨_, _, _, [], [], rfl, ⟨PAns.nil _ _, World.ownsRow_nil _ _ _ _, PAns.nil _ _, fun g hg => by rcases hg with hg | ⟨e, he, _⟩; cases hg; cases he⟩, rfl, rfl⟩, hbel⟩
  obtain ⟨x0, x1, x2, x3⟩ : _ ∧ _ ∧ _ ∧ _ := ⟨cellOf (unhide HT) 0, cellOf (unhide HT) 1, cellOf (unhide HT) 2, cellOf (unhide HT) 3⟩
  go_wp2_with fail
  refine (unhide CS _ ((unhide H0).2.2.2.later (unhide BW))).mono ?_
  rintro e w2 ⟨rfl, b⟩
  replace HD := hide ((b.block _ (heapLt (unhide HD))).trans (unhide HD))
  replace HT := hide ((b.block _ (heapLt (unhide HT))).trans (unhide HT))
  replace HR := hide ((b.block _ (heapLt (unhide HR))).trans (unhide HR))
  replace BW := hide ((unhide BW).trans (b.mono (unhide BW).size))
  clear b
  clear x0 x1 x2 x3
  cases sok
  · have HE := hide (unhide HE1 (by trivial))
    obtain ⟨⟨x0, y0⟩, ⟨x1, y1⟩, ⟨x2, y2⟩, x3, y3⟩ : (_ ∧ _) ∧ (_ ∧ _) ∧ (_ ∧ _) ∧ _ ∧ _ := ⟨⟨cellOf (unhide HR) 0, frozenOf (unhide HR) 0⟩, ⟨cellOf (unhide HR) 1, frozenOf (unhide HR) 1⟩, ⟨cellOf (unhide HR) 2, frozenOf (unhide HR) 2⟩, cellOf (unhide HR) 3, frozenOf (unhide HR) 3⟩
    clear CS HE0 HE1 HE2
    go_wp2
    obtain ⟨⟨q0, q1, q2, q3⟩, hbel, hfar⟩ := fin4 (a := .slice none 0 0) (b := .slice none 0 0) (c := .bool false) (d := .slice none 0 0) (W := w) (unhide HR) (by omega) (unhide BW) rfl
    exact bodyPost_ret (v := .tuple #[.agg #[.slice none 0 0, .slice none 0 0, .bool false, .slice none 0 0], .bool false]) (by simp [results, Tryz.results13, go_sem, q0, q1, q2, q3]) rfl ⟨_, rfl, by rw [unhide HE]; exact ⟨_, _, _, [], [], rfl, ⟨PAns.nil _ _, World.ownsRow_nil _ _ _ _, PAns.nil _ _, fun g hg => by rcases hg with hg | ⟨e, he, _⟩; cases hg; cases he⟩, rfl, rfl⟩, hbel⟩
  obtain ⟨gf, g1, g2, _⟩ := unhide GD (by trivial)
  obtain ⟨hk, hp, _, g3⟩ := unhide GS (by trivial)
  have HLN := hide (And.intro (show db.length ≤ 1000 by have := Ix.pkgs_len (Ix.planOk_pkgs g1); omega) (And.intro (show jr.length ≤ 1000 by have := Ix.pkgs_len (Ix.planOk_pkgs g2); omega) (And.intro (show fl.length ≤ 1000 by have := (Dk.files_get gf).1; omega) (show ps.length ≤ 1000 by have := Ix.pkgs_len (Ix.planOk_pkgs g3); omega))))
  have HPB := hide (And.intro hp.1 (show p < (fl.length : Int) by have := (Dk.files_get gf).1; have := hp.2; omega))
  have HK := hide hk
  have HE := hide (unhide HE2 (by trivial) (by trivial))
  clear gf g1 g2 g3 hk hp GD GS CS HE0 HE1 HE2
  go_wp2_with fail
  refine wp_region_held_drew (S := fun w' => w'.cell? ⟨w.heap.size, 0, none⟩ = some (.slice a1 db.length c1) ∧ w'.cell? ⟨w.heap.size, 1, none⟩ = some (.slice af fl.length cf) ∧ w'.cell? ⟨w.heap.size, 2, none⟩ = some (.bool has) ∧ w'.cell? ⟨w.heap.size, 3, none⟩ = some (.slice a2 jr.length c2) ∧ w'.cell? ⟨w.heap.size + 1, 0, none⟩ = some (.int .i64 k) ∧ w'.cell? ⟨w.heap.size + 1, 1, none⟩ = some (.int .i64 p) ∧ w'.cell? ⟨w.heap.size + 1, 2, none⟩ = some (.int .i64 x) ∧ w'.cell? ⟨w.heap.size + 1, 3, none⟩ = some (.slice sa ps.length sc)) (by kernel_rfl) ⟨cellOf (unhide HD) 0, cellOf (unhide HD) 1, cellOf (unhide HD) 2, cellOf (unhide HD) 3, cellOf (unhide HT) 0, cellOf (unhide HT) 1, cellOf (unhide HT) 2, cellOf (unhide HT) 3⟩ (fun hHeld => ?_)
  refine anyH_at (i := 0) (d := some 15) rfl rfl (by kernel_rfl) (by kernel_rfl) (by kernel_rfl) (fun _ _ _ h => h) (by rfl) (v := ?_) ?_ (by assumption) ?_
  rotate_left
  · (intro w hSw; (try dsimp only at hSw); go_simp <;> with_reducible rfl)
  simp only [Act.put, List.setIfInBounds_toArray, List.set_cons_zero, List.set_cons_succ]
  refine anyH_at (i := 2) (d := some 17) rfl rfl (by kernel_rfl) (by kernel_rfl) (by kernel_rfl) (fun _ _ _ h => h) (by rfl) (v := ?_) ?_ (by assumption) ?_
  rotate_left
  · (intro w hSw; (try dsimp only at hSw); go_simp <;> with_reducible rfl)
  simp only [Act.put, List.setIfInBounds_toArray, List.set_cons_zero, List.set_cons_succ]
  refine wpAnyH_ready (rs := [1]) (by kernel_rfl) (by simp) ?_
  refine AllReadyH.cons rfl (fun K hK => ?_) AllReadyH.nil
  go_simp
  have b := below_drew w2
  replace HD := hide ((b.block _ (heapLt (unhide HD))).trans (unhide HD))
  replace HT := hide ((b.block _ (heapLt (unhide HT))).trans (unhide HT))
  replace HR := hide ((b.block _ (heapLt (unhide HR))).trans (unhide HR))
  replace BW := hide ((unhide BW).trans (b.mono (unhide BW).size))
  clear b
  refine (l21Copy_any _ ⟨db, fl, has, jr⟩ _ _ _ ((unhide H0).1.later (unhide BW)) ((unhide H0).2.1.later (unhide BW)) ((unhide H0).2.2.1.later (unhide BW)) (unhide HLN).1 (unhide HLN).2.1 (unhide HLN).2.2.1).mono ?_
  rintro e w3 ⟨u1, uf, u2, e1, e2, rfl, hA, hm1, hm2, b⟩
  have HL : Hid (w.heap.size + 1 + 1 < w2.drew.heap.size ∧ w.heap.size ≤ w2.drew.heap.size) := ⟨heapLt (unhide HR), (unhide BW).size⟩
  have HBS := hide b.size
  have HA := hide hA
  have HM1 := hide hm1
  have HM2 := hide hm2
  clear hA hm1 hm2
  replace HD := hide ((b.block _ (heapLt (unhide HD))).trans (unhide HD))
  replace HT := hide ((b.block _ (heapLt (unhide HT))).trans (unhide HT))
  replace HR := hide ((b.block _ (heapLt (unhide HR))).trans (unhide HR))
  replace BW := hide ((unhide BW).trans (b.mono (unhide BW).size))
  clear b
  generalize w2.drew.heap.size = B2 at *
  try go_wp2_with fail
  refine hK.out _ _ ?_ (fun hHeldN => ?_)
  · exact ⟨cellOf (unhide HD) 0, cellOf (unhide HD) 1, cellOf (unhide HD) 2, cellOf (unhide HD) 3, cellOf (unhide HT) 0, cellOf (unhide HT) 1, cellOf (unhide HT) 2, cellOf (unhide HT) 3⟩
  clear hHeld
  have hHeld := hHeldN
  clear hHeldN
  clear hK K
  try simp only [Act.put, List.setIfInBounds_toArray, List.set_cons_zero, List.set_cons_succ]
  refine wpAnyH_ready (rs := [3]) (by kernel_rfl) (by simp) ?_
  refine AllReadyH.cons rfl (fun K hK => ?_) AllReadyH.nil
  go_simp
  refine (l21Do_any (B := B2) _ has u1 uf u2 e1 e2 fl k p x sa sc ps (unhide HA) (unhide HBS) (((unhide H0).2.2.2.later (unhide BW)).weak (fun _ _ => trivial)) (unhide HLN).2.2.2 (unhide HK) (unhide HPB).1 (unhide HPB).2).mono ?_
  rintro e w6 ⟨v, rfl, hret, b⟩
  rw [unhide HM1, unhide HM2] at hret
  generalize Dk.D.step ⟨db, fl, has, jr⟩ ⟨k, p, x, ps⟩ = a at *
  obtain ⟨db', fl', has', jr'⟩ := a
  obtain ⟨q1, qf, q2, d1, d2, rfl, hA, hm1, hm2⟩ := hret
  dsimp only [dkV] at *
  obtain ⟨f1, g1, i1⟩ := own_formS hA.p1.own
  obtain ⟨ff, gf, iff'⟩ := own_formS hA.pf
  obtain ⟨f2, g2, i2⟩ := own_formS hA.p2.own
  subst i1 iff' i2
  replace HD := hide ((b.block _ (by have := unhide HL; omega)).trans (unhide HD))
  replace HT := hide ((b.block _ (by have := unhide HL; omega)).trans (unhide HT))
  replace HR := hide ((b.block _ (by have := unhide HL; omega)).trans (unhide HR))
  replace BW := hide ((unhide BW).trans (b.mono (by have := unhide HL; omega)))
  replace HA := hide hA
  have HM := hide (And.intro hm1 hm2)
  clear b hA hm1 hm2 HM1 HM2 HPB HK
  try go_wp2_with fail
  refine hK.out _ _ ?_ (fun hHeldN => ?_)
  · exact ⟨cellOf (unhide HD) 0, cellOf (unhide HD) 1, cellOf (unhide HD) 2, cellOf (unhide HD) 3, cellOf (unhide HT) 0, cellOf (unhide HT) 1, cellOf (unhide HT) 2, cellOf (unhide HT) 3⟩
  clear hHeld
  have hHeld := hHeldN
  clear hHeldN
  clear hK K
  try simp only [Act.put, List.setIfInBounds_toArray, List.set_cons_zero, List.set_cons_succ]
  obtain ⟨⟨x0, y0⟩, ⟨x1, y1⟩, ⟨x2, y2⟩, x3, y3⟩ : (_ ∧ _) ∧ (_ ∧ _) ∧ (_ ∧ _) ∧ _ ∧ _ := ⟨⟨cellOf (unhide HR) 0, frozenOf (unhide HR) 0⟩, ⟨cellOf (unhide HR) 1, frozenOf (unhide HR) 1⟩, ⟨cellOf (unhide HR) 2, frozenOf (unhide HR) 2⟩, cellOf (unhide HR) 3, frozenOf (unhide HR) 3⟩
  refine wpAnyH_ready (rs := [4]) (by kernel_rfl) (by simp) ?_
  refine AllReadyH.cons rfl (fun K hK => ?_) AllReadyH.nil
  go_simp
  clear x0 x1 x2 x3 y0 y1 y2 y3
  obtain ⟨⟨q0, q1, q2, q3⟩, hans, hbel⟩ := endC (w := w) (yes := true) (unhide HR) (by omega) (unhide BW) (unhide HL).1 (unhide HL).2 (has := has') (unhide HA) (unhide HM).1 (unhide HM).2 rfl
  have hfar : ∀ (j o : Nat) (u : Value), j ≠ w.heap.size + 1 + 1 → (((((w6.setCell ⟨w.heap.size + 1 + 1, 0, none⟩ (.slice f1 d1.length g1)).setCell ⟨w.heap.size + 1 + 1, 1, none⟩ (.slice ff fl'.length gf)).setCell ⟨w.heap.size + 1 + 1, 2, none⟩ (.bool has')).setCell ⟨w.heap.size + 1 + 1, 3, none⟩ (.slice f2 d2.length g2)).heap[j]? = w6.heap[j]?) := fun j o u hj => by rw [Below.heap_setCell _ _ _ _ hj, Below.heap_setCell _ _ _ _ hj, Below.heap_setCell _ _ _ _ hj, Below.heap_setCell _ _ _ _ hj]
  refine hK.out _ _ ?_ (fun hHeldN => ?_)
  · have h' := (hfar w.heap.size 0 .nilFunc (by omega)).trans (unhide HD)
    have h2 := (hfar (w.heap.size + 1) 0 .nilFunc (by omega)).trans (unhide HT)
    exact ⟨cellOf h' 0, cellOf h' 1, cellOf h' 2, cellOf h' 3, cellOf h2 0, cellOf h2 1, cellOf h2 2, cellOf h2 3⟩
  clear hHeld
  have hHeld := hHeldN
  clear hHeldN
  clear hK K
  try simp only [Act.put, List.setIfInBounds_toArray, List.set_cons_zero, List.set_cons_succ]
  refine anyH_at (i := 5) (d := some 5) rfl rfl (by kernel_rfl) (by kernel_rfl) (by kernel_rfl) (fun _ _ _ h => h) (by rfl) (v := ?_) ?_ (by assumption) ?_
  rotate_left
  · (intro w hSw; (try dsimp only at hSw); go_simp <;> with_reducible rfl)
  simp only [Act.put, List.setIfInBounds_toArray, List.set_cons_zero, List.set_cons_succ]
  refine wpAnyH_done (by kernel_rfl) ?_ _
  clear hHeld HD HT HR HA hfar
  go_wp2
  exact bodyPost_ret (v := .tuple #[.agg #[.slice f1 d1.length g1, .slice ff fl'.length gf, .bool has', .slice f2 d2.length g2], .bool true]) (by simp [results, Tryz.results13, go_sem, q0, q1, q2, q3]) rfl ⟨_, rfl, by rw [unhide HE]; exact hans, hbel⟩

set_option linter.unusedSimpArgs false in
set_option maxHeartbeats 8000000 in
set_option maxRecDepth 100000 in
theorem specDiskTear_any {N M L : Nat → Prop} (w : World) (d : Dk.D) (s : Dk.S) (v1 vf v2 vs : Value) (h1 : Pks N w v1 d.db) (hf : Ins w vf d.fl) (h2 : Pks M w v2 d.jr) (hs : Pks L w vs s.ps) :
    Calls Tryz.prog 6 #[dkV v1 vf d.has v2, stV s.k s.p s.x vs] w fun e w' => ∃ u, e = .returned u ∧ DkAns w.heap.size w' (Dk.tearA d s) u ∧ Below w.heap.size w w' := by
  have CO := hide (fun (W : World) h1 hf h2 => specDiskOk_any (N := N) (M := M) W d v1 vf v2 h1 hf h2)
  have CS := hide (fun (W : World) h => specStep_any (N := L) W s vs h)
  have GD := hide (fun h => Dk.ok_get (d := d) h)
  have GS := hide (fun h => Dk.S.ok_get (s := s) h)
  have HE0 := hide (show d.ok = false → Dk.tearA d s = (Dk.D.none, false) from fun h => by unfold Dk.tearA; rw [if_neg (by rw [h]; simp)])
  have HE1 := hide (show s.ok = false → Dk.tearA d s = (Dk.D.none, false) from fun h => by unfold Dk.tearA; rw [if_neg (by rw [h]; simp)])
  have HE2 := hide (show d.ok = true → s.ok = true → Dk.tearA d s = (Dk.D.torn d s, true) from fun h h' => by unfold Dk.tearA; rw [if_pos ⟨h, h'⟩])
  generalize Dk.tearA d s = AA at *
  generalize d.ok = dok at *
  generalize s.ok = sok at *
  obtain ⟨db, fl, has, jr⟩ := d
  obtain ⟨k, p, x, ps⟩ := s
  dsimp only [dkV, stV] at *
  obtain ⟨a1, c1, e1⟩ := h1.slice
  obtain ⟨af, cf, ef⟩ := hf.slice
  obtain ⟨a2, c2, e2⟩ := h2.slice
  obtain ⟨sa, sc, e3⟩ := hs.slice
  subst e1 ef e2 e3
  obtain ⟨b0, k0, k1, k2, kz⟩ := three_boxesD w (.cells #[.slice a1 db.length c1, .slice af fl.length cf, .bool has, .slice a2 jr.length c2] 26) (.cells #[.int .i64 k, .int .i64 p, .int .i64 x, .slice sa ps.length sc] 28) (.cells #[.slice none 0 0, .slice none 0 0, .bool false, .slice none 0 0] 26)
  have HD := hide k0
  have HT := hide k1
  have HR := hide k2
  have BW := hide b0
  have H0 := hide (And.intro h1 (And.intro hf (And.intro h2 hs)))
  clear h1 hf h2 hs b0 k0 k1 k2 kz
  go_enter Tryz.func6, Tryz.ntmps6
  go_wp2_with fail
  generalize World.alloc _ _ = W0 at *
  refine (unhide CO _ ((unhide H0).1.later (unhide BW)) ((unhide H0).2.1.later (unhide BW)) ((unhide H0).2.2.1.later (unhide BW))).mono ?_
  rintro e w1 ⟨rfl, b⟩
  replace HD := hide ((b.block _ (heapLt (unhide HD))).trans (unhide HD))
  replace HT := hide ((b.block _ (heapLt (unhide HT))).trans (unhide HT))
  replace HR := hide ((b.block _ (heapLt (unhide HR))).trans (unhide HR))
  replace BW := hide ((unhide BW).trans (b.mono (unhide BW).size))
  clear b
  clear CO
  cases dok
  · have HE := hide (unhide HE0 (by trivial))
    obtain ⟨⟨x0, y0⟩, ⟨x1, y1⟩, ⟨x2, y2⟩, x3, y3⟩ : (_ ∧ _) ∧ (_ ∧ _) ∧ (_ ∧ _) ∧ _ ∧ _ := ⟨⟨cellOf (unhide HR) 0, frozenOf (unhide HR) 0⟩, ⟨cellOf (unhide HR) 1, frozenOf (unhide HR) 1⟩, ⟨cellOf (unhide HR) 2, frozenOf (unhide HR) 2⟩, cellOf (unhide HR) 3, frozenOf (unhide HR) 3⟩
    clear CS HE0 HE1 HE2
    go_wp2
    obtain ⟨⟨q0, q1, q2, q3⟩, hbel, hfar⟩ := fin4 (a := .slice none 0 0) (b := .slice none 0 0) (c := .bool false) (d := .slice none 0 0) (W := w) (unhide HR) (by omega) (unhide BW) rfl
    exact bodyPost_ret (v := .tuple #[.agg #[.slice none 0 0, .slice none 0 0, .bool false, .slice none 0 0], .bool false]) (by simp [results, Tryz.results6, go_sem, q0, q1, q2, q3]) rfl ⟨_, rfl, by rw [unhide HE]; exact ⟨_, _, _, [], [], rfl, ⟨PAns.nil _ _, World.ownsRow_nil _ _ _ _, PAns.nil _ _, fun g hg => by rcases hg with hg | ⟨e, he, _⟩; cases hg; cases he⟩, rfl, rfl⟩, hbel⟩
  obtain ⟨x0, x1, x2, x3⟩ : _ ∧ _ ∧ _ ∧ _ := ⟨cellOf (unhide HT) 0, cellOf (unhide HT) 1, cellOf (unhide HT) 2, cellOf (unhide HT) 3⟩
  go_wp2_with fail
  refine (unhide CS _ ((unhide H0).2.2.2.later (unhide BW))).mono ?_
  rintro e w2 ⟨rfl, b⟩
  replace HD := hide ((b.block _ (heapLt (unhide HD))).trans (unhide HD))
  replace HT := hide ((b.block _ (heapLt (unhide HT))).trans (unhide HT))
  replace HR := hide ((b.block _ (heapLt (unhide HR))).trans (unhide HR))
  replace BW := hide ((unhide BW).trans (b.mono (unhide BW).size))
  clear b
  clear x0 x1 x2 x3
  cases sok
  · have HE := hide (unhide HE1 (by trivial))
    obtain ⟨⟨x0, y0⟩, ⟨x1, y1⟩, ⟨x2, y2⟩, x3, y3⟩ : (_ ∧ _) ∧ (_ ∧ _) ∧ (_ ∧ _) ∧ _ ∧ _ := ⟨⟨cellOf (unhide HR) 0, frozenOf (unhide HR) 0⟩, ⟨cellOf (unhide HR) 1, frozenOf (unhide HR) 1⟩, ⟨cellOf (unhide HR) 2, frozenOf (unhide HR) 2⟩, cellOf (unhide HR) 3, frozenOf (unhide HR) 3⟩
    clear CS HE0 HE1 HE2
    go_wp2
    obtain ⟨⟨q0, q1, q2, q3⟩, hbel, hfar⟩ := fin4 (a := .slice none 0 0) (b := .slice none 0 0) (c := .bool false) (d := .slice none 0 0) (W := w) (unhide HR) (by omega) (unhide BW) rfl
    exact bodyPost_ret (v := .tuple #[.agg #[.slice none 0 0, .slice none 0 0, .bool false, .slice none 0 0], .bool false]) (by simp [results, Tryz.results6, go_sem, q0, q1, q2, q3]) rfl ⟨_, rfl, by rw [unhide HE]; exact ⟨_, _, _, [], [], rfl, ⟨PAns.nil _ _, World.ownsRow_nil _ _ _ _, PAns.nil _ _, fun g hg => by rcases hg with hg | ⟨e, he, _⟩; cases hg; cases he⟩, rfl, rfl⟩, hbel⟩
  obtain ⟨gf, g1, g2, _⟩ := unhide GD (by trivial)
  obtain ⟨hk, hp, _, g3⟩ := unhide GS (by trivial)
  have HLN := hide (And.intro (show db.length ≤ 1000 by have := Ix.pkgs_len (Ix.planOk_pkgs g1); omega) (And.intro (show jr.length ≤ 1000 by have := Ix.pkgs_len (Ix.planOk_pkgs g2); omega) (And.intro (show fl.length ≤ 1000 by have := (Dk.files_get gf).1; omega) (show ps.length ≤ 1000 by have := Ix.pkgs_len (Ix.planOk_pkgs g3); omega))))
  have HPB := hide (And.intro hp.1 (show p < (fl.length : Int) by have := (Dk.files_get gf).1; have := hp.2; omega))
  have HK := hide hk
  have HE := hide (unhide HE2 (by trivial) (by trivial))
  clear gf g1 g2 g3 hk hp GD GS CS HE0 HE1 HE2
  go_wp2_with fail
  refine wp_region_held_drew (S := fun w' => w'.cell? ⟨w.heap.size, 0, none⟩ = some (.slice a1 db.length c1) ∧ w'.cell? ⟨w.heap.size, 1, none⟩ = some (.slice af fl.length cf) ∧ w'.cell? ⟨w.heap.size, 2, none⟩ = some (.bool has) ∧ w'.cell? ⟨w.heap.size, 3, none⟩ = some (.slice a2 jr.length c2) ∧ w'.cell? ⟨w.heap.size + 1, 0, none⟩ = some (.int .i64 k) ∧ w'.cell? ⟨w.heap.size + 1, 1, none⟩ = some (.int .i64 p) ∧ w'.cell? ⟨w.heap.size + 1, 2, none⟩ = some (.int .i64 x) ∧ w'.cell? ⟨w.heap.size + 1, 3, none⟩ = some (.slice sa ps.length sc)) (by kernel_rfl) ⟨cellOf (unhide HD) 0, cellOf (unhide HD) 1, cellOf (unhide HD) 2, cellOf (unhide HD) 3, cellOf (unhide HT) 0, cellOf (unhide HT) 1, cellOf (unhide HT) 2, cellOf (unhide HT) 3⟩ (fun hHeld => ?_)
  refine anyH_at (i := 0) (d := some 15) rfl rfl (by kernel_rfl) (by kernel_rfl) (by kernel_rfl) (fun _ _ _ h => h) (by rfl) (v := ?_) ?_ (by assumption) ?_
  rotate_left
  · (intro w hSw; (try dsimp only at hSw); go_simp <;> with_reducible rfl)
  simp only [Act.put, List.setIfInBounds_toArray, List.set_cons_zero, List.set_cons_succ]
  refine anyH_at (i := 2) (d := some 17) rfl rfl (by kernel_rfl) (by kernel_rfl) (by kernel_rfl) (fun _ _ _ h => h) (by rfl) (v := ?_) ?_ (by assumption) ?_
  rotate_left
  · (intro w hSw; (try dsimp only at hSw); go_simp <;> with_reducible rfl)
  simp only [Act.put, List.setIfInBounds_toArray, List.set_cons_zero, List.set_cons_succ]
  refine wpAnyH_ready (rs := [1]) (by kernel_rfl) (by simp) ?_
  refine AllReadyH.cons rfl (fun K hK => ?_) AllReadyH.nil
  go_simp
  have b := below_drew w2
  replace HD := hide ((b.block _ (heapLt (unhide HD))).trans (unhide HD))
  replace HT := hide ((b.block _ (heapLt (unhide HT))).trans (unhide HT))
  replace HR := hide ((b.block _ (heapLt (unhide HR))).trans (unhide HR))
  replace BW := hide ((unhide BW).trans (b.mono (unhide BW).size))
  clear b
  refine (l21Copy_any _ ⟨db, fl, has, jr⟩ _ _ _ ((unhide H0).1.later (unhide BW)) ((unhide H0).2.1.later (unhide BW)) ((unhide H0).2.2.1.later (unhide BW)) (unhide HLN).1 (unhide HLN).2.1 (unhide HLN).2.2.1).mono ?_
  rintro e w3 ⟨u1, uf, u2, e1, e2, rfl, hA, hm1, hm2, b⟩
  have HL : Hid (w.heap.size + 1 + 1 < w2.drew.heap.size ∧ w.heap.size ≤ w2.drew.heap.size) := ⟨heapLt (unhide HR), (unhide BW).size⟩
  have HBS := hide b.size
  have HA := hide hA
  have HM1 := hide hm1
  have HM2 := hide hm2
  clear hA hm1 hm2
  replace HD := hide ((b.block _ (heapLt (unhide HD))).trans (unhide HD))
  replace HT := hide ((b.block _ (heapLt (unhide HT))).trans (unhide HT))
  replace HR := hide ((b.block _ (heapLt (unhide HR))).trans (unhide HR))
  replace BW := hide ((unhide BW).trans (b.mono (unhide BW).size))
  clear b
  generalize w2.drew.heap.size = B2 at *
  try go_wp2_with fail
  refine hK.out _ _ ?_ (fun hHeldN => ?_)
  · exact ⟨cellOf (unhide HD) 0, cellOf (unhide HD) 1, cellOf (unhide HD) 2, cellOf (unhide HD) 3, cellOf (unhide HT) 0, cellOf (unhide HT) 1, cellOf (unhide HT) 2, cellOf (unhide HT) 3⟩
  clear hHeld
  have hHeld := hHeldN
  clear hHeldN
  clear hK K
  try simp only [Act.put, List.setIfInBounds_toArray, List.set_cons_zero, List.set_cons_succ]
  refine wpAnyH_ready (rs := [3]) (by kernel_rfl) (by simp) ?_
  refine AllReadyH.cons rfl (fun K hK => ?_) AllReadyH.nil
  go_simp
  refine (l21Tear_any (B := B2) _ has u1 uf u2 e1 e2 fl k p x sa sc ps (unhide HA) (unhide HBS) (((unhide H0).2.2.2.later (unhide BW)).weak (fun _ _ => trivial)) (unhide HLN).2.2.2 (unhide HK) (unhide HPB).1 (unhide HPB).2).mono ?_
  rintro e w6 ⟨v, rfl, hret, b⟩
  rw [unhide HM1, unhide HM2] at hret
  generalize Dk.D.torn ⟨db, fl, has, jr⟩ ⟨k, p, x, ps⟩ = a at *
  obtain ⟨db', fl', has', jr'⟩ := a
  obtain ⟨q1, qf, q2, d1, d2, rfl, hA, hm1, hm2⟩ := hret
  dsimp only [dkV] at *
  obtain ⟨f1, g1, i1⟩ := own_formS hA.p1.own
  obtain ⟨ff, gf, iff'⟩ := own_formS hA.pf
  obtain ⟨f2, g2, i2⟩ := own_formS hA.p2.own
  subst i1 iff' i2
  replace HD := hide ((b.block _ (by have := unhide HL; omega)).trans (unhide HD))
  replace HT := hide ((b.block _ (by have := unhide HL; omega)).trans (unhide HT))
  replace HR := hide ((b.block _ (by have := unhide HL; omega)).trans (unhide HR))
  replace BW := hide ((unhide BW).trans (b.mono (by have := unhide HL; omega)))
  replace HA := hide hA
  have HM := hide (And.intro hm1 hm2)
  clear b hA hm1 hm2 HM1 HM2 HPB HK
  try go_wp2_with fail
  refine hK.out _ _ ?_ (fun hHeldN => ?_)
  · exact ⟨cellOf (unhide HD) 0, cellOf (unhide HD) 1, cellOf (unhide HD) 2, cellOf (unhide HD) 3, cellOf (unhide HT) 0, cellOf (unhide HT) 1, cellOf (unhide HT) 2, cellOf (unhide HT) 3⟩
  clear hHeld
  have hHeld := hHeldN
  clear hHeldN
  clear hK K
  try simp only [Act.put, List.setIfInBounds_toArray, List.set_cons_zero, List.set_cons_succ]
  obtain ⟨⟨x0, y0⟩, ⟨x1, y1⟩, ⟨x2, y2⟩, x3, y3⟩ : (_ ∧ _) ∧ (_ ∧ _) ∧ (_ ∧ _) ∧ _ ∧ _ := ⟨⟨cellOf (unhide HR) 0, frozenOf (unhide HR) 0⟩, ⟨cellOf (unhide HR) 1, frozenOf (unhide HR) 1⟩, ⟨cellOf (unhide HR) 2, frozenOf (unhide HR) 2⟩, cellOf (unhide HR) 3, frozenOf (unhide HR) 3⟩
  refine wpAnyH_ready (rs := [4]) (by kernel_rfl) (by simp) ?_
  refine AllReadyH.cons rfl (fun K hK => ?_) AllReadyH.nil
  go_simp
  clear x0 x1 x2 x3 y0 y1 y2 y3
  obtain ⟨⟨q0, q1, q2, q3⟩, hans, hbel⟩ := endC (w := w) (yes := true) (unhide HR) (by omega) (unhide BW) (unhide HL).1 (unhide HL).2 (has := has') (unhide HA) (unhide HM).1 (unhide HM).2 rfl
  have hfar : ∀ (j o : Nat) (u : Value), j ≠ w.heap.size + 1 + 1 → (((((w6.setCell ⟨w.heap.size + 1 + 1, 0, none⟩ (.slice f1 d1.length g1)).setCell ⟨w.heap.size + 1 + 1, 1, none⟩ (.slice ff fl'.length gf)).setCell ⟨w.heap.size + 1 + 1, 2, none⟩ (.bool has')).setCell ⟨w.heap.size + 1 + 1, 3, none⟩ (.slice f2 d2.length g2)).heap[j]? = w6.heap[j]?) := fun j o u hj => by rw [Below.heap_setCell _ _ _ _ hj, Below.heap_setCell _ _ _ _ hj, Below.heap_setCell _ _ _ _ hj, Below.heap_setCell _ _ _ _ hj]
  refine hK.out _ _ ?_ (fun hHeldN => ?_)
  · have h' := (hfar w.heap.size 0 .nilFunc (by omega)).trans (unhide HD)
    have h2 := (hfar (w.heap.size + 1) 0 .nilFunc (by omega)).trans (unhide HT)
    exact ⟨cellOf h' 0, cellOf h' 1, cellOf h' 2, cellOf h' 3, cellOf h2 0, cellOf h2 1, cellOf h2 2, cellOf h2 3⟩
  clear hHeld
  have hHeld := hHeldN
  clear hHeldN
  clear hK K
  try simp only [Act.put, List.setIfInBounds_toArray, List.set_cons_zero, List.set_cons_succ]
  refine anyH_at (i := 5) (d := some 5) rfl rfl (by kernel_rfl) (by kernel_rfl) (by kernel_rfl) (fun _ _ _ h => h) (by rfl) (v := ?_) ?_ (by assumption) ?_
  rotate_left
  · (intro w hSw; (try dsimp only at hSw); go_simp <;> with_reducible rfl)
  simp only [Act.put, List.setIfInBounds_toArray, List.set_cons_zero, List.set_cons_succ]
  refine wpAnyH_done (by kernel_rfl) ?_ _
  clear hHeld HD HT HR HA hfar
  go_wp2
  exact bodyPost_ret (v := .tuple #[.agg #[.slice f1 d1.length g1, .slice ff fl'.length gf, .bool has', .slice f2 d2.length g2], .bool true]) (by simp [results, Tryz.results6, go_sem, q0, q1, q2, q3]) rfl ⟨_, rfl, by rw [unhide HE]; exact hans, hbel⟩

end Go.Proofs.YtognimdifchnkaaGreatDoor
