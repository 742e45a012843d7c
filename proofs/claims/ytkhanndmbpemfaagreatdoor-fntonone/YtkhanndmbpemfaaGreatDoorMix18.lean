import Derived.Test.YtkhanndmbpemfaaGreatDoorBehindStepW
import Derived.Test.YtkhanndmbpemfaaGreatDoorMix13
import Derived.Test.YtkhanndmbpemfaaGreatDoorMix8
import Derived.Test.YtkhanndmbpemfaaGreatDoorMix1
/- impl.DiskDo and impl.DiskTear: the disk behind a step, in rows of its own, and whether. -/
namespace Go.Proofs.YtkhanndmbpemfaaGreatDoor
open Go.RowKit

attribute [local go_sem ↓] Go.wp_at_zero Go.wp_at_succ

/-- The store into the answer's box, and what is answered. -/
theorem endC {w w6 : World} {R B : Nat} {u1 uf u2 : Value} {has yes : Bool} {e1 e2 : List El} {fl : List Int} {db jr : List Ix.Pg} {r0 r1 r2 r3 : Value}
    (hR : w6.heap[R]? = some (.cells #[r0, r1, r2, r3] 31 (0, 0))) (lR : w.heap.size ≤ R) (hb : Below w.heap.size w w6) (hRB : R < B) (hwB : w.heap.size ≤ B)
    (hA : DAns B w6 u1 uf u2 e1 fl e2) (hm1 : e1.map (·.1) = db) (hm2 : e2.map (·.1) = jr) {w' : World}
    (hw : w' = (((w6.setCell ⟨R, 0, none⟩ u1).setCell ⟨R, 1, none⟩ uf).setCell ⟨R, 2, none⟩ (.bool has)).setCell ⟨R, 3, none⟩ u2) :
    (w'.cell? ⟨R, 0, none⟩ = some u1 ∧ w'.cell? ⟨R, 1, none⟩ = some uf ∧ w'.cell? ⟨R, 2, none⟩ = some (.bool has) ∧ w'.cell? ⟨R, 3, none⟩ = some u2) ∧ DkAns w.heap.size w' (⟨db, fl, has, jr⟩, yes) (.tuple #[.agg #[u1, uf, .bool has, u2], .bool yes]) ∧ Below w.heap.size w w' := by
  obtain ⟨hq, hbel, hfar⟩ := fin4 (W := w) hR lR hb hw
  exact ⟨hq, ⟨_, _, _, e1, e2, rfl, DAns.base (B := B) ⟨hA.p1.keep (fun g hg => hfar g (by have := (hA.p1.lt g hg).1; omega)), own_keepS hA.pf (fun g _ e hle _ => hfar g (by omega)), hA.p2.keep (fun g hg => hfar g (by have := (hA.p2.lt g hg).1; omega)), hA.far⟩ hwB, hm1, hm2⟩, hbel⟩

set_option linter.unusedSimpArgs false in
set_option maxHeartbeats 4000000 in
set_option maxRecDepth 100000 in
theorem implDiskDo_any {N M L : Nat → Prop} (w : World) (d : Dk.D) (s : Dk.S) (v1 vf v2 vs : Value) (h1 : Pks N w v1 d.db) (r1 : ∀ a c, v1 = .slice a d.db.length c → d.db.length ≤ c) (hf : Ins w vf d.fl) (h2 : Pks M w v2 d.jr) (r2 : ∀ a c, v2 = .slice a d.jr.length c → d.jr.length ≤ c) (hs : Pks L w vs s.ps) (rs : ∀ a c, vs = .slice a s.ps.length c → s.ps.length ≤ c) :
    Calls Tryz.prog 19 #[dkV v1 vf d.has v2, stV s.k s.p s.x vs] w fun e w' => ∃ u, e = .returned u ∧ DkAns w.heap.size w' (Dk.doA d s) u ∧ Below w.heap.size w w' := by
  have CB := hide (fun (W : World) h1 hf h2 hs => doStep_any (N := N) (M := M) (L := L) W d s v1 vf v2 vs h1 r1 hf h2 r2 hs rs)
  generalize Dk.doA d s = AA at *
  obtain ⟨db, fl, has, jr⟩ := d
  obtain ⟨k, p, x, ps⟩ := s
  dsimp only [dkV, stV] at *
  obtain ⟨a1, c1, e1⟩ := h1.slice
  obtain ⟨af, cf, ef⟩ := hf.slice
  obtain ⟨a2, c2, e2⟩ := h2.slice
  obtain ⟨sa, sc, e3⟩ := hs.slice
  subst e1 ef e2 e3
  obtain ⟨b0, k0, k1, k2, kz⟩ := three_boxesD w (.cells #[.slice a1 db.length c1, .slice af fl.length cf, .bool has, .slice a2 jr.length c2] 31) (.cells #[.int .i64 k, .int .i64 p, .int .i64 x, .slice sa ps.length sc] 47) (.cells #[.slice none 0 0, .slice none 0 0, .bool false, .slice none 0 0] 31)
  have HR := hide k2
  have BW := hide b0
  have H0 := hide (And.intro h1 (And.intro hf (And.intro h2 hs)))
  clear h1 hf h2 hs b0 k0 k1 k2 kz r1 r2 rs
  go_enter Tryz.func19, Tryz.ntmps19
  go_wp2_with fail
  generalize World.alloc _ _ = W0 at *
  refine (unhide CB _ ((unhide H0).1.later (unhide BW)) ((unhide H0).2.1.later (unhide BW)) ((unhide H0).2.2.1.later (unhide BW)) ((unhide H0).2.2.2.later (unhide BW))).mono ?_
  rintro e w6 ⟨u, rfl, ⟨u1, uf, u2, e1, e2, rfl, hA, hm1, hm2⟩, b⟩
  obtain ⟨⟨db', fl', has', jr'⟩, yes⟩ := AA
  obtain ⟨f1, g1, i1⟩ := own_formS hA.p1.own
  obtain ⟨ff, gf, iff'⟩ := own_formS hA.pf
  obtain ⟨f2, g2, i2⟩ := own_formS hA.p2.own
  subst i1 iff' i2
  dsimp only [dkV] at *
  have HL : Hid (w.heap.size + 1 + 1 < W0.heap.size ∧ w.heap.size ≤ W0.heap.size) := ⟨heapLt (unhide HR), (unhide BW).size⟩
  replace HR := hide ((b.block _ (heapLt (unhide HR))).trans (unhide HR))
  replace BW := hide ((unhide BW).trans (b.mono (unhide BW).size))
  have HA := hide hA
  have HM := hide (And.intro hm1 hm2)
  clear b hA hm1 hm2 CB
  obtain ⟨⟨x0, y0⟩, ⟨x1, y1⟩, ⟨x2, y2⟩, x3, y3⟩ : (_ ∧ _) ∧ (_ ∧ _) ∧ (_ ∧ _) ∧ _ ∧ _ := ⟨⟨cellOf (unhide HR) 0, frozenOf (unhide HR) 0⟩, ⟨cellOf (unhide HR) 1, frozenOf (unhide HR) 1⟩, ⟨cellOf (unhide HR) 2, frozenOf (unhide HR) 2⟩, cellOf (unhide HR) 3, frozenOf (unhide HR) 3⟩
  go_wp2
  obtain ⟨⟨q0, q1, q2, q3⟩, hans, hbel⟩ := endC (w := w) (yes := yes) (unhide HR) (by omega) (unhide BW) (unhide HL).1 (unhide HL).2 (unhide HA) (unhide HM).1 (unhide HM).2 rfl
  exact bodyPost_ret (v := .tuple #[.agg #[.slice f1 e1.length g1, .slice ff fl'.length gf, .bool has', .slice f2 e2.length g2], .bool yes]) (by simp [results, Tryz.results19, go_sem, q0, q1, q2, q3]) rfl ⟨_, rfl, hans, hbel⟩

set_option linter.unusedSimpArgs false in
set_option maxHeartbeats 4000000 in
set_option maxRecDepth 100000 in
theorem implDiskTear_any {N M L : Nat → Prop} (w : World) (d : Dk.D) (s : Dk.S) (v1 vf v2 vs : Value) (h1 : Pks N w v1 d.db) (r1 : ∀ a c, v1 = .slice a d.db.length c → d.db.length ≤ c) (hf : Ins w vf d.fl) (h2 : Pks M w v2 d.jr) (r2 : ∀ a c, v2 = .slice a d.jr.length c → d.jr.length ≤ c) (hs : Pks L w vs s.ps) (rs : ∀ a c, vs = .slice a s.ps.length c → s.ps.length ≤ c) :
    Calls Tryz.prog 20 #[dkV v1 vf d.has v2, stV s.k s.p s.x vs] w fun e w' => ∃ u, e = .returned u ∧ DkAns w.heap.size w' (Dk.tearA d s) u ∧ Below w.heap.size w w' := by
  have CB := hide (fun (W : World) h1 hf h2 hs => tearStep_any (N := N) (M := M) (L := L) W d s v1 vf v2 vs h1 r1 hf h2 r2 hs rs)
  generalize Dk.tearA d s = AA at *
  obtain ⟨db, fl, has, jr⟩ := d
  obtain ⟨k, p, x, ps⟩ := s
  dsimp only [dkV, stV] at *
  obtain ⟨a1, c1, e1⟩ := h1.slice
  obtain ⟨af, cf, ef⟩ := hf.slice
  obtain ⟨a2, c2, e2⟩ := h2.slice
  obtain ⟨sa, sc, e3⟩ := hs.slice
  subst e1 ef e2 e3
  obtain ⟨b0, k0, k1, k2, kz⟩ := three_boxesD w (.cells #[.slice a1 db.length c1, .slice af fl.length cf, .bool has, .slice a2 jr.length c2] 31) (.cells #[.int .i64 k, .int .i64 p, .int .i64 x, .slice sa ps.length sc] 47) (.cells #[.slice none 0 0, .slice none 0 0, .bool false, .slice none 0 0] 31)
  have HR := hide k2
  have BW := hide b0
  have H0 := hide (And.intro h1 (And.intro hf (And.intro h2 hs)))
  clear h1 hf h2 hs b0 k0 k1 k2 kz r1 r2 rs
  go_enter Tryz.func20, Tryz.ntmps20
  go_wp2_with fail
  generalize World.alloc _ _ = W0 at *
  refine (unhide CB _ ((unhide H0).1.later (unhide BW)) ((unhide H0).2.1.later (unhide BW)) ((unhide H0).2.2.1.later (unhide BW)) ((unhide H0).2.2.2.later (unhide BW))).mono ?_
  rintro e w6 ⟨u, rfl, ⟨u1, uf, u2, e1, e2, rfl, hA, hm1, hm2⟩, b⟩
  obtain ⟨⟨db', fl', has', jr'⟩, yes⟩ := AA
  obtain ⟨f1, g1, i1⟩ := own_formS hA.p1.own
  obtain ⟨ff, gf, iff'⟩ := own_formS hA.pf
  obtain ⟨f2, g2, i2⟩ := own_formS hA.p2.own
  subst i1 iff' i2
  dsimp only [dkV] at *
  have HL : Hid (w.heap.size + 1 + 1 < W0.heap.size ∧ w.heap.size ≤ W0.heap.size) := ⟨heapLt (unhide HR), (unhide BW).size⟩
  replace HR := hide ((b.block _ (heapLt (unhide HR))).trans (unhide HR))
  replace BW := hide ((unhide BW).trans (b.mono (unhide BW).size))
  have HA := hide hA
  have HM := hide (And.intro hm1 hm2)
  clear b hA hm1 hm2 CB
  obtain ⟨⟨x0, y0⟩, ⟨x1, y1⟩, ⟨x2, y2⟩, x3, y3⟩ : (_ ∧ _) ∧ (_ ∧ _) ∧ (_ ∧ _) ∧ _ ∧ _ := ⟨⟨cellOf (unhide HR) 0, frozenOf (unhide HR) 0⟩, ⟨cellOf (unhide HR) 1, frozenOf (unhide HR) 1⟩, ⟨cellOf (unhide HR) 2, frozenOf (unhide HR) 2⟩, cellOf (unhide HR) 3, frozenOf (unhide HR) 3⟩
  go_wp2
  obtain ⟨⟨q0, q1, q2, q3⟩, hans, hbel⟩ := endC (w := w) (yes := yes) (unhide HR) (by omega) (unhide BW) (unhide HL).1 (unhide HL).2 (unhide HA) (unhide HM).1 (unhide HM).2 rfl
  exact bodyPost_ret (v := .tuple #[.agg #[.slice f1 e1.length g1, .slice ff fl'.length gf, .bool has', .slice f2 e2.length g2], .bool yes]) (by simp [results, Tryz.results20, go_sem, q0, q1, q2, q3]) rfl ⟨_, rfl, hans, hbel⟩

end Go.Proofs.YtkhanndmbpemfaaGreatDoor

/- spec.l21Copy: a disk anew, in rows of its own. -/
namespace Go.Proofs.YtkhanndmbpemfaaGreatDoor
open Go.RowKit

attribute [local go_sem ↓] Go.wp_at_zero Go.wp_at_succ

/-- The store into the answer's box: the disk that is in rows of its own stays. -/
theorem endD {w w6 : World} {R B : Nat} {u1 uf u2 : Value} {has : Bool} {e1 e2 : List El} {fl : List Int} {r0 r1 r2 r3 : Value}
    (hR : w6.heap[R]? = some (.cells #[r0, r1, r2, r3] 31 (0, 0))) (lR : w.heap.size ≤ R) (hb : Below w.heap.size w w6)
    (hA : DAns B w6 u1 uf u2 e1 fl e2) {w' : World}
    (hw : w' = (((w6.setCell ⟨R, 0, none⟩ u1).setCell ⟨R, 1, none⟩ uf).setCell ⟨R, 2, none⟩ (.bool has)).setCell ⟨R, 3, none⟩ u2) :
    (w'.cell? ⟨R, 0, none⟩ = some u1 ∧ w'.cell? ⟨R, 1, none⟩ = some uf ∧ w'.cell? ⟨R, 2, none⟩ = some (.bool has) ∧ w'.cell? ⟨R, 3, none⟩ = some u2) ∧ DAns B w' u1 uf u2 e1 fl e2 ∧ Below w.heap.size w w' ∧ ∀ g, g ≠ R → w'.heap[g]? = w6.heap[g]? := by
  obtain ⟨hq, hbel, hfar⟩ := fin4 (W := w) hR lR hb hw
  exact ⟨hq, ⟨hA.p1.keep (fun g hg => hfar g (fun e => by subst e; exact hA.p1.notDisk hR hg)), own_keepS hA.pf (fun g _ e _ _ => hfar g (fun e2 => own_ne hA.pf hR (by decide) (by rw [e, e2]))), hA.p2.keep (fun g hg => hfar g (fun e => by subst e; exact hA.p2.notDisk hR hg)), hA.far⟩, hbel, hfar⟩

set_option linter.unusedSimpArgs false in
set_option maxHeartbeats 8000000 in
set_option maxRecDepth 100000 in
theorem l21Copy_any {N M : Nat → Prop} (w : World) (d : Dk.D) (v1 vf v2 : Value) (h1 : Pks N w v1 d.db) (hf : Ins w vf d.fl) (h2 : Pks M w v2 d.jr) (l1 : d.db.length ≤ 1000) (l2 : d.jr.length ≤ 1000) (lf : d.fl.length ≤ 1000) :
    Calls Tryz.prog 28 #[dkV v1 vf d.has v2] w fun e w' => ∃ u1 uf u2 e1 e2, e = .returned (dkV u1 uf d.has u2) ∧ DAns w.heap.size w' u1 uf u2 e1 d.fl e2 ∧ e1.map (·.1) = d.db ∧ e2.map (·.1) = d.jr ∧ Below w.heap.size w w' := by
  obtain ⟨i0, hI0, hz0, hz1, hz2⟩ := info_parts infoI'
  obtain ⟨db, fl, has, jr⟩ := d
  dsimp only [dkV] at *
  obtain ⟨a1, c1, e1⟩ := h1.slice
  obtain ⟨af, cf, ef⟩ := hf.slice
  obtain ⟨a2, c2, e2⟩ := h2.slice
  subst e1 ef e2
  have hA := heap_alloc_new w (.cells #[.slice a1 db.length c1, .slice af fl.length cf, .bool has, .slice a2 jr.length c2] 31)
  have bA := below1 w (.cells #[.slice a1 db.length c1, .slice af fl.length cf, .bool has, .slice a2 jr.length c2] 31)
  have hB := heap_alloc_new (w.alloc (.cells #[.slice a1 db.length c1, .slice af fl.length cf, .bool has, .slice a2 jr.length c2] 31)) (.cells #[.slice none 0 0, .slice none 0 0, .bool false, .slice none 0 0] 31)
  have bB := below1 (w.alloc (.cells #[.slice a1 db.length c1, .slice af fl.length cf, .bool has, .slice a2 jr.length c2] 31)) (.cells #[.slice none 0 0, .slice none 0 0, .bool false, .slice none 0 0] 31)
  rw [sz1'] at hB
  have HB := hide ((bB.block _ (heapLt hA)).trans hA)
  have HR := hide hB
  have BW := hide (bA.trans (bB.mono bA.size))
  have H0 := hide (And.intro h1 (And.intro hf h2))
  have HLN := hide (And.intro l1 (And.intro l2 lf))
  clear hA bA hB bB h1 hf h2 l1 l2 lf
  go_enter Tryz.func28, Tryz.ntmps28
  go_wp2_with fail
  generalize World.alloc _ _ = W0 at *
  obtain ⟨x0, x1, x2, x3⟩ : _ ∧ _ ∧ _ ∧ _ := ⟨cellOf (unhide HB) 0, cellOf (unhide HB) 1, cellOf (unhide HB) 2, cellOf (unhide HB) 3⟩
  refine wp_region_held_drew (S := fun w' => w'.cell? ⟨w.heap.size, 0, none⟩ = some (.slice a1 db.length c1) ∧ w'.cell? ⟨w.heap.size, 1, none⟩ = some (.slice af fl.length cf) ∧ w'.cell? ⟨w.heap.size, 2, none⟩ = some (.bool has) ∧ w'.cell? ⟨w.heap.size, 3, none⟩ = some (.slice a2 jr.length c2)) (by kernel_rfl) ⟨x0, x1, x2, x3⟩ (fun hHeld => ?_)
  clear x0 x1 x2 x3
  refine anyH_at (i := 0) (d := some 3) rfl rfl (by kernel_rfl) (by kernel_rfl) (by kernel_rfl) (fun _ _ _ h => h) (by rfl) (v := ?_) ?_ (by assumption) ?_
  rotate_left
  · (intro w hSw; (try dsimp only at hSw); go_simp <;> with_reducible rfl)
  simp only [Act.put, List.setIfInBounds_toArray, List.set_cons_zero, List.set_cons_succ]
  refine anyH_at (i := 1) (d := some 4) rfl rfl (by kernel_rfl) (by kernel_rfl) (by kernel_rfl) (fun _ _ _ h => h) (by rfl) (v := ?_) ?_ (by assumption) ?_
  rotate_left
  · (intro w hSw; (try dsimp only at hSw); go_simp <;> with_reducible rfl)
  simp only [Act.put, List.setIfInBounds_toArray, List.set_cons_zero, List.set_cons_succ]
  refine anyH_at (i := 4) (d := some 7) rfl rfl (by kernel_rfl) (by kernel_rfl) (by kernel_rfl) (fun _ _ _ h => h) (by rfl) (v := ?_) ?_ (by assumption) ?_
  rotate_left
  · (intro w hSw; (try dsimp only at hSw); go_simp <;> with_reducible rfl)
  simp only [Act.put, List.setIfInBounds_toArray, List.set_cons_zero, List.set_cons_succ]
  refine anyH_at (i := 5) (d := some 8) rfl rfl (by kernel_rfl) (by kernel_rfl) (by kernel_rfl) (fun _ _ _ h => h) (by rfl) (v := ?_) ?_ (by assumption) ?_
  rotate_left
  · (intro w hSw; (try dsimp only at hSw); go_simp <;> with_reducible rfl)
  simp only [Act.put, List.setIfInBounds_toArray, List.set_cons_zero, List.set_cons_succ]
  refine anyH_at (i := 7) (d := some 10) rfl rfl (by kernel_rfl) (by kernel_rfl) (by kernel_rfl) (fun _ _ _ h => h) (by rfl) (v := ?_) ?_ (by assumption) ?_
  rotate_left
  · (intro w hSw; (try dsimp only at hSw); go_simp <;> with_reducible rfl)
  simp only [Act.put, List.setIfInBounds_toArray, List.set_cons_zero, List.set_cons_succ]
  refine anyH_at (i := 8) (d := some 11) rfl rfl (by kernel_rfl) (by kernel_rfl) (by kernel_rfl) (fun _ _ _ h => h) (by rfl) (v := ?_) ?_ (by assumption) ?_
  rotate_left
  · (intro w hSw; (try dsimp only at hSw); go_simp <;> with_reducible rfl)
  simp only [Act.put, List.setIfInBounds_toArray, List.set_cons_zero, List.set_cons_succ]
  refine anyH_at (i := 9) (d := some 12) rfl rfl (by kernel_rfl) (by kernel_rfl) (by kernel_rfl) (fun _ _ _ h => h) (by rfl) (v := ?_) ?_ (by assumption) ?_
  rotate_left
  · (intro w hSw; (try dsimp only at hSw); go_simp <;> with_reducible rfl)
  simp only [Act.put, List.setIfInBounds_toArray, List.set_cons_zero, List.set_cons_succ]
  refine anyH_at (i := 10) (d := some 13) rfl rfl (by kernel_rfl) (by kernel_rfl) (by kernel_rfl) (fun _ _ _ h => h) (by rfl) (v := ?_) ?_ (by assumption) ?_
  rotate_left
  · (intro w hSw; (try dsimp only at hSw); go_simp <;> with_reducible rfl)
  simp only [Act.put, List.setIfInBounds_toArray, List.set_cons_zero, List.set_cons_succ]
  have hd := below_drew W0
  replace HB := hide ((hd.block _ (heapLt (unhide HB))).trans (unhide HB))
  replace HR := hide ((hd.block _ (heapLt (unhide HR))).trans (unhide HR))
  replace BW := hide ((unhide BW).trans (hd.mono (unhide BW).size))
  clear hd
  refine wpAnyH_ready (rs := [2, 3]) (by kernel_rfl) (by simp) ?_
  refine AllReadyH.cons rfl (fun K hK => ?_) (AllReadyH.cons rfl (fun K hK => ?_) AllReadyH.nil)
  · go_simp
    refine (l12Copy_any _ _ db ((unhide H0).1.later (unhide BW)) (unhide HLN).1).mono ?_
    rintro e w1 ⟨u1, els1, rfl, hP1, hm1, b⟩
    obtain ⟨ia, ic, hu⟩ := own_formS hP1.own
    subst hu
    have P1 := hide (hP1.base (unhide BW).size)
    have HM1 := hide hm1
    clear hP1 hm1
    replace HB := hide ((b.block _ (heapLt (unhide HB))).trans (unhide HB))
    replace HR := hide ((b.block _ (heapLt (unhide HR))).trans (unhide HR))
    replace BW := hide ((unhide BW).trans (b.mono (unhide BW).size))
    replace P1 := hide (unhide P1)
    clear b
    go_wp2_with fail
    refine hK.out _ _ ?_ (fun hHeldN => ?_)
    · exact ⟨cellOf (unhide HB) 0, cellOf (unhide HB) 1, cellOf (unhide HB) 2, cellOf (unhide HB) 3⟩
    clear hHeld
    have hHeld := hHeldN
    clear hHeldN
    clear hK K
    try simp only [Act.put, List.setIfInBounds_toArray, List.set_cons_zero, List.set_cons_succ]
    refine wpAnyH_ready (rs := [3]) (by kernel_rfl) (by simp) ?_
    refine AllReadyH.cons rfl (fun K hK => ?_) AllReadyH.nil
    go_simp
    have HX : Hid ((w1.alloc (.cells #[] 3)).heap[w1.heap.size]? = _) := heap_alloc_new w1 (.cells #[] 3)
    have LX : Hid (w.heap.size ≤ w1.heap.size) := (unhide BW).size
    have bX := below1 w1 (.cells #[] 3)
    replace HB := hide ((bX.block _ (heapLt (unhide HB))).trans (unhide HB))
    replace HR := hide ((bX.block _ (heapLt (unhide HR))).trans (unhide HR))
    replace P1 := hide ((unhide P1).later bX)
    replace BW := hide ((unhide BW).trans (bX.mono (unhide BW).size))
    clear bX
    refine hK.out _ _ ?_ (fun hHeldN => ?_)
    · exact ⟨cellOf (unhide HB) 0, cellOf (unhide HB) 1, cellOf (unhide HB) 2, cellOf (unhide HB) 3⟩
    clear hHeld
    have hHeld := hHeldN
    clear hHeldN
    clear hK K
    try simp only [Act.put, List.setIfInBounds_toArray, List.set_cons_zero, List.set_cons_succ]
    generalize hXb : w1.heap.size = Xb at *
    clear hXb
    generalize w1.alloc _ = w2 at *
    refine wpAnyH_ready (rs := [6]) (by kernel_rfl) (by simp) ?_
    refine AllReadyH.cons rfl (fun K hK => ?_) AllReadyH.nil
    rw [if_pos (by rfl)]
    have HE : Hid (w2.ownsRow w.heap.size 3 1 (.slice (some ⟨Xb, 0, none⟩) 0 0) 0 []) := empty_own (unhide HX) (unhide LX)
    refine wp_append_all _ _ _ _ rfl w.heap.size 3 i0 _ 1 8 Tryz.underlying23 hI0 hz0 hz1 hz2 rfl (by omega) (.slice (some ⟨Xb, 0, none⟩) 0 0) rfl (unhide HE) af fl.length cf (fl.map (Value.int .i64)) rfl (by simp) (ins_news ((unhide H0).2.1.later (unhide BW))) (int_cells fl) (by have := (unhide HLN).2.2; unfold maxLen; omega) (by have := (unhide HLN).2.2; omega) (unhide BW).size ?_
    intro uf w3 hown hgrow
    obtain ⟨fa, fc, hu⟩ := own_formS hown
    subst hu
    have PF : Hid (OwI w.heap.size w3 (.slice fa fl.length fc) fl) := hown
    replace P1 := hide ((unhide P1).keep (fun g hg => hgrow.block g ((unhide P1).lt g hg).2 (fun e => by have e' : g = Xb := Option.some.inj e; subst e'; exact (unhide P1).notInt (unhide HX) hg)))
    replace HB := hide ((grown_other (unhide HE) hgrow (unhide HB) (by decide)).trans (unhide HB))
    replace HR := hide ((grown_other (unhide HE) hgrow (unhide HR) (by decide)).trans (unhide HR))
    replace BW := hide (grown_below (unhide HE) hgrow (unhide BW) (unhide BW).size)
    clear hown hgrow HE HX LX
    change K (Act.put _ (some 9) _) _
    refine hK.out _ _ ?_ (fun hHeldN => ?_)
    · exact ⟨cellOf (unhide HB) 0, cellOf (unhide HB) 1, cellOf (unhide HB) 2, cellOf (unhide HB) 3⟩
    clear hHeld
    have hHeld := hHeldN
    clear hHeldN
    clear hK K
    try simp only [Act.put, List.setIfInBounds_toArray, List.set_cons_zero, List.set_cons_succ]
    refine wpAnyH_ready (rs := [11]) (by kernel_rfl) (by simp) ?_
    refine AllReadyH.cons rfl (fun K hK => ?_) AllReadyH.nil
    go_simp
    refine (l12Copy_any _ _ jr ((unhide H0).2.2.later (unhide BW)) (unhide HLN).2.1).mono ?_
    rintro e w4 ⟨u2, els2, rfl, hP2, hm2, b⟩
    obtain ⟨ja, jc, hu⟩ := own_formS hP2.own
    subst hu
    have hfar : Hid (∀ g, blkP (.slice ia els1.length ic) els1 g → ¬ blkP (.slice ja els2.length jc) els2 g) := fun g hg hg2 => by
      have := ((unhide P1).lt g hg).2
      have := (hP2.lt g hg2).1
      omega
    have P2 := hide (hP2.base (unhide BW).size)
    have HM2 := hide hm2
    clear hP2 hm2
    replace HB := hide ((b.block _ (heapLt (unhide HB))).trans (unhide HB))
    replace HR := hide ((b.block _ (heapLt (unhide HR))).trans (unhide HR))
    replace P1 := hide ((unhide P1).later b)
    replace BW := hide ((unhide BW).trans (b.mono (unhide BW).size))
    replace PF := hide (own_later (unhide PF) b)
    clear b
    go_wp2_with fail
    refine hK.out _ _ ?_ (fun hHeldN => ?_)
    · exact ⟨cellOf (unhide HB) 0, cellOf (unhide HB) 1, cellOf (unhide HB) 2, cellOf (unhide HB) 3⟩
    clear hHeld
    have hHeld := hHeldN
    clear hHeldN
    clear hK K
    try simp only [Act.put, List.setIfInBounds_toArray, List.set_cons_zero, List.set_cons_succ]
    refine anyH_at (i := 12) (d := some 15) rfl rfl (by kernel_rfl) (by kernel_rfl) (by kernel_rfl) (fun _ _ _ h => h) (by rfl) (v := ?_) ?_ (by assumption) ?_
    rotate_left
    · (intro w hSw; (try dsimp only at hSw); go_simp <;> with_reducible rfl)
    simp only [Act.put, List.setIfInBounds_toArray, List.set_cons_zero, List.set_cons_succ]
    have HA : Hid (DAns w.heap.size w4 (.slice ia els1.length ic) (.slice fa fl.length fc) (.slice ja els2.length jc) els1 fl els2) := ⟨unhide P1, unhide PF, unhide P2, unhide hfar⟩
    clear P1 PF P2 hfar
    obtain ⟨⟨x0, y0⟩, ⟨x1, y1⟩, ⟨x2, y2⟩, x3, y3⟩ : (_ ∧ _) ∧ (_ ∧ _) ∧ (_ ∧ _) ∧ _ ∧ _ := ⟨⟨cellOf (unhide HR) 0, frozenOf (unhide HR) 0⟩, ⟨cellOf (unhide HR) 1, frozenOf (unhide HR) 1⟩, ⟨cellOf (unhide HR) 2, frozenOf (unhide HR) 2⟩, cellOf (unhide HR) 3, frozenOf (unhide HR) 3⟩
    refine wpAnyH_ready (rs := [13]) (by kernel_rfl) (by simp) ?_
    refine AllReadyH.cons rfl (fun K hK => ?_) AllReadyH.nil
    go_simp
    clear x0 x1 x2 x3 y0 y1 y2 y3
    obtain ⟨⟨q0, q1, q2, q3⟩, hans, hbel, hfar⟩ := endD (w := w) (unhide HR) (by omega) (unhide BW) (has := has) (unhide HA) rfl
    refine hK.out _ _ ?_ (fun hHeldN => ?_)
    · have h' := (hfar w.heap.size (by omega)).trans (unhide HB)
      exact ⟨cellOf h' 0, cellOf h' 1, cellOf h' 2, cellOf h' 3⟩
    clear hHeld
    have hHeld := hHeldN
    clear hHeldN
    clear hK K
    try simp only [Act.put, List.setIfInBounds_toArray, List.set_cons_zero, List.set_cons_succ]
    refine wpAnyH_done (by kernel_rfl) ?_ _
    clear hHeld HB HR HA
    go_wp2
    exact bodyPost_ret (v := .agg #[.slice ia els1.length ic, .slice fa fl.length fc, .bool has, .slice ja els2.length jc]) (by simp [results, Tryz.results28, go_sem, q0, q1, q2, q3]) rfl ⟨_, _, _, els1, els2, rfl, hans, unhide HM1, unhide HM2, hbel⟩
  · go_simp
    have HX : Hid ((W0.drew.alloc (.cells #[] 3)).heap[W0.heap.size]? = _) := heap_alloc_new W0.drew (.cells #[] 3)
    have LX : Hid (w.heap.size ≤ W0.heap.size) := (unhide BW).size
    have bX := below1 W0.drew (.cells #[] 3)
    replace HB := hide ((bX.block _ (heapLt (unhide HB))).trans (unhide HB))
    replace HR := hide ((bX.block _ (heapLt (unhide HR))).trans (unhide HR))
    replace BW := hide ((unhide BW).trans (bX.mono (unhide BW).size))
    clear bX
    refine hK.out _ _ ?_ (fun hHeldN => ?_)
    · exact ⟨cellOf (unhide HB) 0, cellOf (unhide HB) 1, cellOf (unhide HB) 2, cellOf (unhide HB) 3⟩
    clear hHeld
    have hHeld := hHeldN
    clear hHeldN
    clear hK K
    try simp only [Act.put, List.setIfInBounds_toArray, List.set_cons_zero, List.set_cons_succ]
    refine wpAnyH_ready (rs := [2]) (by kernel_rfl) (by simp) ?_
    refine AllReadyH.cons rfl (fun K hK => ?_) AllReadyH.nil
    go_simp
    refine (l12Copy_any _ _ db ((unhide H0).1.later (unhide BW)) (unhide HLN).1).mono ?_
    rintro e w2 ⟨u1, els1, rfl, hP1, hm1, b⟩
    obtain ⟨ia, ic, hu⟩ := own_formS hP1.own
    subst hu
    have P1 := hide (hP1.base (unhide BW).size)
    have HM1 := hide hm1
    clear hP1 hm1
    replace HB := hide ((b.block _ (heapLt (unhide HB))).trans (unhide HB))
    replace HR := hide ((b.block _ (heapLt (unhide HR))).trans (unhide HR))
    replace HX := hide ((b.block _ (heapLt (unhide HX))).trans (unhide HX))
    replace BW := hide ((unhide BW).trans (b.mono (unhide BW).size))
    clear b
    generalize hXb : W0.heap.size = Xb at *
    clear hXb
    go_wp2_with fail
    refine hK.out _ _ ?_ (fun hHeldN => ?_)
    · exact ⟨cellOf (unhide HB) 0, cellOf (unhide HB) 1, cellOf (unhide HB) 2, cellOf (unhide HB) 3⟩
    clear hHeld
    have hHeld := hHeldN
    clear hHeldN
    clear hK K
    try simp only [Act.put, List.setIfInBounds_toArray, List.set_cons_zero, List.set_cons_succ]
    refine wpAnyH_ready (rs := [6]) (by kernel_rfl) (by simp) ?_
    refine AllReadyH.cons rfl (fun K hK => ?_) AllReadyH.nil
    rw [if_pos (by rfl)]
    have HE : Hid (w2.ownsRow w.heap.size 3 1 (.slice (some ⟨Xb, 0, none⟩) 0 0) 0 []) := empty_own (unhide HX) (unhide LX)
    refine wp_append_all _ _ _ _ rfl w.heap.size 3 i0 _ 1 8 Tryz.underlying23 hI0 hz0 hz1 hz2 rfl (by omega) (.slice (some ⟨Xb, 0, none⟩) 0 0) rfl (unhide HE) af fl.length cf (fl.map (Value.int .i64)) rfl (by simp) (ins_news ((unhide H0).2.1.later (unhide BW))) (int_cells fl) (by have := (unhide HLN).2.2; unfold maxLen; omega) (by have := (unhide HLN).2.2; omega) (unhide BW).size ?_
    intro uf w3 hown hgrow
    obtain ⟨fa, fc, hu⟩ := own_formS hown
    subst hu
    have PF : Hid (OwI w.heap.size w3 (.slice fa fl.length fc) fl) := hown
    replace P1 := hide ((unhide P1).keep (fun g hg => hgrow.block g ((unhide P1).lt g hg).2 (fun e => by have e' : g = Xb := Option.some.inj e; subst e'; exact (unhide P1).notInt (unhide HX) hg)))
    replace HB := hide ((grown_other (unhide HE) hgrow (unhide HB) (by decide)).trans (unhide HB))
    replace HR := hide ((grown_other (unhide HE) hgrow (unhide HR) (by decide)).trans (unhide HR))
    replace BW := hide (grown_below (unhide HE) hgrow (unhide BW) (unhide BW).size)
    clear hown hgrow HE HX LX
    change K (Act.put _ (some 9) _) _
    refine hK.out _ _ ?_ (fun hHeldN => ?_)
    · exact ⟨cellOf (unhide HB) 0, cellOf (unhide HB) 1, cellOf (unhide HB) 2, cellOf (unhide HB) 3⟩
    clear hHeld
    have hHeld := hHeldN
    clear hHeldN
    clear hK K
    try simp only [Act.put, List.setIfInBounds_toArray, List.set_cons_zero, List.set_cons_succ]
    refine wpAnyH_ready (rs := [11]) (by kernel_rfl) (by simp) ?_
    refine AllReadyH.cons rfl (fun K hK => ?_) AllReadyH.nil
    go_simp
    refine (l12Copy_any _ _ jr ((unhide H0).2.2.later (unhide BW)) (unhide HLN).2.1).mono ?_
    rintro e w4 ⟨u2, els2, rfl, hP2, hm2, b⟩
    obtain ⟨ja, jc, hu⟩ := own_formS hP2.own
    subst hu
    have hfar : Hid (∀ g, blkP (.slice ia els1.length ic) els1 g → ¬ blkP (.slice ja els2.length jc) els2 g) := fun g hg hg2 => by
      have := ((unhide P1).lt g hg).2
      have := (hP2.lt g hg2).1
      omega
    have P2 := hide (hP2.base (unhide BW).size)
    have HM2 := hide hm2
    clear hP2 hm2
    replace HB := hide ((b.block _ (heapLt (unhide HB))).trans (unhide HB))
    replace HR := hide ((b.block _ (heapLt (unhide HR))).trans (unhide HR))
    replace P1 := hide ((unhide P1).later b)
    replace BW := hide ((unhide BW).trans (b.mono (unhide BW).size))
    replace PF := hide (own_later (unhide PF) b)
    clear b
    go_wp2_with fail
    refine hK.out _ _ ?_ (fun hHeldN => ?_)
    · exact ⟨cellOf (unhide HB) 0, cellOf (unhide HB) 1, cellOf (unhide HB) 2, cellOf (unhide HB) 3⟩
    clear hHeld
    have hHeld := hHeldN
    clear hHeldN
    clear hK K
    try simp only [Act.put, List.setIfInBounds_toArray, List.set_cons_zero, List.set_cons_succ]
    refine anyH_at (i := 12) (d := some 15) rfl rfl (by kernel_rfl) (by kernel_rfl) (by kernel_rfl) (fun _ _ _ h => h) (by rfl) (v := ?_) ?_ (by assumption) ?_
    rotate_left
    · (intro w hSw; (try dsimp only at hSw); go_simp <;> with_reducible rfl)
    simp only [Act.put, List.setIfInBounds_toArray, List.set_cons_zero, List.set_cons_succ]
    have HA : Hid (DAns w.heap.size w4 (.slice ia els1.length ic) (.slice fa fl.length fc) (.slice ja els2.length jc) els1 fl els2) := ⟨unhide P1, unhide PF, unhide P2, unhide hfar⟩
    clear P1 PF P2 hfar
    obtain ⟨⟨x0, y0⟩, ⟨x1, y1⟩, ⟨x2, y2⟩, x3, y3⟩ : (_ ∧ _) ∧ (_ ∧ _) ∧ (_ ∧ _) ∧ _ ∧ _ := ⟨⟨cellOf (unhide HR) 0, frozenOf (unhide HR) 0⟩, ⟨cellOf (unhide HR) 1, frozenOf (unhide HR) 1⟩, ⟨cellOf (unhide HR) 2, frozenOf (unhide HR) 2⟩, cellOf (unhide HR) 3, frozenOf (unhide HR) 3⟩
    refine wpAnyH_ready (rs := [13]) (by kernel_rfl) (by simp) ?_
    refine AllReadyH.cons rfl (fun K hK => ?_) AllReadyH.nil
    go_simp
    clear x0 x1 x2 x3 y0 y1 y2 y3
    obtain ⟨⟨q0, q1, q2, q3⟩, hans, hbel, hfar⟩ := endD (w := w) (unhide HR) (by omega) (unhide BW) (has := has) (unhide HA) rfl
    refine hK.out _ _ ?_ (fun hHeldN => ?_)
    · have h' := (hfar w.heap.size (by omega)).trans (unhide HB)
      exact ⟨cellOf h' 0, cellOf h' 1, cellOf h' 2, cellOf h' 3⟩
    clear hHeld
    have hHeld := hHeldN
    clear hHeldN
    clear hK K
    try simp only [Act.put, List.setIfInBounds_toArray, List.set_cons_zero, List.set_cons_succ]
    refine wpAnyH_done (by kernel_rfl) ?_ _
    clear hHeld HB HR HA
    go_wp2
    exact bodyPost_ret (v := .agg #[.slice ia els1.length ic, .slice fa fl.length fc, .bool has, .slice ja els2.length jc]) (by simp [results, Tryz.results28, go_sem, q0, q1, q2, q3]) rfl ⟨_, _, _, els1, els2, rfl, hans, unhide HM1, unhide HM2, hbel⟩
end Go.Proofs.YtkhanndmbpemfaaGreatDoor

/- spec.l21Step: what a step is, on the other side. -/
namespace Go.Proofs.YtkhanndmbpemfaaGreatDoor
open Go.RowKit

attribute [local go_sem ↓] Go.wp_at_zero Go.wp_at_succ

namespace Dk
theorem ok13 {s : S} (h : s.k = 1 ∨ s.k = 3) : s.ok = (decide (s.p = 0) && (decide (s.x = 0) && Ix.planOk s.ps)) := by
  unfold S.ok S.own
  rw [if_pos h]
  by_cases hp : s.p = 0
  · by_cases hx : s.x = 0
    · rw [decide_eq_true hp, decide_eq_true hx, hp, hx]; rfl
    · rw [decide_eq_false hx]; cases decide (s.p = 0) <;> rfl
  · rw [decide_eq_false hp]; rfl
theorem ok2 {s : S} (h : s.k = 2) : s.ok = (Pk.inB s.p 0 5 && (Pk.inB s.x (-1) 9 && decide (s.ps.length = 0))) := by
  unfold S.ok S.own
  rw [if_neg (by omega), if_pos h]
  by_cases hl : s.ps.length = 0
  · have e : s.ps = [] := List.length_eq_zero_iff.1 hl
    rw [decide_eq_true hl, e]
    have : Ix.planOk [] = true := by decide +kernel
    rw [this]; rfl
  · rw [decide_eq_false hl]
    cases Pk.inB s.p 0 5 <;> cases Pk.inB s.x (-1) 9 <;> rfl
theorem ok4 {s : S} (h : s.k = 4) : s.ok = (decide (s.p = 0) && (decide (s.x = 0) && decide (s.ps.length = 0))) := by
  unfold S.ok S.own
  rw [if_neg (by omega), if_neg (by omega), if_pos h]
  by_cases hp : s.p = 0
  · by_cases hx : s.x = 0
    · by_cases hl : s.ps.length = 0
      · have e : s.ps = [] := List.length_eq_zero_iff.1 hl
        rw [decide_eq_true hp, decide_eq_true hx, decide_eq_true hl, hp, hx, e]
        decide +kernel
      · rw [decide_eq_false hl]; cases decide (s.p = 0) <;> cases decide (s.x = 0) <;> rfl
    · rw [decide_eq_false hx]; cases decide (s.p = 0) <;> rfl
  · rw [decide_eq_false hp]; rfl
theorem okN {s : S} (h1 : s.k ≠ 1) (h2 : s.k ≠ 2) (h3 : s.k ≠ 3) (h4 : s.k ≠ 4) : s.ok = false := by
  unfold S.ok S.own
  rw [if_neg (by omega), if_neg h2, if_neg h4]
  rfl
end Dk

set_option linter.unusedSimpArgs false in
set_option maxHeartbeats 4000000 in
set_option maxRecDepth 100000 in
theorem specStep_any {N : Nat → Prop} (w : World) (s : Dk.S) (v : Value) (h : Pks N w v s.ps) :
    Calls Tryz.prog 25 #[stV s.k s.p s.x v] w fun e w' => e = .returned (.bool s.ok) ∧ Below w.heap.size w w' := by
  obtain ⟨a, c, hv⟩ := h.slice
  have H13 := hide (show s.k = 1 ∨ s.k = 3 → s.ok = (decide (s.p = 0) && (decide (s.x = 0) && Ix.planOk s.ps)) from Dk.ok13)
  have H2 := hide (show s.k = 2 → s.ok = (Pk.inB s.p 0 5 && (Pk.inB s.x (-1) 9 && decide (s.ps.length = 0))) from Dk.ok2)
  have H4 := hide (show s.k = 4 → s.ok = (decide (s.p = 0) && (decide (s.x = 0) && decide (s.ps.length = 0))) from Dk.ok4)
  have HN := hide (show s.k ≠ 1 → s.k ≠ 2 → s.k ≠ 3 → s.k ≠ 4 → s.ok = false from Dk.okN)
  generalize s.ok = OK at *
  obtain ⟨k, p, x, ps⟩ := s
  dsimp only [stV] at *
  subst hv
  have b0 := below1 w (.cells #[.int .i64 k, .int .i64 p, .int .i64 x, .slice a ps.length c] 47)
  have HB := hide (heap_alloc_new w (.cells #[.int .i64 k, .int .i64 p, .int .i64 x, .slice a ps.length c] 47))
  have BW := hide b0
  have HP := hide (h.later b0)
  have hp := zeroI p
  have hx := zeroI x
  have hl := zeroL ps
  clear b0 h
  go_enter Tryz.func25, Tryz.ntmps25
  by_cases h1 : k = 1
  · subst h1
    have HO := hide (unhide H13 (.inl rfl))
    clear H13 H2 H4 HN
    generalize decide (p = 0) = bp at *
    generalize decide (x = 0) = bx at *
    cases bp
    · have HE : Hid (OK = false) := by show _ = _; rw [unhide HO]; rfl
      go_wp2
      go_ret
      exact ⟨ret_bool (unhide HE).symm, unhide BW⟩
    cases bx
    · have HE : Hid (OK = false) := by show _ = _; rw [unhide HO]; rfl
      go_wp2
      go_ret
      exact ⟨ret_bool (unhide HE).symm, unhide BW⟩
    have HE : Hid (OK = Ix.planOk ps) := by show _ = _; rw [unhide HO]; rfl
    go_wp2_with fail
    refine (specPlanOk_any _ _ ps (unhide HP)).mono ?_
    generalize World.alloc _ _ = W0 at *
    generalize Ix.planOk ps = q at *
    rintro e w1 ⟨rfl, b⟩
    replace BW := hide ((unhide BW).trans (b.mono (unhide BW).size))
    clear b
    cases q <;> (go_wp2; go_ret; exact ⟨ret_bool (unhide HE).symm, unhide BW⟩)
  by_cases h3 : k = 3
  · subst h3
    have HO := hide (unhide H13 (.inr rfl))
    clear H13 H2 H4 HN h1
    generalize decide (p = 0) = bp at *
    generalize decide (x = 0) = bx at *
    cases bp
    · have HE : Hid (OK = false) := by show _ = _; rw [unhide HO]; rfl
      go_wp2
      go_ret
      exact ⟨ret_bool (unhide HE).symm, unhide BW⟩
    cases bx
    · have HE : Hid (OK = false) := by show _ = _; rw [unhide HO]; rfl
      go_wp2
      go_ret
      exact ⟨ret_bool (unhide HE).symm, unhide BW⟩
    have HE : Hid (OK = Ix.planOk ps) := by show _ = _; rw [unhide HO]; rfl
    go_wp2_with fail
    refine (specPlanOk_any _ _ ps (unhide HP)).mono ?_
    generalize World.alloc _ _ = W0 at *
    generalize Ix.planOk ps = q at *
    rintro e w1 ⟨rfl, b⟩
    replace BW := hide ((unhide BW).trans (b.mono (unhide BW).size))
    clear b
    cases q <;> (go_wp2; go_ret; exact ⟨ret_bool (unhide HE).symm, unhide BW⟩)
  by_cases h2 : k = 2
  · subst h2
    have HO := hide (unhide H2 rfl)
    clear H13 H2 H4 HN h1 h3
    have CP := hide (fun (W : World) => in_any p 0 5 W)
    have CX := hide (fun (W : World) => in_any x (-1) 9 W)
    generalize Pk.inB p 0 5 = bp at *
    generalize Pk.inB x (-1) 9 = bx at *
    generalize decide (ps.length = 0) = bl at *
    go_wp2_with fail
    refine (unhide CP _).mono ?_
    generalize World.alloc _ _ = W0 at *
    rintro e w1 ⟨rfl, rfl⟩
    cases bp
    · have HE : Hid (OK = false) := by show _ = _; rw [unhide HO]; rfl
      go_wp2
      go_ret
      exact ⟨ret_bool (unhide HE).symm, unhide BW⟩
    obtain ⟨x0, x1, x2, x3⟩ : _ ∧ _ ∧ _ ∧ _ := ⟨cellOf (unhide HB) 0, cellOf (unhide HB) 1, cellOf (unhide HB) 2, cellOf (unhide HB) 3⟩
    go_wp2_with fail
    refine (unhide CX _).mono ?_
    rintro e w2 ⟨rfl, rfl⟩
    cases bx
    · have HE : Hid (OK = false) := by show _ = _; rw [unhide HO]; rfl
      go_wp2
      go_ret
      exact ⟨ret_bool (unhide HE).symm, unhide BW⟩
    cases bl <;> (go_wp2; go_ret; exact ⟨ret_bool (unhide HO).symm, unhide BW⟩)
  by_cases h4 : k = 4
  · subst h4
    have HO := hide (unhide H4 rfl)
    clear H13 H2 H4 HN h1 h3 h2
    generalize decide (p = 0) = bp at *
    generalize decide (x = 0) = bx at *
    generalize decide (ps.length = 0) = bl at *
    cases bp <;> cases bx <;> cases bl <;> (go_wp2; go_ret; exact ⟨ret_bool (unhide HO).symm, unhide BW⟩)
  have HO := hide (unhide HN h1 h2 h3 h4)
  have e1 : (k == 1) = false := by simpa using h1
  have e2 : (k == 2) = false := by simpa using h2
  have e3 : (k == 3) = false := by simpa using h3
  have e4 : (k == 4) = false := by simpa using h4
  clear H13 H2 H4 HN
  go_wp2
  go_ret
  exact ⟨ret_bool (unhide HO).symm, unhide BW⟩
end Go.Proofs.YtkhanndmbpemfaaGreatDoor
