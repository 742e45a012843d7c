import Derived.Test.YtkhanndmbpemfaaGreatDoorBehindW
import Derived.Test.YtkhanndmbpemfaaGreatDoorMix15
/- impl.behindStep with both tables, impl.DiskDo and impl.DiskTear, for every disk and step that can be read. -/
namespace Go.Proofs.YtkhanndmbpemfaaGreatDoor
open Go.RowKit Go.Maps

attribute [local go_sem ↓] Go.wp_at_zero Go.wp_at_succ

/-- A disk that is answered, its rows its own, and whether. -/
def DkAns (B : Nat) (w : World) (a : Dk.D × Bool) (u : Value) : Prop := ∃ v1 vf v2 e1 e2, u = .tuple #[dkV v1 vf a.1.has v2, .bool a.2] ∧ DAns B w v1 vf v2 e1 a.1.fl e2 ∧ e1.map (·.1) = a.1.db ∧ e2.map (·.1) = a.1.jr

/-- The store into the answer's box, and what is answered. -/
theorem endB {w w6 : World} {R B : Nat} {f1 ff f2 : Option Addr} {g1 gf g2 : Nat} {has : Bool} {e1 e2 : List El} {fl : List Int} {AA d' : Dk.D × Bool} {db jr : List Ix.Pg} {r0 r1 r2 r3 : Value}
    (hR : w6.heap[R]? = some (.cells #[r0, r1, r2, r3] 31 (0, 0))) (lR : w.heap.size ≤ R) (hb : Below w.heap.size w w6) (hRB : R < B) (hwB : w.heap.size ≤ B)
    (hA : DAns B w6 (.slice f1 e1.length g1) (.slice ff fl.length gf) (.slice f2 e2.length g2) e1 fl e2) (he : AA = d') (hm1 : e1.map (·.1) = db) (hm2 : e2.map (·.1) = jr) (hd : d' = (⟨db, fl, has, jr⟩, true)) {w' : World}
    (hw : w' = (((w6.setCell ⟨R, 0, none⟩ (.slice f1 e1.length g1)).setCell ⟨R, 1, none⟩ (.slice ff fl.length gf)).setCell ⟨R, 2, none⟩ (.bool has)).setCell ⟨R, 3, none⟩ (.slice f2 e2.length g2)) :
    (w'.cell? ⟨R, 0, none⟩ = some (.slice f1 e1.length g1) ∧ w'.cell? ⟨R, 1, none⟩ = some (.slice ff fl.length gf) ∧ w'.cell? ⟨R, 2, none⟩ = some (.bool has) ∧ w'.cell? ⟨R, 3, none⟩ = some (.slice f2 e2.length g2)) ∧ DkAns w.heap.size w' AA (.tuple #[.agg #[.slice f1 e1.length g1, .slice ff fl.length gf, .bool has, .slice f2 e2.length g2], .bool true]) ∧ Below w.heap.size w w' := by
  obtain ⟨hq, hbel, hfar⟩ := fin4 (W := w) hR lR hb hw
  refine ⟨hq, ?_, hbel⟩
  rw [he, hd]
  refine ⟨_, _, _, e1, e2, rfl, DAns.base (B := B) ⟨hA.p1.keep (fun g hg => hfar g (by have := (hA.p1.lt g hg).1; omega)), own_keepS hA.pf (fun g _ e hle _ => hfar g (by omega)), hA.p2.keep (fun g hg => hfar g (by have := (hA.p2.lt g hg).1; omega)), hA.far⟩ hwB, hm1, hm2⟩

set_option linter.unusedSimpArgs false in
set_option maxHeartbeats 8000000 in
set_option maxRecDepth 100000 in
theorem doStep_any {N M L : Nat → Prop} (w : World) (d : Dk.D) (s : Dk.S) (v1 vf v2 vs : Value) (h1 : Pks N w v1 d.db) (r1 : ∀ a c, v1 = .slice a d.db.length c → d.db.length ≤ c) (hf : Ins w vf d.fl) (h2 : Pks M w v2 d.jr) (r2 : ∀ a c, v2 = .slice a d.jr.length c → d.jr.length ≤ c) (hs : Pks L w vs s.ps) (rs : ∀ a c, vs = .slice a s.ps.length c → s.ps.length ≤ c) :
    Calls Tryz.prog 51 #[dkV v1 vf d.has v2, stV s.k s.p s.x vs, .func (.func 34) #[] #[]] w fun e w' => ∃ u, e = .returned u ∧ DkAns w.heap.size w' (Dk.doA d s) u ∧ Below w.heap.size w w' := by
  have CO := hide (fun (W : World) h1 hf h2 => implDiskOk_any (N := N) (M := M) W d v1 vf v2 h1 r1 hf h2 r2)
  have CS := hide (fun (W : World) h => implStepOk_any (N := L) W s vs h rs)
  have GD := hide (fun h => Dk.ok_get (d := d) h)
  have GS := hide (fun h => Dk.S.ok_get (s := s) h)
  have HE0 := hide (show d.ok = false → Dk.doA d s = (Dk.D.none, false) from fun h => by unfold Dk.doA; rw [if_neg (by rw [h]; simp)])
  have HE1 := hide (show s.ok = false → Dk.doA d s = (Dk.D.none, false) from fun h => by unfold Dk.doA; rw [if_neg (by rw [h]; simp)])
  have HE2 := hide (show d.ok = true → s.ok = true → Dk.doA d s = (d.step s, true) from fun h h' => by unfold Dk.doA; rw [if_pos ⟨h, h'⟩])
  generalize Dk.doA d s = AA at *
  generalize d.ok = dok at *
  generalize s.ok = sok at *
  obtain ⟨db, fl, has, jr⟩ := d
  obtain ⟨k, p, x, ps⟩ := s
  dsimp only [dkV, stV] at *
  obtain ⟨a1, c1, e1⟩ := h1.slice
  obtain ⟨af, cf, ef⟩ := hf.slice
  obtain ⟨a2, c2, e2⟩ := h2.slice
  obtain ⟨sa, sc, e3⟩ := hs.slice
  subst e1 ef e2 e3
  obtain ⟨b0, k0, k1, k2, kz⟩ := three_boxesD w (.cells #[.slice a1 db.length c1, .slice af fl.length cf, .bool has, .slice a2 jr.length c2] 31) (.cells #[.int .i64 k, .int .i64 p, .int .i64 x, .slice sa ps.length sc] 47) (.cells #[.slice none 0 0, .slice none 0 0, .bool false, .slice none 0 0] 31)
  have HD := hide k0
  have HT := hide k1
  have HR := hide k2
  have BW := hide b0
  have H0 := hide (And.intro h1 (And.intro hf (And.intro h2 hs)))
  clear h1 hf h2 hs b0 k0 k1 k2 kz r1 r2 rs
  go_enter Tryz.func51, Tryz.ntmps51
  go_wp2_with fail
  generalize World.alloc _ _ = W0 at *
  refine (unhide CO _ ((unhide H0).1.later (unhide BW)) ((unhide H0).2.1.later (unhide BW)) ((unhide H0).2.2.1.later (unhide BW))).mono ?_
  rintro e w1 ⟨rfl, b⟩
  replace HD := hide ((b.block _ (heapLt (unhide HD))).trans (unhide HD))
  replace HT := hide ((b.block _ (heapLt (unhide HT))).trans (unhide HT))
  replace HR := hide ((b.block _ (heapLt (unhide HR))).trans (unhide HR))
  replace BW := hide ((unhide BW).trans (b.mono (unhide BW).size))
  clear b
  clear CO
  cases dok
  · have HE := hide (unhide HE0 rfl)
    obtain ⟨⟨x0, y0⟩, ⟨x1, y1⟩, ⟨x2, y2⟩, x3, y3⟩ : (_ ∧ _) ∧ (_ ∧ _) ∧ (_ ∧ _) ∧ _ ∧ _ := ⟨⟨cellOf (unhide HR) 0, frozenOf (unhide HR) 0⟩, ⟨cellOf (unhide HR) 1, frozenOf (unhide HR) 1⟩, ⟨cellOf (unhide HR) 2, frozenOf (unhide HR) 2⟩, cellOf (unhide HR) 3, frozenOf (unhide HR) 3⟩
    clear CS HE0 HE1 HE2
    go_wp2
    obtain ⟨⟨q0, q1, q2, q3⟩, hbel, hfar⟩ := fin4 (a := .slice none 0 0) (b := .slice none 0 0) (c := .bool false) (d := .slice none 0 0) (W := w) (unhide HR) (by omega) (unhide BW) rfl
    exact bodyPost_ret (v := .tuple #[.agg #[.slice none 0 0, .slice none 0 0, .bool false, .slice none 0 0], .bool false]) (by simp [results, Tryz.results51, go_sem, q0, q1, q2, q3]) rfl ⟨_, rfl, by rw [unhide HE]; exact ⟨_, _, _, [], [], rfl, ⟨PAns.nil _ _, World.ownsRow_nil _ _ _ _, PAns.nil _ _, fun g hg => by rcases hg with hg | ⟨e, he, _⟩; cases hg; cases he⟩, rfl, rfl⟩, hbel⟩
  obtain ⟨x0, x1, x2, x3⟩ : _ ∧ _ ∧ _ ∧ _ := ⟨cellOf (unhide HT) 0, cellOf (unhide HT) 1, cellOf (unhide HT) 2, cellOf (unhide HT) 3⟩
  go_wp2_with fail
  refine (unhide CS _ ((unhide H0).2.2.2.later (unhide BW))).mono ?_
  rintro e w2 ⟨rfl, b⟩
  replace HD := hide ((b.block _ (heapLt (unhide HD))).trans (unhide HD))
  replace HT := hide ((b.block _ (heapLt (unhide HT))).trans (unhide HT))
  replace HR := hide ((b.block _ (heapLt (unhide HR))).trans (unhide HR))
  replace BW := hide ((unhide BW).trans (b.mono (unhide BW).size))
  clear b
  clear x0 x1 x2 x3
  cases sok
  · have HE := hide (unhide HE1 rfl)
    obtain ⟨⟨x0, y0⟩, ⟨x1, y1⟩, ⟨x2, y2⟩, x3, y3⟩ : (_ ∧ _) ∧ (_ ∧ _) ∧ (_ ∧ _) ∧ _ ∧ _ := ⟨⟨cellOf (unhide HR) 0, frozenOf (unhide HR) 0⟩, ⟨cellOf (unhide HR) 1, frozenOf (unhide HR) 1⟩, ⟨cellOf (unhide HR) 2, frozenOf (unhide HR) 2⟩, cellOf (unhide HR) 3, frozenOf (unhide HR) 3⟩
    clear CS HE0 HE1 HE2
    go_wp2
    obtain ⟨⟨q0, q1, q2, q3⟩, hbel, hfar⟩ := fin4 (a := .slice none 0 0) (b := .slice none 0 0) (c := .bool false) (d := .slice none 0 0) (W := w) (unhide HR) (by omega) (unhide BW) rfl
    exact bodyPost_ret (v := .tuple #[.agg #[.slice none 0 0, .slice none 0 0, .bool false, .slice none 0 0], .bool false]) (by simp [results, Tryz.results51, go_sem, q0, q1, q2, q3]) rfl ⟨_, rfl, by rw [unhide HE]; exact ⟨_, _, _, [], [], rfl, ⟨PAns.nil _ _, World.ownsRow_nil _ _ _ _, PAns.nil _ _, fun g hg => by rcases hg with hg | ⟨e, he, _⟩; cases hg; cases he⟩, rfl, rfl⟩, hbel⟩
  obtain ⟨gf, g1, g2, _⟩ := unhide GD (by trivial)
  obtain ⟨hk, hp, _, g3⟩ := unhide GS (by trivial)
  have HLN := hide (And.intro (show db.length ≤ 1000 by have := Ix.pkgs_len (Ix.planOk_pkgs g1); omega) (And.intro (show jr.length ≤ 1000 by have := Ix.pkgs_len (Ix.planOk_pkgs g2); omega) (And.intro (show fl.length ≤ 1000 by have := (Dk.files_get gf).1; omega) (show ps.length ≤ 1000 by have := Ix.pkgs_len (Ix.planOk_pkgs g3); omega))))
  have HPB := hide (And.intro hp.1 (show p < (fl.length : Int) by have := (Dk.files_get gf).1; have := hp.2; omega))
  have HK := hide hk
  clear gf g1 g2 g3 hk hp GD GS CS
  obtain ⟨x0, x1, x2, x3⟩ : _ ∧ _ ∧ _ ∧ _ := ⟨cellOf (unhide HD) 0, cellOf (unhide HD) 1, cellOf (unhide HD) 2, cellOf (unhide HD) 3⟩
  go_wp2_with fail
  refine (opened_any _ ⟨db, fl, has, jr⟩ _ _ _ ((unhide H0).1.later (unhide BW)) ((unhide H0).2.1.later (unhide BW)) ((unhide H0).2.2.1.later (unhide BW)) (unhide HLN).1 (unhide HLN).2.1 (unhide HLN).2.2.1).mono ?_
  rintro e w3 ⟨O, u2, u1, uf, e1, e2, rfl, hO, hm1, hm2, b⟩
  have HL : Hid (w.heap.size + 1 + 1 < w2.heap.size ∧ w.heap.size ≤ w2.heap.size) := ⟨heapLt (unhide HR), (unhide BW).size⟩
  have HO := hide hO
  have HM1 := hide hm1
  have HM2 := hide hm2
  have HBS := hide b.size
  clear x0 x1 x2 x3 hO hm1 hm2 HD
  replace HT := hide ((b.block _ (heapLt (unhide HT))).trans (unhide HT))
  replace HR := hide ((b.block _ (heapLt (unhide HR))).trans (unhide HR))
  replace BW := hide ((unhide BW).trans (b.mono (unhide BW).size))
  clear b
  dsimp only [] at *
  go_wp2_with fail
  obtain ⟨x0, x1, x2, x3⟩ : _ ∧ _ ∧ _ ∧ _ := ⟨cellOf (unhide HT) 0, cellOf (unhide HT) 1, cellOf (unhide HT) 2, cellOf (unhide HT) 3⟩
  refine wp_region_held_drew (S := fun w' => w'.cell? ⟨w.heap.size + 1, 0, none⟩ = some (.int .i64 k) ∧ w'.cell? ⟨w.heap.size + 1, 1, none⟩ = some (.int .i64 p) ∧ w'.cell? ⟨w.heap.size + 1, 2, none⟩ = some (.int .i64 x) ∧ w'.cell? ⟨w.heap.size + 1, 3, none⟩ = some (.slice sa ps.length sc)) (by kernel_rfl) ⟨x0, x1, x2, x3⟩ (fun hHeld => ?_)
  clear x0 x1 x2 x3
  have hcf : ∀ w', (callFunc 34 #[.pointer (some ⟨O, 0, none⟩)]).run Tryz.prog w' = .ok (.enter 34 #[.pointer (some ⟨O, 0, none⟩)]) w' := by intro w'; kernel_rfl
  refine anyH_at (i := 0) (d := some 20) rfl rfl (by kernel_rfl) (by kernel_rfl) (by kernel_rfl) (fun _ _ _ h => h) (by rfl) (v := ?_) ?_ (by assumption) ?_
  rotate_left
  · (intro w hSw; (try dsimp only at hSw); go_simp <;> with_reducible rfl)
  simp only [Act.put, List.setIfInBounds_toArray, List.set_cons_zero, List.set_cons_succ]
  refine anyH_at (i := 1) (d := some 21) rfl rfl (by kernel_rfl) (by kernel_rfl) (by kernel_rfl) (fun _ _ _ h => h) (by rfl) (v := ?_) ?_ (by assumption) ?_
  rotate_left
  · (intro w hSw; (try dsimp only at hSw); go_simp <;> with_reducible rfl)
  simp only [Act.put, List.setIfInBounds_toArray, List.set_cons_zero, List.set_cons_succ]
  refine anyH_at (i := 3) (d := some 23) rfl rfl (by kernel_rfl) (by kernel_rfl) (by kernel_rfl) (fun _ _ _ h => h) (by rfl) (v := ?_) ?_ (by assumption) ?_
  rotate_left
  · (intro w hSw; (try dsimp only at hSw); go_simp <;> with_reducible rfl)
  simp only [Act.put, List.setIfInBounds_toArray, List.set_cons_zero, List.set_cons_succ]
  refine anyH_at (i := 4) (d := some 24) rfl rfl (by kernel_rfl) (by kernel_rfl) (by kernel_rfl) (fun _ _ _ h => h) (by rfl) (v := ?_) ?_ (by assumption) ?_
  rotate_left
  · (intro w hSw; (try dsimp only at hSw); go_simp <;> with_reducible rfl)
  simp only [Act.put, List.setIfInBounds_toArray, List.set_cons_zero, List.set_cons_succ]
  refine anyH_at (i := 6) (d := some 26) rfl rfl (by kernel_rfl) (by kernel_rfl) (by kernel_rfl) (fun _ _ _ h => h) (by rfl) (v := ?_) ?_ (by assumption) ?_
  rotate_left
  · (intro w hSw; (try dsimp only at hSw); go_simp <;> with_reducible rfl)
  simp only [Act.put, List.setIfInBounds_toArray, List.set_cons_zero, List.set_cons_succ]
  refine wpAnyH_ready (rs := [2]) (by kernel_rfl) (by simp) ?_
  refine AllReadyH.cons rfl (fun K hK => ?_) AllReadyH.nil
  go_simp
  have hd := below_drew w3
  replace HT := hide ((hd.block _ (heapLt (unhide HT))).trans (unhide HT))
  replace HR := hide ((hd.block _ (heapLt (unhide HR))).trans (unhide HR))
  replace BW := hide ((unhide BW).trans (hd.mono (unhide BW).size))
  replace HO := hide ((unhide HO).later hd)
  replace HBS := hide (Nat.le_trans (unhide HBS) hd.size)
  clear hd hcf
  refine (doing_any _ O).mono ?_
  rintro e w4 ⟨V, rfl, hM, ⟨V1, V2, V3, V4⟩, b⟩
  have HM := hide hM
  replace HT := hide ((b.block _ (heapLt (unhide HT))).trans (unhide HT))
  replace HR := hide ((b.block _ (heapLt (unhide HR))).trans (unhide HR))
  replace BW := hide ((unhide BW).trans (b.mono (unhide BW).size))
  replace HO := hide ((unhide HO).later b)
  replace HBS := hide (Nat.le_trans (unhide HBS) b.size)
  clear b hM
  generalize w3.drew.heap.size = mb at *
  try go_wp2_with fail
  refine hK.out _ _ ?_ (fun hHeldN => ?_)
  · exact ⟨cellOf (unhide HT) 0, cellOf (unhide HT) 1, cellOf (unhide HT) 2, cellOf (unhide HT) 3⟩
  clear hHeld
  have hHeld := hHeldN
  clear hHeldN
  clear hK K
  try simp only [Act.put, List.setIfInBounds_toArray, List.set_cons_zero, List.set_cons_succ]
  refine wpAnyH_ready (rs := [5]) (by kernel_rfl) (by simp) ?_
  refine AllReadyH.cons rfl (fun K hK => ?_) AllReadyH.nil
  rw [if_pos (by rfl)]
  have hkb : -9223372036854775808 ≤ k ∧ k ≤ 9223372036854775807 := by rcases unhide HK with rfl | rfl | rfl | rfl <;> omega
  refine wp_lookF _ _ _ _ rfl _ Tryz.underlying64 (zeroF _) mb 4 V rfl (unhide HM) k rfl hkb.1 hkb.2 ?_
  clear hkb HM
  change K (Act.put _ (some 25) _) _
  refine hK.out _ _ ?_ (fun hHeldN => ?_)
  · exact ⟨cellOf (unhide HT) 0, cellOf (unhide HT) 1, cellOf (unhide HT) 2, cellOf (unhide HT) 3⟩
  clear hHeld
  have hHeld := hHeldN
  clear hHeldN
  clear hK K
  try simp only [Act.put, List.setIfInBounds_toArray, List.set_cons_zero, List.set_cons_succ]
  rcases unhide HK with rfl | rfl | rfl | rfl
  · have HE : Hid (AA = (⟨db, fl, true, ps⟩, true)) := by show _ = _; rw [unhide HE2 (by trivial) (by trivial)]; rfl
    clear HE0 HE1 HE2
    rw [V1]
    clear V1 V2 V3 V4
    have hcm : ∀ w', (callFunc 66 #[.pointer (some ⟨O, 0, none⟩), .agg #[.int .i64 1, .int .i64 p, .int .i64 x, .slice sa ps.length sc]]).run Tryz.prog w' = .ok (.enter 66 #[.pointer (some ⟨O, 0, none⟩), .agg #[.int .i64 1, .int .i64 p, .int .i64 x, .slice sa ps.length sc]]) w' := by intro w'; kernel_rfl
    refine wpAnyH_ready (rs := [7]) (by kernel_rfl) (by simp) ?_
    refine AllReadyH.cons rfl (fun K hK => ?_) AllReadyH.nil
    go_simp
    refine (beginM_any w4 O has u2 u1 uf e1 e2 fl _ p x sa sc ps (unhide HO) (unhide HBS) ((unhide H0).2.2.2.later (unhide BW) |>.weak (fun _ _ => trivial)) (unhide HLN).2.2.2).mono ?_
    rintro e w5 ⟨vv, rfl, ⟨u2, els, hm, hO'⟩, b⟩
    replace HR := hide ((b.block _ (by have := unhide HL; omega)).trans (unhide HR))
    replace HT := hide ((b.block _ (by have := unhide HL; omega)).trans (unhide HT))
    replace BW := hide ((unhide BW).trans (b.mono (by have := unhide HL; omega)))
    have HB5 := hide (Nat.le_trans (unhide HBS) b.size)
    replace HO := hide hO'
    clear b hO' hcm HBS
    try go_wp2_with fail
    refine hK.out _ _ ?_ (fun hHeldN => ?_)
    · exact ⟨cellOf (unhide HT) 0, cellOf (unhide HT) 1, cellOf (unhide HT) 2, cellOf (unhide HT) 3⟩
    clear hHeld
    have hHeld := hHeldN
    clear hHeldN
    clear hK K
    try simp only [Act.put, List.setIfInBounds_toArray, List.set_cons_zero, List.set_cons_succ]
    refine wpAnyH_done (by kernel_rfl) ?_ _
    clear hHeld HT
    go_wp2_with fail
    refine (closed_any _ _ _ _ _ _ _ _ _ (unhide HO) (unhide HB5)).mono ?_
    rintro e w6 ⟨rfl, hA, b⟩
    obtain ⟨f1, g1, i1⟩ := own_formS hA.p1.own
    obtain ⟨ff, gf, iff'⟩ := own_formS hA.pf
    obtain ⟨f2, g2, i2⟩ := own_formS hA.p2.own
    subst i1 iff' i2
    dsimp only [dkV] at *
    replace HR := hide ((b.block _ (by have := unhide HL; omega)).trans (unhide HR))
    replace BW := hide ((unhide BW).trans (b.mono (by have := unhide HL; omega)))
    have HA := hide hA
    clear b hA HB5 HO
    obtain ⟨⟨x0, y0⟩, ⟨x1, y1⟩, ⟨x2, y2⟩, x3, y3⟩ : (_ ∧ _) ∧ (_ ∧ _) ∧ (_ ∧ _) ∧ _ ∧ _ := ⟨⟨cellOf (unhide HR) 0, frozenOf (unhide HR) 0⟩, ⟨cellOf (unhide HR) 1, frozenOf (unhide HR) 1⟩, ⟨cellOf (unhide HR) 2, frozenOf (unhide HR) 2⟩, cellOf (unhide HR) 3, frozenOf (unhide HR) 3⟩
    go_wp2
    obtain ⟨⟨q0, q1, q2, q3⟩, hans, hbel⟩ := endB (w := w) (e1 := e1) (e2 := els) (unhide HR) (by omega) (unhide BW) (unhide HL).1 (unhide HL).2 (unhide HA) (unhide HE) (unhide HM1) (hm) rfl rfl
    exact bodyPost_ret (v := .tuple #[.agg #[.slice f1 e1.length g1, .slice ff fl.length gf, .bool true, .slice f2 els.length g2], .bool true]) (by simp [results, Tryz.results51, go_sem, q0, q1, q2, q3]) rfl ⟨_, rfl, hans, hbel⟩
  · have HE : Hid (AA = (⟨db, fl.set p.toNat x, has, jr⟩, true)) := by show _ = _; rw [unhide HE2 (by trivial) (by trivial)]; rfl
    clear HE0 HE1 HE2
    rw [V2]
    clear V1 V2 V3 V4
    have hcm : ∀ w', (callFunc 67 #[.pointer (some ⟨O, 0, none⟩), .agg #[.int .i64 2, .int .i64 p, .int .i64 x, .slice sa ps.length sc]]).run Tryz.prog w' = .ok (.enter 67 #[.pointer (some ⟨O, 0, none⟩), .agg #[.int .i64 2, .int .i64 p, .int .i64 x, .slice sa ps.length sc]]) w' := by intro w'; kernel_rfl
    refine wpAnyH_ready (rs := [7]) (by kernel_rfl) (by simp) ?_
    refine AllReadyH.cons rfl (fun K hK => ?_) AllReadyH.nil
    go_simp
    refine (writeM_any w4 O has u2 u1 uf e1 e2 fl _ p x sa sc ps (unhide HO) (unhide HBS) (unhide HPB).1 (unhide HPB).2).mono ?_
    rintro e w5 ⟨vv, rfl, hO', b⟩
    replace HR := hide ((b.block _ (by have := unhide HL; omega)).trans (unhide HR))
    replace HT := hide ((b.block _ (by have := unhide HL; omega)).trans (unhide HT))
    replace BW := hide ((unhide BW).trans (b.mono (by have := unhide HL; omega)))
    have HB5 := hide (Nat.le_trans (unhide HBS) b.size)
    replace HO := hide hO'
    clear b hO' hcm HBS HPB
    generalize fl.set p.toNat x = fl2 at *
    try go_wp2_with fail
    refine hK.out _ _ ?_ (fun hHeldN => ?_)
    · exact ⟨cellOf (unhide HT) 0, cellOf (unhide HT) 1, cellOf (unhide HT) 2, cellOf (unhide HT) 3⟩
    clear hHeld
    have hHeld := hHeldN
    clear hHeldN
    clear hK K
    try simp only [Act.put, List.setIfInBounds_toArray, List.set_cons_zero, List.set_cons_succ]
    refine wpAnyH_done (by kernel_rfl) ?_ _
    clear hHeld HT
    go_wp2_with fail
    refine (closed_any _ _ _ _ _ _ _ _ _ (unhide HO) (unhide HB5)).mono ?_
    rintro e w6 ⟨rfl, hA, b⟩
    obtain ⟨f1, g1, i1⟩ := own_formS hA.p1.own
    obtain ⟨ff, gf, iff'⟩ := own_formS hA.pf
    obtain ⟨f2, g2, i2⟩ := own_formS hA.p2.own
    subst i1 iff' i2
    dsimp only [dkV] at *
    replace HR := hide ((b.block _ (by have := unhide HL; omega)).trans (unhide HR))
    replace BW := hide ((unhide BW).trans (b.mono (by have := unhide HL; omega)))
    have HA := hide hA
    clear b hA HB5 HO
    obtain ⟨⟨x0, y0⟩, ⟨x1, y1⟩, ⟨x2, y2⟩, x3, y3⟩ : (_ ∧ _) ∧ (_ ∧ _) ∧ (_ ∧ _) ∧ _ ∧ _ := ⟨⟨cellOf (unhide HR) 0, frozenOf (unhide HR) 0⟩, ⟨cellOf (unhide HR) 1, frozenOf (unhide HR) 1⟩, ⟨cellOf (unhide HR) 2, frozenOf (unhide HR) 2⟩, cellOf (unhide HR) 3, frozenOf (unhide HR) 3⟩
    go_wp2
    obtain ⟨⟨q0, q1, q2, q3⟩, hans, hbel⟩ := endB (w := w) (e1 := e1) (e2 := e2) (unhide HR) (by omega) (unhide BW) (unhide HL).1 (unhide HL).2 (unhide HA) (unhide HE) (unhide HM1) (unhide HM2) rfl rfl
    exact bodyPost_ret (v := .tuple #[.agg #[.slice f1 e1.length g1, .slice ff fl2.length gf, .bool has, .slice f2 e2.length g2], .bool true]) (by simp [results, Tryz.results51, go_sem, q0, q1, q2, q3]) rfl ⟨_, rfl, hans, hbel⟩
  · have HE : Hid (AA = (⟨ps, fl, has, jr⟩, true)) := by show _ = _; rw [unhide HE2 (by trivial) (by trivial)]; rfl
    clear HE0 HE1 HE2
    rw [V3]
    clear V1 V2 V3 V4
    have hcm : ∀ w', (callFunc 68 #[.pointer (some ⟨O, 0, none⟩), .agg #[.int .i64 3, .int .i64 p, .int .i64 x, .slice sa ps.length sc]]).run Tryz.prog w' = .ok (.enter 68 #[.pointer (some ⟨O, 0, none⟩), .agg #[.int .i64 3, .int .i64 p, .int .i64 x, .slice sa ps.length sc]]) w' := by intro w'; kernel_rfl
    refine wpAnyH_ready (rs := [7]) (by kernel_rfl) (by simp) ?_
    refine AllReadyH.cons rfl (fun K hK => ?_) AllReadyH.nil
    go_simp
    refine (putInM_any w4 O has u2 u1 uf e1 e2 fl _ p x sa sc ps (unhide HO) (unhide HBS) ((unhide H0).2.2.2.later (unhide BW) |>.weak (fun _ _ => trivial)) (unhide HLN).2.2.2).mono ?_
    rintro e w5 ⟨vv, rfl, ⟨u1, els, hm, hO'⟩, b⟩
    replace HR := hide ((b.block _ (by have := unhide HL; omega)).trans (unhide HR))
    replace HT := hide ((b.block _ (by have := unhide HL; omega)).trans (unhide HT))
    replace BW := hide ((unhide BW).trans (b.mono (by have := unhide HL; omega)))
    have HB5 := hide (Nat.le_trans (unhide HBS) b.size)
    replace HO := hide hO'
    clear b hO' hcm HBS
    try go_wp2_with fail
    refine hK.out _ _ ?_ (fun hHeldN => ?_)
    · exact ⟨cellOf (unhide HT) 0, cellOf (unhide HT) 1, cellOf (unhide HT) 2, cellOf (unhide HT) 3⟩
    clear hHeld
    have hHeld := hHeldN
    clear hHeldN
    clear hK K
    try simp only [Act.put, List.setIfInBounds_toArray, List.set_cons_zero, List.set_cons_succ]
    refine wpAnyH_done (by kernel_rfl) ?_ _
    clear hHeld HT
    go_wp2_with fail
    refine (closed_any _ _ _ _ _ _ _ _ _ (unhide HO) (unhide HB5)).mono ?_
    rintro e w6 ⟨rfl, hA, b⟩
    obtain ⟨f1, g1, i1⟩ := own_formS hA.p1.own
    obtain ⟨ff, gf, iff'⟩ := own_formS hA.pf
    obtain ⟨f2, g2, i2⟩ := own_formS hA.p2.own
    subst i1 iff' i2
    dsimp only [dkV] at *
    replace HR := hide ((b.block _ (by have := unhide HL; omega)).trans (unhide HR))
    replace BW := hide ((unhide BW).trans (b.mono (by have := unhide HL; omega)))
    have HA := hide hA
    clear b hA HB5 HO
    obtain ⟨⟨x0, y0⟩, ⟨x1, y1⟩, ⟨x2, y2⟩, x3, y3⟩ : (_ ∧ _) ∧ (_ ∧ _) ∧ (_ ∧ _) ∧ _ ∧ _ := ⟨⟨cellOf (unhide HR) 0, frozenOf (unhide HR) 0⟩, ⟨cellOf (unhide HR) 1, frozenOf (unhide HR) 1⟩, ⟨cellOf (unhide HR) 2, frozenOf (unhide HR) 2⟩, cellOf (unhide HR) 3, frozenOf (unhide HR) 3⟩
    go_wp2
    obtain ⟨⟨q0, q1, q2, q3⟩, hans, hbel⟩ := endB (w := w) (e1 := els) (e2 := e2) (unhide HR) (by omega) (unhide BW) (unhide HL).1 (unhide HL).2 (unhide HA) (unhide HE) (hm) (unhide HM2) rfl rfl
    exact bodyPost_ret (v := .tuple #[.agg #[.slice f1 els.length g1, .slice ff fl.length gf, .bool has, .slice f2 e2.length g2], .bool true]) (by simp [results, Tryz.results51, go_sem, q0, q1, q2, q3]) rfl ⟨_, rfl, hans, hbel⟩
  · have HE : Hid (AA = (⟨db, fl, false, []⟩, true)) := by show _ = _; rw [unhide HE2 (by trivial) (by trivial)]; rfl
    clear HE0 HE1 HE2
    rw [V4]
    clear V1 V2 V3 V4
    have hcm : ∀ w', (callFunc 69 #[.pointer (some ⟨O, 0, none⟩), .agg #[.int .i64 4, .int .i64 p, .int .i64 x, .slice sa ps.length sc]]).run Tryz.prog w' = .ok (.enter 69 #[.pointer (some ⟨O, 0, none⟩), .agg #[.int .i64 4, .int .i64 p, .int .i64 x, .slice sa ps.length sc]]) w' := by intro w'; kernel_rfl
    refine wpAnyH_ready (rs := [7]) (by kernel_rfl) (by simp) ?_
    refine AllReadyH.cons rfl (fun K hK => ?_) AllReadyH.nil
    go_simp
    refine (endM_any w4 O has u2 u1 uf e1 e2 fl _ p x sa sc ps (unhide HO) (unhide HBS)).mono ?_
    rintro e w5 ⟨vv, rfl, hO', b⟩
    replace HR := hide ((b.block _ (by have := unhide HL; omega)).trans (unhide HR))
    replace HT := hide ((b.block _ (by have := unhide HL; omega)).trans (unhide HT))
    replace BW := hide ((unhide BW).trans (b.mono (by have := unhide HL; omega)))
    have HB5 := hide (Nat.le_trans (unhide HBS) b.size)
    replace HO := hide hO'
    clear b hO' hcm HBS
    try go_wp2_with fail
    refine hK.out _ _ ?_ (fun hHeldN => ?_)
    · exact ⟨cellOf (unhide HT) 0, cellOf (unhide HT) 1, cellOf (unhide HT) 2, cellOf (unhide HT) 3⟩
    clear hHeld
    have hHeld := hHeldN
    clear hHeldN
    clear hK K
    try simp only [Act.put, List.setIfInBounds_toArray, List.set_cons_zero, List.set_cons_succ]
    refine wpAnyH_done (by kernel_rfl) ?_ _
    clear hHeld HT
    go_wp2_with fail
    refine (closed_any _ _ _ _ _ _ _ _ _ (unhide HO) (unhide HB5)).mono ?_
    rintro e w6 ⟨rfl, hA, b⟩
    obtain ⟨f1, g1, i1⟩ := own_formS hA.p1.own
    obtain ⟨ff, gf, iff'⟩ := own_formS hA.pf
    subst i1 iff'
    dsimp only [dkV] at *
    replace HR := hide ((b.block _ (by have := unhide HL; omega)).trans (unhide HR))
    replace BW := hide ((unhide BW).trans (b.mono (by have := unhide HL; omega)))
    have HA := hide hA
    clear b hA HB5 HO
    obtain ⟨⟨x0, y0⟩, ⟨x1, y1⟩, ⟨x2, y2⟩, x3, y3⟩ : (_ ∧ _) ∧ (_ ∧ _) ∧ (_ ∧ _) ∧ _ ∧ _ := ⟨⟨cellOf (unhide HR) 0, frozenOf (unhide HR) 0⟩, ⟨cellOf (unhide HR) 1, frozenOf (unhide HR) 1⟩, ⟨cellOf (unhide HR) 2, frozenOf (unhide HR) 2⟩, cellOf (unhide HR) 3, frozenOf (unhide HR) 3⟩
    go_wp2
    obtain ⟨⟨q0, q1, q2, q3⟩, hans, hbel⟩ := endB (w := w) (e1 := e1) (e2 := []) (unhide HR) (by omega) (unhide BW) (unhide HL).1 (unhide HL).2 (unhide HA) (unhide HE) (unhide HM1) (rfl) rfl rfl
    simp only [List.length_nil] at q0 q1 q2 q3
    exact bodyPost_ret (v := .tuple #[.agg #[.slice f1 e1.length g1, .slice ff fl.length gf, .bool false, .slice none 0 0], .bool true]) (by simp [results, Tryz.results51, go_sem, q0, q1, q2, q3]) rfl ⟨_, rfl, hans, hbel⟩

set_option linter.unusedSimpArgs false in
set_option maxHeartbeats 8000000 in
set_option maxRecDepth 100000 in
theorem tearStep_any {N M L : Nat → Prop} (w : World) (d : Dk.D) (s : Dk.S) (v1 vf v2 vs : Value) (h1 : Pks N w v1 d.db) (r1 : ∀ a c, v1 = .slice a d.db.length c → d.db.length ≤ c) (hf : Ins w vf d.fl) (h2 : Pks M w v2 d.jr) (r2 : ∀ a c, v2 = .slice a d.jr.length c → d.jr.length ≤ c) (hs : Pks L w vs s.ps) (rs : ∀ a c, vs = .slice a s.ps.length c → s.ps.length ≤ c) :
    Calls Tryz.prog 51 #[dkV v1 vf d.has v2, stV s.k s.p s.x vs, .func (.func 35) #[] #[]] w fun e w' => ∃ u, e = .returned u ∧ DkAns w.heap.size w' (Dk.tearA d s) u ∧ Below w.heap.size w w' := by
  have CO := hide (fun (W : World) h1 hf h2 => implDiskOk_any (N := N) (M := M) W d v1 vf v2 h1 r1 hf h2 r2)
  have CS := hide (fun (W : World) h => implStepOk_any (N := L) W s vs h rs)
  have GD := hide (fun h => Dk.ok_get (d := d) h)
  have GS := hide (fun h => Dk.S.ok_get (s := s) h)
  have HE0 := hide (show d.ok = false → Dk.tearA d s = (Dk.D.none, false) from fun h => by unfold Dk.tearA; rw [if_neg (by rw [h]; simp)])
  have HE1 := hide (show s.ok = false → Dk.tearA d s = (Dk.D.none, false) from fun h => by unfold Dk.tearA; rw [if_neg (by rw [h]; simp)])
  have HE2 := hide (show d.ok = true → s.ok = true → Dk.tearA d s = (d.torn s, true) from fun h h' => by unfold Dk.tearA; rw [if_pos ⟨h, h'⟩])
  generalize Dk.tearA d s = AA at *
  generalize d.ok = dok at *
  generalize s.ok = sok at *
  obtain ⟨db, fl, has, jr⟩ := d
  obtain ⟨k, p, x, ps⟩ := s
  dsimp only [dkV, stV] at *
  obtain ⟨a1, c1, e1⟩ := h1.slice
  obtain ⟨af, cf, ef⟩ := hf.slice
  obtain ⟨a2, c2, e2⟩ := h2.slice
  obtain ⟨sa, sc, e3⟩ := hs.slice
  subst e1 ef e2 e3
  obtain ⟨b0, k0, k1, k2, kz⟩ := three_boxesD w (.cells #[.slice a1 db.length c1, .slice af fl.length cf, .bool has, .slice a2 jr.length c2] 31) (.cells #[.int .i64 k, .int .i64 p, .int .i64 x, .slice sa ps.length sc] 47) (.cells #[.slice none 0 0, .slice none 0 0, .bool false, .slice none 0 0] 31)
  have HD := hide k0
  have HT := hide k1
  have HR := hide k2
  have BW := hide b0
  have H0 := hide (And.intro h1 (And.intro hf (And.intro h2 hs)))
  clear h1 hf h2 hs b0 k0 k1 k2 kz r1 r2 rs
  go_enter Tryz.func51, Tryz.ntmps51
  go_wp2_with fail
  generalize World.alloc _ _ = W0 at *
  refine (unhide CO _ ((unhide H0).1.later (unhide BW)) ((unhide H0).2.1.later (unhide BW)) ((unhide H0).2.2.1.later (unhide BW))).mono ?_
  rintro e w1 ⟨rfl, b⟩
  replace HD := hide ((b.block _ (heapLt (unhide HD))).trans (unhide HD))
  replace HT := hide ((b.block _ (heapLt (unhide HT))).trans (unhide HT))
  replace HR := hide ((b.block _ (heapLt (unhide HR))).trans (unhide HR))
  replace BW := hide ((unhide BW).trans (b.mono (unhide BW).size))
  clear b
  clear CO
  cases dok
  · have HE := hide (unhide HE0 rfl)
    obtain ⟨⟨x0, y0⟩, ⟨x1, y1⟩, ⟨x2, y2⟩, x3, y3⟩ : (_ ∧ _) ∧ (_ ∧ _) ∧ (_ ∧ _) ∧ _ ∧ _ := ⟨⟨cellOf (unhide HR) 0, frozenOf (unhide HR) 0⟩, ⟨cellOf (unhide HR) 1, frozenOf (unhide HR) 1⟩, ⟨cellOf (unhide HR) 2, frozenOf (unhide HR) 2⟩, cellOf (unhide HR) 3, frozenOf (unhide HR) 3⟩
    clear CS HE0 HE1 HE2
    go_wp2
    obtain ⟨⟨q0, q1, q2, q3⟩, hbel, hfar⟩ := fin4 (a := .slice none 0 0) (b := .slice none 0 0) (c := .bool false) (d := .slice none 0 0) (W := w) (unhide HR) (by omega) (unhide BW) rfl
    exact bodyPost_ret (v := .tuple #[.agg #[.slice none 0 0, .slice none 0 0, .bool false, .slice none 0 0], .bool false]) (by simp [results, Tryz.results51, go_sem, q0, q1, q2, q3]) rfl ⟨_, rfl, by rw [unhide HE]; exact ⟨_, _, _, [], [], rfl, ⟨PAns.nil _ _, World.ownsRow_nil _ _ _ _, PAns.nil _ _, fun g hg => by rcases hg with hg | ⟨e, he, _⟩; cases hg; cases he⟩, rfl, rfl⟩, hbel⟩
  obtain ⟨x0, x1, x2, x3⟩ : _ ∧ _ ∧ _ ∧ _ := ⟨cellOf (unhide HT) 0, cellOf (unhide HT) 1, cellOf (unhide HT) 2, cellOf (unhide HT) 3⟩
  go_wp2_with fail
  refine (unhide CS _ ((unhide H0).2.2.2.later (unhide BW))).mono ?_
  rintro e w2 ⟨rfl, b⟩
  replace HD := hide ((b.block _ (heapLt (unhide HD))).trans (unhide HD))
  replace HT := hide ((b.block _ (heapLt (unhide HT))).trans (unhide HT))
  replace HR := hide ((b.block _ (heapLt (unhide HR))).trans (unhide HR))
  replace BW := hide ((unhide BW).trans (b.mono (unhide BW).size))
  clear b
  clear x0 x1 x2 x3
  cases sok
  · have HE := hide (unhide HE1 rfl)
    obtain ⟨⟨x0, y0⟩, ⟨x1, y1⟩, ⟨x2, y2⟩, x3, y3⟩ : (_ ∧ _) ∧ (_ ∧ _) ∧ (_ ∧ _) ∧ _ ∧ _ := ⟨⟨cellOf (unhide HR) 0, frozenOf (unhide HR) 0⟩, ⟨cellOf (unhide HR) 1, frozenOf (unhide HR) 1⟩, ⟨cellOf (unhide HR) 2, frozenOf (unhide HR) 2⟩, cellOf (unhide HR) 3, frozenOf (unhide HR) 3⟩
    clear CS HE0 HE1 HE2
    go_wp2
    obtain ⟨⟨q0, q1, q2, q3⟩, hbel, hfar⟩ := fin4 (a := .slice none 0 0) (b := .slice none 0 0) (c := .bool false) (d := .slice none 0 0) (W := w) (unhide HR) (by omega) (unhide BW) rfl
    exact bodyPost_ret (v := .tuple #[.agg #[.slice none 0 0, .slice none 0 0, .bool false, .slice none 0 0], .bool false]) (by simp [results, Tryz.results51, go_sem, q0, q1, q2, q3]) rfl ⟨_, rfl, by rw [unhide HE]; exact ⟨_, _, _, [], [], rfl, ⟨PAns.nil _ _, World.ownsRow_nil _ _ _ _, PAns.nil _ _, fun g hg => by rcases hg with hg | ⟨e, he, _⟩; cases hg; cases he⟩, rfl, rfl⟩, hbel⟩
  obtain ⟨gf, g1, g2, _⟩ := unhide GD (by trivial)
  obtain ⟨hk, hp, _, g3⟩ := unhide GS (by trivial)
  have HLN := hide (And.intro (show db.length ≤ 1000 by have := Ix.pkgs_len (Ix.planOk_pkgs g1); omega) (And.intro (show jr.length ≤ 1000 by have := Ix.pkgs_len (Ix.planOk_pkgs g2); omega) (And.intro (show fl.length ≤ 1000 by have := (Dk.files_get gf).1; omega) (show ps.length ≤ 1000 by have := Ix.pkgs_len (Ix.planOk_pkgs g3); omega))))
  have HPB := hide (And.intro hp.1 (show p < (fl.length : Int) by have := (Dk.files_get gf).1; have := hp.2; omega))
  have HK := hide hk
  clear gf g1 g2 g3 hk hp GD GS CS
  obtain ⟨x0, x1, x2, x3⟩ : _ ∧ _ ∧ _ ∧ _ := ⟨cellOf (unhide HD) 0, cellOf (unhide HD) 1, cellOf (unhide HD) 2, cellOf (unhide HD) 3⟩
  go_wp2_with fail
  refine (opened_any _ ⟨db, fl, has, jr⟩ _ _ _ ((unhide H0).1.later (unhide BW)) ((unhide H0).2.1.later (unhide BW)) ((unhide H0).2.2.1.later (unhide BW)) (unhide HLN).1 (unhide HLN).2.1 (unhide HLN).2.2.1).mono ?_
  rintro e w3 ⟨O, u2, u1, uf, e1, e2, rfl, hO, hm1, hm2, b⟩
  have HL : Hid (w.heap.size + 1 + 1 < w2.heap.size ∧ w.heap.size ≤ w2.heap.size) := ⟨heapLt (unhide HR), (unhide BW).size⟩
  have HO := hide hO
  have HM1 := hide hm1
  have HM2 := hide hm2
  have HBS := hide b.size
  clear x0 x1 x2 x3 hO hm1 hm2 HD
  replace HT := hide ((b.block _ (heapLt (unhide HT))).trans (unhide HT))
  replace HR := hide ((b.block _ (heapLt (unhide HR))).trans (unhide HR))
  replace BW := hide ((unhide BW).trans (b.mono (unhide BW).size))
  clear b
  dsimp only [] at *
  go_wp2_with fail
  obtain ⟨x0, x1, x2, x3⟩ : _ ∧ _ ∧ _ ∧ _ := ⟨cellOf (unhide HT) 0, cellOf (unhide HT) 1, cellOf (unhide HT) 2, cellOf (unhide HT) 3⟩
  refine wp_region_held_drew (S := fun w' => w'.cell? ⟨w.heap.size + 1, 0, none⟩ = some (.int .i64 k) ∧ w'.cell? ⟨w.heap.size + 1, 1, none⟩ = some (.int .i64 p) ∧ w'.cell? ⟨w.heap.size + 1, 2, none⟩ = some (.int .i64 x) ∧ w'.cell? ⟨w.heap.size + 1, 3, none⟩ = some (.slice sa ps.length sc)) (by kernel_rfl) ⟨x0, x1, x2, x3⟩ (fun hHeld => ?_)
  clear x0 x1 x2 x3
  have hcf : ∀ w', (callFunc 35 #[.pointer (some ⟨O, 0, none⟩)]).run Tryz.prog w' = .ok (.enter 35 #[.pointer (some ⟨O, 0, none⟩)]) w' := by intro w'; kernel_rfl
  refine anyH_at (i := 0) (d := some 20) rfl rfl (by kernel_rfl) (by kernel_rfl) (by kernel_rfl) (fun _ _ _ h => h) (by rfl) (v := ?_) ?_ (by assumption) ?_
  rotate_left
  · (intro w hSw; (try dsimp only at hSw); go_simp <;> with_reducible rfl)
  simp only [Act.put, List.setIfInBounds_toArray, List.set_cons_zero, List.set_cons_succ]
  refine anyH_at (i := 1) (d := some 21) rfl rfl (by kernel_rfl) (by kernel_rfl) (by kernel_rfl) (fun _ _ _ h => h) (by rfl) (v := ?_) ?_ (by assumption) ?_
  rotate_left
  · (intro w hSw; (try dsimp only at hSw); go_simp <;> with_reducible rfl)
  simp only [Act.put, List.setIfInBounds_toArray, List.set_cons_zero, List.set_cons_succ]
  refine anyH_at (i := 3) (d := some 23) rfl rfl (by kernel_rfl) (by kernel_rfl) (by kernel_rfl) (fun _ _ _ h => h) (by rfl) (v := ?_) ?_ (by assumption) ?_
  rotate_left
  · (intro w hSw; (try dsimp only at hSw); go_simp <;> with_reducible rfl)
  simp only [Act.put, List.setIfInBounds_toArray, List.set_cons_zero, List.set_cons_succ]
  refine anyH_at (i := 4) (d := some 24) rfl rfl (by kernel_rfl) (by kernel_rfl) (by kernel_rfl) (fun _ _ _ h => h) (by rfl) (v := ?_) ?_ (by assumption) ?_
  rotate_left
  · (intro w hSw; (try dsimp only at hSw); go_simp <;> with_reducible rfl)
  simp only [Act.put, List.setIfInBounds_toArray, List.set_cons_zero, List.set_cons_succ]
  refine anyH_at (i := 6) (d := some 26) rfl rfl (by kernel_rfl) (by kernel_rfl) (by kernel_rfl) (fun _ _ _ h => h) (by rfl) (v := ?_) ?_ (by assumption) ?_
  rotate_left
  · (intro w hSw; (try dsimp only at hSw); go_simp <;> with_reducible rfl)
  simp only [Act.put, List.setIfInBounds_toArray, List.set_cons_zero, List.set_cons_succ]
  refine wpAnyH_ready (rs := [2]) (by kernel_rfl) (by simp) ?_
  refine AllReadyH.cons rfl (fun K hK => ?_) AllReadyH.nil
  go_simp
  have hd := below_drew w3
  replace HT := hide ((hd.block _ (heapLt (unhide HT))).trans (unhide HT))
  replace HR := hide ((hd.block _ (heapLt (unhide HR))).trans (unhide HR))
  replace BW := hide ((unhide BW).trans (hd.mono (unhide BW).size))
  replace HO := hide ((unhide HO).later hd)
  replace HBS := hide (Nat.le_trans (unhide HBS) hd.size)
  clear hd hcf
  refine (tearing_any _ O).mono ?_
  rintro e w4 ⟨V, rfl, hM, ⟨V1, V2, V3, V4⟩, b⟩
  have HM := hide hM
  replace HT := hide ((b.block _ (heapLt (unhide HT))).trans (unhide HT))
  replace HR := hide ((b.block _ (heapLt (unhide HR))).trans (unhide HR))
  replace BW := hide ((unhide BW).trans (b.mono (unhide BW).size))
  replace HO := hide ((unhide HO).later b)
  replace HBS := hide (Nat.le_trans (unhide HBS) b.size)
  clear b hM
  generalize w3.drew.heap.size = mb at *
  try go_wp2_with fail
  refine hK.out _ _ ?_ (fun hHeldN => ?_)
  · exact ⟨cellOf (unhide HT) 0, cellOf (unhide HT) 1, cellOf (unhide HT) 2, cellOf (unhide HT) 3⟩
  clear hHeld
  have hHeld := hHeldN
  clear hHeldN
  clear hK K
  try simp only [Act.put, List.setIfInBounds_toArray, List.set_cons_zero, List.set_cons_succ]
  refine wpAnyH_ready (rs := [5]) (by kernel_rfl) (by simp) ?_
  refine AllReadyH.cons rfl (fun K hK => ?_) AllReadyH.nil
  rw [if_pos (by rfl)]
  have hkb : -9223372036854775808 ≤ k ∧ k ≤ 9223372036854775807 := by rcases unhide HK with rfl | rfl | rfl | rfl <;> omega
  refine wp_lookF _ _ _ _ rfl _ Tryz.underlying64 (zeroF _) mb 4 V rfl (unhide HM) k rfl hkb.1 hkb.2 ?_
  clear hkb HM
  change K (Act.put _ (some 25) _) _
  refine hK.out _ _ ?_ (fun hHeldN => ?_)
  · exact ⟨cellOf (unhide HT) 0, cellOf (unhide HT) 1, cellOf (unhide HT) 2, cellOf (unhide HT) 3⟩
  clear hHeld
  have hHeld := hHeldN
  clear hHeldN
  clear hK K
  try simp only [Act.put, List.setIfInBounds_toArray, List.set_cons_zero, List.set_cons_succ]
  rcases unhide HK with rfl | rfl | rfl | rfl
  · have HE : Hid (AA = (⟨db, fl, has, jr⟩, true)) := by show _ = _; rw [unhide HE2 (by trivial) (by trivial)]; rfl
    clear HE0 HE1 HE2
    rw [V1]
    clear V1 V2 V3 V4
    have hcm : ∀ w', (callFunc 70 #[.pointer (some ⟨O, 0, none⟩), .agg #[.int .i64 1, .int .i64 p, .int .i64 x, .slice sa ps.length sc]]).run Tryz.prog w' = .ok (.enter 70 #[.pointer (some ⟨O, 0, none⟩), .agg #[.int .i64 1, .int .i64 p, .int .i64 x, .slice sa ps.length sc]]) w' := by intro w'; kernel_rfl
    refine wpAnyH_ready (rs := [7]) (by kernel_rfl) (by simp) ?_
    refine AllReadyH.cons rfl (fun K hK => ?_) AllReadyH.nil
    go_simp
    refine (stayM_any w4 O has u2 u1 uf e1 e2 fl _ p x sa sc ps (unhide HO) (unhide HBS)).mono ?_
    rintro e w5 ⟨vv, rfl, hO', b⟩
    replace HR := hide ((b.block _ (by have := unhide HL; omega)).trans (unhide HR))
    replace HT := hide ((b.block _ (by have := unhide HL; omega)).trans (unhide HT))
    replace BW := hide ((unhide BW).trans (b.mono (by have := unhide HL; omega)))
    have HB5 := hide (Nat.le_trans (unhide HBS) b.size)
    replace HO := hide hO'
    clear b hO' hcm HBS
    try go_wp2_with fail
    refine hK.out _ _ ?_ (fun hHeldN => ?_)
    · exact ⟨cellOf (unhide HT) 0, cellOf (unhide HT) 1, cellOf (unhide HT) 2, cellOf (unhide HT) 3⟩
    clear hHeld
    have hHeld := hHeldN
    clear hHeldN
    clear hK K
    try simp only [Act.put, List.setIfInBounds_toArray, List.set_cons_zero, List.set_cons_succ]
    refine wpAnyH_done (by kernel_rfl) ?_ _
    clear hHeld HT
    go_wp2_with fail
    refine (closed_any _ _ _ _ _ _ _ _ _ (unhide HO) (unhide HB5)).mono ?_
    rintro e w6 ⟨rfl, hA, b⟩
    obtain ⟨f1, g1, i1⟩ := own_formS hA.p1.own
    obtain ⟨ff, gf, iff'⟩ := own_formS hA.pf
    obtain ⟨f2, g2, i2⟩ := own_formS hA.p2.own
    subst i1 iff' i2
    dsimp only [dkV] at *
    replace HR := hide ((b.block _ (by have := unhide HL; omega)).trans (unhide HR))
    replace BW := hide ((unhide BW).trans (b.mono (by have := unhide HL; omega)))
    have HA := hide hA
    clear b hA HB5 HO
    obtain ⟨⟨x0, y0⟩, ⟨x1, y1⟩, ⟨x2, y2⟩, x3, y3⟩ : (_ ∧ _) ∧ (_ ∧ _) ∧ (_ ∧ _) ∧ _ ∧ _ := ⟨⟨cellOf (unhide HR) 0, frozenOf (unhide HR) 0⟩, ⟨cellOf (unhide HR) 1, frozenOf (unhide HR) 1⟩, ⟨cellOf (unhide HR) 2, frozenOf (unhide HR) 2⟩, cellOf (unhide HR) 3, frozenOf (unhide HR) 3⟩
    go_wp2
    obtain ⟨⟨q0, q1, q2, q3⟩, hans, hbel⟩ := endB (w := w) (e1 := e1) (e2 := e2) (unhide HR) (by omega) (unhide BW) (unhide HL).1 (unhide HL).2 (unhide HA) (unhide HE) (unhide HM1) (unhide HM2) rfl rfl
    exact bodyPost_ret (v := .tuple #[.agg #[.slice f1 e1.length g1, .slice ff fl.length gf, .bool has, .slice f2 e2.length g2], .bool true]) (by simp [results, Tryz.results51, go_sem, q0, q1, q2, q3]) rfl ⟨_, rfl, hans, hbel⟩
  · have HE : Hid (AA = (⟨db, fl.set p.toNat (-2), has, jr⟩, true)) := by show _ = _; rw [unhide HE2 (by trivial) (by trivial)]; rfl
    clear HE0 HE1 HE2
    rw [V2]
    clear V1 V2 V3 V4
    have hcm : ∀ w', (callFunc 71 #[.pointer (some ⟨O, 0, none⟩), .agg #[.int .i64 2, .int .i64 p, .int .i64 x, .slice sa ps.length sc]]).run Tryz.prog w' = .ok (.enter 71 #[.pointer (some ⟨O, 0, none⟩), .agg #[.int .i64 2, .int .i64 p, .int .i64 x, .slice sa ps.length sc]]) w' := by intro w'; kernel_rfl
    refine wpAnyH_ready (rs := [7]) (by kernel_rfl) (by simp) ?_
    refine AllReadyH.cons rfl (fun K hK => ?_) AllReadyH.nil
    go_simp
    refine (smearM_any w4 O has u2 u1 uf e1 e2 fl _ p x sa sc ps (unhide HO) (unhide HBS) (unhide HPB).1 (unhide HPB).2).mono ?_
    rintro e w5 ⟨vv, rfl, hO', b⟩
    replace HR := hide ((b.block _ (by have := unhide HL; omega)).trans (unhide HR))
    replace HT := hide ((b.block _ (by have := unhide HL; omega)).trans (unhide HT))
    replace BW := hide ((unhide BW).trans (b.mono (by have := unhide HL; omega)))
    have HB5 := hide (Nat.le_trans (unhide HBS) b.size)
    replace HO := hide hO'
    clear b hO' hcm HBS HPB
    generalize fl.set p.toNat (-2) = fl2 at *
    try go_wp2_with fail
    refine hK.out _ _ ?_ (fun hHeldN => ?_)
    · exact ⟨cellOf (unhide HT) 0, cellOf (unhide HT) 1, cellOf (unhide HT) 2, cellOf (unhide HT) 3⟩
    clear hHeld
    have hHeld := hHeldN
    clear hHeldN
    clear hK K
    try simp only [Act.put, List.setIfInBounds_toArray, List.set_cons_zero, List.set_cons_succ]
    refine wpAnyH_done (by kernel_rfl) ?_ _
    clear hHeld HT
    go_wp2_with fail
    refine (closed_any _ _ _ _ _ _ _ _ _ (unhide HO) (unhide HB5)).mono ?_
    rintro e w6 ⟨rfl, hA, b⟩
    obtain ⟨f1, g1, i1⟩ := own_formS hA.p1.own
    obtain ⟨ff, gf, iff'⟩ := own_formS hA.pf
    obtain ⟨f2, g2, i2⟩ := own_formS hA.p2.own
    subst i1 iff' i2
    dsimp only [dkV] at *
    replace HR := hide ((b.block _ (by have := unhide HL; omega)).trans (unhide HR))
    replace BW := hide ((unhide BW).trans (b.mono (by have := unhide HL; omega)))
    have HA := hide hA
    clear b hA HB5 HO
    obtain ⟨⟨x0, y0⟩, ⟨x1, y1⟩, ⟨x2, y2⟩, x3, y3⟩ : (_ ∧ _) ∧ (_ ∧ _) ∧ (_ ∧ _) ∧ _ ∧ _ := ⟨⟨cellOf (unhide HR) 0, frozenOf (unhide HR) 0⟩, ⟨cellOf (unhide HR) 1, frozenOf (unhide HR) 1⟩, ⟨cellOf (unhide HR) 2, frozenOf (unhide HR) 2⟩, cellOf (unhide HR) 3, frozenOf (unhide HR) 3⟩
    go_wp2
    obtain ⟨⟨q0, q1, q2, q3⟩, hans, hbel⟩ := endB (w := w) (e1 := e1) (e2 := e2) (unhide HR) (by omega) (unhide BW) (unhide HL).1 (unhide HL).2 (unhide HA) (unhide HE) (unhide HM1) (unhide HM2) rfl rfl
    exact bodyPost_ret (v := .tuple #[.agg #[.slice f1 e1.length g1, .slice ff fl2.length gf, .bool has, .slice f2 e2.length g2], .bool true]) (by simp [results, Tryz.results51, go_sem, q0, q1, q2, q3]) rfl ⟨_, rfl, hans, hbel⟩
  · have HE : Hid (AA = (⟨[], fl, has, jr⟩, true)) := by show _ = _; rw [unhide HE2 (by trivial) (by trivial)]; rfl
    clear HE0 HE1 HE2
    rw [V3]
    clear V1 V2 V3 V4
    have hcm : ∀ w', (callFunc 72 #[.pointer (some ⟨O, 0, none⟩), .agg #[.int .i64 3, .int .i64 p, .int .i64 x, .slice sa ps.length sc]]).run Tryz.prog w' = .ok (.enter 72 #[.pointer (some ⟨O, 0, none⟩), .agg #[.int .i64 3, .int .i64 p, .int .i64 x, .slice sa ps.length sc]]) w' := by intro w'; kernel_rfl
    refine wpAnyH_ready (rs := [7]) (by kernel_rfl) (by simp) ?_
    refine AllReadyH.cons rfl (fun K hK => ?_) AllReadyH.nil
    go_simp
    refine (takeOutM_any w4 O has u2 u1 uf e1 e2 fl _ p x sa sc ps (unhide HO) (unhide HBS)).mono ?_
    rintro e w5 ⟨vv, rfl, hO', b⟩
    replace HR := hide ((b.block _ (by have := unhide HL; omega)).trans (unhide HR))
    replace HT := hide ((b.block _ (by have := unhide HL; omega)).trans (unhide HT))
    replace BW := hide ((unhide BW).trans (b.mono (by have := unhide HL; omega)))
    have HB5 := hide (Nat.le_trans (unhide HBS) b.size)
    replace HO := hide hO'
    clear b hO' hcm HBS
    try go_wp2_with fail
    refine hK.out _ _ ?_ (fun hHeldN => ?_)
    · exact ⟨cellOf (unhide HT) 0, cellOf (unhide HT) 1, cellOf (unhide HT) 2, cellOf (unhide HT) 3⟩
    clear hHeld
    have hHeld := hHeldN
    clear hHeldN
    clear hK K
    try simp only [Act.put, List.setIfInBounds_toArray, List.set_cons_zero, List.set_cons_succ]
    refine wpAnyH_done (by kernel_rfl) ?_ _
    clear hHeld HT
    go_wp2_with fail
    refine (closed_any _ _ _ _ _ _ _ _ _ (unhide HO) (unhide HB5)).mono ?_
    rintro e w6 ⟨rfl, hA, b⟩
    obtain ⟨ff, gf, iff'⟩ := own_formS hA.pf
    obtain ⟨f2, g2, i2⟩ := own_formS hA.p2.own
    subst iff' i2
    dsimp only [dkV] at *
    replace HR := hide ((b.block _ (by have := unhide HL; omega)).trans (unhide HR))
    replace BW := hide ((unhide BW).trans (b.mono (by have := unhide HL; omega)))
    have HA := hide hA
    clear b hA HB5 HO
    obtain ⟨⟨x0, y0⟩, ⟨x1, y1⟩, ⟨x2, y2⟩, x3, y3⟩ : (_ ∧ _) ∧ (_ ∧ _) ∧ (_ ∧ _) ∧ _ ∧ _ := ⟨⟨cellOf (unhide HR) 0, frozenOf (unhide HR) 0⟩, ⟨cellOf (unhide HR) 1, frozenOf (unhide HR) 1⟩, ⟨cellOf (unhide HR) 2, frozenOf (unhide HR) 2⟩, cellOf (unhide HR) 3, frozenOf (unhide HR) 3⟩
    go_wp2
    obtain ⟨⟨q0, q1, q2, q3⟩, hans, hbel⟩ := endB (w := w) (e1 := []) (e2 := e2) (unhide HR) (by omega) (unhide BW) (unhide HL).1 (unhide HL).2 (unhide HA) (unhide HE) (rfl) (unhide HM2) rfl rfl
    simp only [List.length_nil] at q0 q1 q2 q3
    exact bodyPost_ret (v := .tuple #[.agg #[.slice none 0 0, .slice ff fl.length gf, .bool has, .slice f2 e2.length g2], .bool true]) (by simp [results, Tryz.results51, go_sem, q0, q1, q2, q3]) rfl ⟨_, rfl, hans, hbel⟩
  · have HE : Hid (AA = (⟨db, fl, has, jr⟩, true)) := by show _ = _; rw [unhide HE2 (by trivial) (by trivial)]; rfl
    clear HE0 HE1 HE2
    rw [V4]
    clear V1 V2 V3 V4
    have hcm : ∀ w', (callFunc 70 #[.pointer (some ⟨O, 0, none⟩), .agg #[.int .i64 4, .int .i64 p, .int .i64 x, .slice sa ps.length sc]]).run Tryz.prog w' = .ok (.enter 70 #[.pointer (some ⟨O, 0, none⟩), .agg #[.int .i64 4, .int .i64 p, .int .i64 x, .slice sa ps.length sc]]) w' := by intro w'; kernel_rfl
    refine wpAnyH_ready (rs := [7]) (by kernel_rfl) (by simp) ?_
    refine AllReadyH.cons rfl (fun K hK => ?_) AllReadyH.nil
    go_simp
    refine (stayM_any w4 O has u2 u1 uf e1 e2 fl _ p x sa sc ps (unhide HO) (unhide HBS)).mono ?_
    rintro e w5 ⟨vv, rfl, hO', b⟩
    replace HR := hide ((b.block _ (by have := unhide HL; omega)).trans (unhide HR))
    replace HT := hide ((b.block _ (by have := unhide HL; omega)).trans (unhide HT))
    replace BW := hide ((unhide BW).trans (b.mono (by have := unhide HL; omega)))
    have HB5 := hide (Nat.le_trans (unhide HBS) b.size)
    replace HO := hide hO'
    clear b hO' hcm HBS
    try go_wp2_with fail
    refine hK.out _ _ ?_ (fun hHeldN => ?_)
    · exact ⟨cellOf (unhide HT) 0, cellOf (unhide HT) 1, cellOf (unhide HT) 2, cellOf (unhide HT) 3⟩
    clear hHeld
    have hHeld := hHeldN
    clear hHeldN
    clear hK K
    try simp only [Act.put, List.setIfInBounds_toArray, List.set_cons_zero, List.set_cons_succ]
    refine wpAnyH_done (by kernel_rfl) ?_ _
    clear hHeld HT
    go_wp2_with fail
    refine (closed_any _ _ _ _ _ _ _ _ _ (unhide HO) (unhide HB5)).mono ?_
    rintro e w6 ⟨rfl, hA, b⟩
    obtain ⟨f1, g1, i1⟩ := own_formS hA.p1.own
    obtain ⟨ff, gf, iff'⟩ := own_formS hA.pf
    obtain ⟨f2, g2, i2⟩ := own_formS hA.p2.own
    subst i1 iff' i2
    dsimp only [dkV] at *
    replace HR := hide ((b.block _ (by have := unhide HL; omega)).trans (unhide HR))
    replace BW := hide ((unhide BW).trans (b.mono (by have := unhide HL; omega)))
    have HA := hide hA
    clear b hA HB5 HO
    obtain ⟨⟨x0, y0⟩, ⟨x1, y1⟩, ⟨x2, y2⟩, x3, y3⟩ : (_ ∧ _) ∧ (_ ∧ _) ∧ (_ ∧ _) ∧ _ ∧ _ := ⟨⟨cellOf (unhide HR) 0, frozenOf (unhide HR) 0⟩, ⟨cellOf (unhide HR) 1, frozenOf (unhide HR) 1⟩, ⟨cellOf (unhide HR) 2, frozenOf (unhide HR) 2⟩, cellOf (unhide HR) 3, frozenOf (unhide HR) 3⟩
    go_wp2
    obtain ⟨⟨q0, q1, q2, q3⟩, hans, hbel⟩ := endB (w := w) (e1 := e1) (e2 := e2) (unhide HR) (by omega) (unhide BW) (unhide HL).1 (unhide HL).2 (unhide HA) (unhide HE) (unhide HM1) (unhide HM2) rfl rfl
    exact bodyPost_ret (v := .tuple #[.agg #[.slice f1 e1.length g1, .slice ff fl.length gf, .bool has, .slice f2 e2.length g2], .bool true]) (by simp [results, Tryz.results51, go_sem, q0, q1, q2, q3]) rfl ⟨_, rfl, hans, hbel⟩

end Go.Proofs.YtkhanndmbpemfaaGreatDoor
