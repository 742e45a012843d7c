import Derived.Test.YtpjpgofllnnemaaDoorSDoW
import Derived.Test.YtpjpgofllnnemaaDoorBehindW
import Derived.Test.YtpjpgofllnnemaaDoorDDDrawW
import Derived.Test.YtpjpgofllnnemaaDoorMix17
import Derived.Test.YtpjpgofllnnemaaDoorMix18
/- spec.DiskDo and spec.DiskTear: the disk behind a step, in rows of its own, and whether. -/
namespace Go.Proofs.YtpjpgofllnnemaaDoor
open Go.RowKit

attribute [local go_sem ↓] Go.wp_at_zero Go.wp_at_succ

set_option linter.unusedSimpArgs false in
set_option maxHeartbeats 8000000 in
set_option maxRecDepth 100000 in
theorem specDiskDo_any {N M L : Nat → Prop} (w : World) (d : Dk.D) (s : Dk.S) (v1 vf v2 vs : Value) (h1 : Pks N w v1 d.db) (hf : Ins w vf d.fl) (h2 : Pks M w v2 d.jr) (hs : Pks L w vs s.ps) :
    Calls Tryd.prog 14 #[dkV v1 vf d.has v2, stV s.k s.p s.x vs] w fun e w' => ∃ u, e = .returned u ∧ DkAns w.heap.size w' (Dk.doA d s) u ∧ Below w.heap.size w w' := by
  have CO := hide (fun (W : World) h1 hf h2 => specDiskOk_any (N := N) (M := M) W d v1 vf v2 h1 hf h2)
  have CS := hide (fun (W : World) h => specStep_any (N := L) W s vs h)
  have GD := hide (fun h => Dk.ok_get (d := d) h)
  have GS := hide (fun h => Dk.S.ok_get (s := s) h)
  have HE0 := hide (show d.ok = false → Dk.doA d s = (Dk.D.none, false) from fun h => by unfold Dk.doA; rw [if_neg (by rw [h]; simp)])
  have HE1 := hide (show s.ok = false → Dk.doA d s = (Dk.D.none, false) from fun h => by unfold Dk.doA; rw [if_neg (by rw [h]; simp)])
  have HE2 := hide (show d.ok = true → s.ok = true → Dk.doA d s = (Dk.D.step d s, true) from fun h h' => by unfold Dk.doA; rw [if_pos ⟨h, h'⟩])
  generalize Dk.doA d s = AA at *
  generalize d.ok = dok at *
  generalize s.ok = sok at *
  obtain ⟨db, fl, has, jr⟩ := d
  obtain ⟨k, p, x, ps⟩ := s
  dsimp only [dkV, stV] at *
  obtain ⟨a1, c1, e1⟩ := h1.slice
  obtain ⟨af, cf, ef⟩ := hf.slice
  obtain ⟨a2, c2, e2⟩ := h2.slice
  obtain ⟨sa, sc, e3⟩ := hs.slice
  subst e1 ef e2 e3
  obtain ⟨b0, k0, k1, k2, kz⟩ := three_boxesD w (.cells #[.slice a1 db.length c1, .slice af fl.length cf, .bool has, .slice a2 jr.length c2] 26) (.cells #[.int .i64 k, .int .i64 p, .int .i64 x, .slice sa ps.length sc] 34) (.cells #[.slice none 0 0, .slice none 0 0, .bool false, .slice none 0 0] 26)
  have HD := hide k0
  have HT := hide k1
  have HR := hide k2
  have BW := hide b0
  have H0 := hide (And.intro h1 (And.intro hf (And.intro h2 hs)))
  clear h1 hf h2 hs b0 k0 k1 k2 kz
  go_enter Tryd.func14, Tryd.ntmps14
  go_wp2_with fail
  generalize World.alloc _ _ = W0 at *
  refine (unhide CO _ ((unhide H0).1.later (unhide BW)) ((unhide H0).2.1.later (unhide BW)) ((unhide H0).2.2.1.later (unhide BW))).mono ?_
  rintro e w1 ⟨rfl, b⟩
  replace HD := hide ((b.block _ (heapLt (unhide HD))).trans (unhide HD))
  replace HT := hide ((b.block _ (heapLt (unhide HT))).trans (unhide HT))
  replace HR := hide ((b.block _ (heapLt (unhide HR))).trans (unhide HR))
  replace BW := hide ((unhide BW).trans (b.mono (unhide BW).size))
  clear b
  clear CO
  cases dok
  · have HE := hide (unhide HE0 (by trivial))
    obtain ⟨⟨x0, y0⟩, ⟨x1, y1⟩, ⟨x2, y2⟩, x3, y3⟩ : (_ ∧ _) ∧ (_ ∧ _) ∧ (_ ∧ _) ∧ _ ∧ _ := ⟨⟨cellOf (unhide HR) 0, frozenOf (unhide HR) 0⟩, ⟨cellOf (unhide HR) 1, frozenOf (unhide HR) 1⟩, ⟨cellOf (unhide HR) 2, frozenOf (unhide HR) 2⟩, cellOf (unhide HR) 3, frozenOf (unhide HR) 3⟩
    clear CS HE0 HE1 HE2
    go_wp2
    obtain ⟨⟨q0, q1, q2, q3⟩, hbel, hfar⟩ := fin4 (a := .slice none 0 0) (b := .slice none 0 0) (c := .bool false) (d := .slice none 0 0) (W := w) (unhide HR) (by omega) (unhide BW) rfl
    exact bodyPost_ret (v := .tuple #[.agg #[.slice none 0 0, .slice none 0 0, .bool false, .slice none 0 0], .bool false]) (by simp [results, Tryd.results14, go_sem, q0, q1, q2, q3]) rfl ⟨_, rfl, by rw [unhide HE]; exact ⟨_, _, _, [], [], rfl, ⟨PAns.nil _ _, World.ownsRow_nil _ _ _ _, PAns.nil _ _, fun g hg => by rcases hg with hg | ⟨e, he, _⟩; cases hg; cases he⟩, rfl, rfl⟩, hbel⟩
  obtain ⟨x0, x1, x2, x3⟩ : _ ∧ _ ∧ _ ∧ _ := ⟨cellOf (unhide HT) 0, cellOf (unhide HT) 1, cellOf (unhide HT) 2, cellOf (unhide HT) 3⟩
  go_wp2_with fail
  refine (unhide CS _ ((unhide H0).2.2.2.later (unhide BW))).mono ?_
  rintro e w2 ⟨rfl, b⟩
  replace HD := hide ((b.block _ (heapLt (unhide HD))).trans (unhide HD))
  replace HT := hide ((b.block _ (heapLt (unhide HT))).trans (unhide HT))
  replace HR := hide ((b.block _ (heapLt (unhide HR))).trans (unhide HR))
  replace BW := hide ((unhide BW).trans (b.mono (unhide BW).size))
  clear b
  clear x0 x1 x2 x3
  cases sok
  · have HE := hide (unhide HE1 (by trivial))
    obtain ⟨⟨x0, y0⟩, ⟨x1, y1⟩, ⟨x2, y2⟩, x3, y3⟩ : (_ ∧ _) ∧ (_ ∧ _) ∧ (_ ∧ _) ∧ _ ∧ _ := ⟨⟨cellOf (unhide HR) 0, frozenOf (unhide HR) 0⟩, ⟨cellOf (unhide HR) 1, frozenOf (unhide HR) 1⟩, ⟨cellOf (unhide HR) 2, frozenOf (unhide HR) 2⟩, cellOf (unhide HR) 3, frozenOf (unhide HR) 3⟩
    clear CS HE0 HE1 HE2
    go_wp2
    obtain ⟨⟨q0, q1, q2, q3⟩, hbel, hfar⟩ := fin4 (a := .slice none 0 0) (b := .slice none 0 0) (c := .bool false) (d := .slice none 0 0) (W := w) (unhide HR) (by omega) (unhide BW) rfl
    exact bodyPost_ret (v := .tuple #[.agg #[.slice none 0 0, .slice none 0 0, .bool false, .slice none 0 0], .bool false]) (by simp [results, Tryd.results14, go_sem, q0, q1, q2, q3]) rfl ⟨_, rfl, by rw [unhide HE]; exact ⟨_, _, _, [], [], rfl, ⟨PAns.nil _ _, World.ownsRow_nil _ _ _ _, PAns.nil _ _, fun g hg => by rcases hg with hg | ⟨e, he, _⟩; cases hg; cases he⟩, rfl, rfl⟩, hbel⟩
  obtain ⟨gf, g1, g2, _⟩ := unhide GD (by trivial)
  obtain ⟨hk, hp, _, g3⟩ := unhide GS (by trivial)
  have HLN := hide (And.intro (show db.length ≤ 1000 by have := Ix.pkgs_len (Ix.planOk_pkgs g1); omega) (And.intro (show jr.length ≤ 1000 by have := Ix.pkgs_len (Ix.planOk_pkgs g2); omega) (And.intro (show fl.length ≤ 1000 by have := (Dk.files_get gf).1; omega) (show ps.length ≤ 1000 by have := Ix.pkgs_len (Ix.planOk_pkgs g3); omega))))
  have HPB := hide (And.intro hp.1 (show p < (fl.length : Int) by have := (Dk.files_get gf).1; have := hp.2; omega))
  have HK := hide hk
  have HE := hide (unhide HE2 (by trivial) (by trivial))
  clear gf g1 g2 g3 hk hp GD GS CS HE0 HE1 HE2
  go_wp2_with fail
  refine wp_region_held_drew (S := fun w' => w'.cell? ⟨w.heap.size, 0, none⟩ = some (.slice a1 db.length c1) ∧ w'.cell? ⟨w.heap.size, 1, none⟩ = some (.slice af fl.length cf) ∧ w'.cell? ⟨w.heap.size, 2, none⟩ = some (.bool has) ∧ w'.cell? ⟨w.heap.size, 3, none⟩ = some (.slice a2 jr.length c2) ∧ w'.cell? ⟨w.heap.size + 1, 0, none⟩ = some (.int .i64 k) ∧ w'.cell? ⟨w.heap.size + 1, 1, none⟩ = some (.int .i64 p) ∧ w'.cell? ⟨w.heap.size + 1, 2, none⟩ = some (.int .i64 x) ∧ w'.cell? ⟨w.heap.size + 1, 3, none⟩ = some (.slice sa ps.length sc)) (by kernel_rfl) ⟨cellOf (unhide HD) 0, cellOf (unhide HD) 1, cellOf (unhide HD) 2, cellOf (unhide HD) 3, cellOf (unhide HT) 0, cellOf (unhide HT) 1, cellOf (unhide HT) 2, cellOf (unhide HT) 3⟩ (fun hHeld => ?_)
  refine anyH_at (i := 0) (d := some 15) rfl rfl (by kernel_rfl) (by kernel_rfl) (by kernel_rfl) (fun _ _ _ h => h) (by rfl) (v := ?_) ?_ (by assumption) ?_
  rotate_left
  · (intro w hSw; (try dsimp only at hSw); go_simp <;> with_reducible rfl)
  simp only [Act.put, List.setIfInBounds_toArray, List.set_cons_zero, List.set_cons_succ]
  refine anyH_at (i := 2) (d := some 17) rfl rfl (by kernel_rfl) (by kernel_rfl) (by kernel_rfl) (fun _ _ _ h => h) (by rfl) (v := ?_) ?_ (by assumption) ?_
  rotate_left
  · (intro w hSw; (try dsimp only at hSw); go_simp <;> with_reducible rfl)
  simp only [Act.put, List.setIfInBounds_toArray, List.set_cons_zero, List.set_cons_succ]
  refine wpAnyH_ready (rs := [1]) (by kernel_rfl) (by simp) ?_
  refine AllReadyH.cons rfl (fun K hK => ?_) AllReadyH.nil
  go_simp
  have b := below_drew w2
  replace HD := hide ((b.block _ (heapLt (unhide HD))).trans (unhide HD))
  replace HT := hide ((b.block _ (heapLt (unhide HT))).trans (unhide HT))
  replace HR := hide ((b.block _ (heapLt (unhide HR))).trans (unhide HR))
  replace BW := hide ((unhide BW).trans (b.mono (unhide BW).size))
  clear b
  refine (l21Copy_any _ ⟨db, fl, has, jr⟩ _ _ _ ((unhide H0).1.later (unhide BW)) ((unhide H0).2.1.later (unhide BW)) ((unhide H0).2.2.1.later (unhide BW)) (unhide HLN).1 (unhide HLN).2.1 (unhide HLN).2.2.1).mono ?_
  rintro e w3 ⟨u1, uf, u2, e1, e2, rfl, hA, hm1, hm2, b⟩
  have HL : Hid (w.heap.size + 1 + 1 < w2.drew.heap.size ∧ w.heap.size ≤ w2.drew.heap.size) := ⟨heapLt (unhide HR), (unhide BW).size⟩
  have HBS := hide b.size
  have HA := hide hA
  have HM1 := hide hm1
  have HM2 := hide hm2
  clear hA hm1 hm2
  replace HD := hide ((b.block _ (heapLt (unhide HD))).trans (unhide HD))
  replace HT := hide ((b.block _ (heapLt (unhide HT))).trans (unhide HT))
  replace HR := hide ((b.block _ (heapLt (unhide HR))).trans (unhide HR))
  replace BW := hide ((unhide BW).trans (b.mono (unhide BW).size))
  clear b
  generalize w2.drew.heap.size = B2 at *
  try go_wp2_with fail
  refine hK.out _ _ ?_ (fun hHeldN => ?_)
  · exact ⟨cellOf (unhide HD) 0, cellOf (unhide HD) 1, cellOf (unhide HD) 2, cellOf (unhide HD) 3, cellOf (unhide HT) 0, cellOf (unhide HT) 1, cellOf (unhide HT) 2, cellOf (unhide HT) 3⟩
  clear hHeld
  have hHeld := hHeldN
  clear hHeldN
  clear hK K
  try simp only [Act.put, List.setIfInBounds_toArray, List.set_cons_zero, List.set_cons_succ]
  refine wpAnyH_ready (rs := [3]) (by kernel_rfl) (by simp) ?_
  refine AllReadyH.cons rfl (fun K hK => ?_) AllReadyH.nil
  go_simp
  refine (l21Do_any (B := B2) _ has u1 uf u2 e1 e2 fl k p x sa sc ps (unhide HA) (unhide HBS) (((unhide H0).2.2.2.later (unhide BW)).weak (fun _ _ => trivial)) (unhide HLN).2.2.2 (unhide HK) (unhide HPB).1 (unhide HPB).2).mono ?_
  rintro e w6 ⟨v, rfl, hret, b⟩
  rw [unhide HM1, unhide HM2] at hret
  generalize Dk.D.step ⟨db, fl, has, jr⟩ ⟨k, p, x, ps⟩ = a at *
  obtain ⟨db', fl', has', jr'⟩ := a
  obtain ⟨q1, qf, q2, d1, d2, rfl, hA, hm1, hm2⟩ := hret
  dsimp only [dkV] at *
  obtain ⟨f1, g1, i1⟩ := own_formS hA.p1.own
  obtain ⟨ff, gf, iff'⟩ := own_formS hA.pf
  obtain ⟨f2, g2, i2⟩ := own_formS hA.p2.own
  subst i1 iff' i2
  replace HD := hide ((b.block _ (by have := unhide HL; omega)).trans (unhide HD))
  replace HT := hide ((b.block _ (by have := unhide HL; omega)).trans (unhide HT))
  replace HR := hide ((b.block _ (by have := unhide HL; omega)).trans (unhide HR))
  replace BW := hide ((unhide BW).trans (b.mono (by have := unhide HL; omega)))
  replace HA := hide hA
  have HM := hide (And.intro hm1 hm2)
  clear b hA hm1 hm2 HM1 HM2 HPB HK
  try go_wp2_with fail
  refine hK.out _ _ ?_ (fun hHeldN => ?_)
  · exact ⟨cellOf (unhide HD) 0, cellOf (unhide HD) 1, cellOf (unhide HD) 2, cellOf (unhide HD) 3, cellOf (unhide HT) 0, cellOf (unhide HT) 1, cellOf (unhide HT) 2, cellOf (unhide HT) 3⟩
  clear hHeld
  have hHeld := hHeldN
  clear hHeldN
  clear hK K
  try simp only [Act.put, List.setIfInBounds_toArray, List.set_cons_zero, List.set_cons_succ]
  obtain ⟨⟨x0, y0⟩, ⟨x1, y1⟩, ⟨x2, y2⟩, x3, y3⟩ : (_ ∧ _) ∧ (_ ∧ _) ∧ (_ ∧ _) ∧ _ ∧ _ := ⟨⟨cellOf (unhide HR) 0, frozenOf (unhide HR) 0⟩, ⟨cellOf (unhide HR) 1, frozenOf (unhide HR) 1⟩, ⟨cellOf (unhide HR) 2, frozenOf (unhide HR) 2⟩, cellOf (unhide HR) 3, frozenOf (unhide HR) 3⟩
  refine wpAnyH_ready (rs := [4]) (by kernel_rfl) (by simp) ?_
  refine AllReadyH.cons rfl (fun K hK => ?_) AllReadyH.nil
  go_simp
  clear x0 x1 x2 x3 y0 y1 y2 y3
  obtain ⟨⟨q0, q1, q2, q3⟩, hans, hbel⟩ := endC (w := w) (yes := true) (unhide HR) (by omega) (unhide BW) (unhide HL).1 (unhide HL).2 (has := has') (unhide HA) (unhide HM).1 (unhide HM).2 rfl
  have hfar : ∀ (j o : Nat) (u : Value), j ≠ w.heap.size + 1 + 1 → (((((w6.setCell ⟨w.heap.size + 1 + 1, 0, none⟩ (.slice f1 d1.length g1)).setCell ⟨w.heap.size + 1 + 1, 1, none⟩ (.slice ff fl'.length gf)).setCell ⟨w.heap.size + 1 + 1, 2, none⟩ (.bool has')).setCell ⟨w.heap.size + 1 + 1, 3, none⟩ (.slice f2 d2.length g2)).heap[j]? = w6.heap[j]?) := fun j o u hj => by rw [Below.heap_setCell _ _ _ _ hj, Below.heap_setCell _ _ _ _ hj, Below.heap_setCell _ _ _ _ hj, Below.heap_setCell _ _ _ _ hj]
  refine hK.out _ _ ?_ (fun hHeldN => ?_)
  · have h' := (hfar w.heap.size 0 .nilFunc (by omega)).trans (unhide HD)
    have h2 := (hfar (w.heap.size + 1) 0 .nilFunc (by omega)).trans (unhide HT)
    exact ⟨cellOf h' 0, cellOf h' 1, cellOf h' 2, cellOf h' 3, cellOf h2 0, cellOf h2 1, cellOf h2 2, cellOf h2 3⟩
  clear hHeld
  have hHeld := hHeldN
  clear hHeldN
  clear hK K
  try simp only [Act.put, List.setIfInBounds_toArray, List.set_cons_zero, List.set_cons_succ]
  refine anyH_at (i := 5) (d := some 5) rfl rfl (by kernel_rfl) (by kernel_rfl) (by kernel_rfl) (fun _ _ _ h => h) (by rfl) (v := ?_) ?_ (by assumption) ?_
  rotate_left
  · (intro w hSw; (try dsimp only at hSw); go_simp <;> with_reducible rfl)
  simp only [Act.put, List.setIfInBounds_toArray, List.set_cons_zero, List.set_cons_succ]
  refine wpAnyH_done (by kernel_rfl) ?_ _
  clear hHeld HD HT HR HA hfar
  go_wp2
  exact bodyPost_ret (v := .tuple #[.agg #[.slice f1 d1.length g1, .slice ff fl'.length gf, .bool has', .slice f2 d2.length g2], .bool true]) (by simp [results, Tryd.results14, go_sem, q0, q1, q2, q3]) rfl ⟨_, rfl, by rw [unhide HE]; exact hans, hbel⟩

end Go.Proofs.YtpjpgofllnnemaaDoor

/- What steps do to disks, as data: what is done is ok again; twice it is once; torn and then done it is done; at two places in either order. -/
namespace Go.Proofs.YtpjpgofllnnemaaDoor
namespace Dk
theorem planOk_nil : Ix.planOk [] = true := by decide +kernel
theorem filesOk_set {fl : List Int} {n : Nat} {x : Int} (h : filesOk fl = true) (hx : inF x = true) : filesOk (fl.set n x) = true := by
  unfold filesOk at *
  rw [Bool.and_eq_true] at *
  refine ⟨by rw [List.length_set]; exact h.1, ?_⟩
  rw [List.all_eq_true] at *
  intro y hy
  rcases List.mem_or_eq_of_mem_set hy with hy | rfl
  · exact h.2 y hy
  · exact hx
theorem ok_make {d : D} (h1 : filesOk d.fl = true) (h2 : Ix.planOk d.db = true) (h3 : Ix.planOk d.jr = true) (h4 : d.has = true ∨ d.jr = []) : d.ok = true := by
  unfold D.ok
  rw [h1, h2, h3]
  rcases h4 with h | h
  · rw [h]; rfl
  · rw [h]; simp
theorem inF_of {x : Int} (h : -2 ≤ x ∧ x ≤ 9) : inF x = true := Pk.inB_true.2 h
theorem ok_step {d : D} {s : S} (h : d.ok = true) (hs : s.ok = true) : (d.step s).ok = true := by
  obtain ⟨h1, h2, h3, h4⟩ := ok_get h
  obtain ⟨hk, hp, hx, hps⟩ := S.ok_get hs
  unfold D.step
  split
  · exact ok_make h1 h2 hps (.inl rfl)
  split
  · exact ok_make (filesOk_set h1 (inF_of ⟨by omega, hx.2⟩)) h2 h3 h4
  split
  · exact ok_make h1 hps h3 h4
  · exact ok_make h1 h2 planOk_nil (.inr rfl)
theorem ok_torn {d : D} {s : S} (h : d.ok = true) : (d.torn s).ok = true := by
  obtain ⟨h1, h2, h3, h4⟩ := ok_get h
  unfold D.torn
  split
  · exact ok_make (filesOk_set h1 (inF_of ⟨by omega, by omega⟩)) h2 h3 h4
  split
  · exact ok_make h1 planOk_nil h3 h4
  · exact h
theorem step_step (d : D) (s : S) : (d.step s).step s = d.step s := by
  unfold D.step
  split
  · rfl
  split
  · dsimp only; rw [List.set_set]
  split
  · rfl
  · rfl
theorem torn_step (d : D) (s : S) : (d.torn s).step s = d.step s := by
  unfold D.step D.torn
  by_cases h2 : s.k = 2
  · rw [if_pos h2, if_neg (by omega), if_pos h2, if_neg (by omega), if_pos h2]
    dsimp only
    rw [List.set_set]
  by_cases h3 : s.k = 3
  · rw [if_neg h2, if_pos h3, if_neg (by omega), if_neg h2, if_pos h3, if_neg (by omega), if_neg h2, if_pos h3]
  · rw [if_neg h2, if_neg h3]
theorem step_file (d : D) (s : S) (h : s.k = 2) : d.step s = { d with fl := d.fl.set s.p.toNat s.x } := by
  unfold D.step
  rw [if_neg (by omega), if_pos h]
theorem step_db (d : D) (s : S) (h : s.k = 3) : d.step s = { d with db := s.ps } := by
  unfold D.step
  rw [if_neg (by omega), if_neg (by omega), if_pos h]
theorem step_jour (d : D) (s : S) (h : s.k = 1) : d.step s = { d with has := true, jr := s.ps } := by
  unfold D.step
  rw [if_pos h]
theorem step_done (d : D) (s : S) (h : s.k = 4) : d.step s = { d with has := false, jr := [] } := by
  unfold D.step
  rw [if_neg (by omega), if_neg (by omega), if_neg (by omega)]
/-- A file at one place, and another at another place, or what else it be: in either order. -/
theorem step_order (d : D) (s t : S) (ht : t.k = 2) (h : s.k = 3 ∨ (s.k = 2 ∧ s.p.toNat ≠ t.p.toNat)) : (d.step s).step t = (d.step t).step s := by
  rcases h with h | ⟨h, hne⟩
  · rw [step_db d s h, step_file _ t ht, step_file d t ht, step_db _ s h]
  · rw [step_file d s h, step_file _ t ht, step_file d t ht, step_file _ s h]
    dsimp only
    rw [List.set_comm _ _ hne]
theorem step_twice (d : D) (s t : S) (hs : s.k = 2) (ht : t.k = 2) (h : s.p = t.p) : (d.step s).step t = d.step t := by
  rw [step_file d s hs, step_file _ t ht, step_file d t ht]
  dsimp only
  rw [h, List.set_set]
end Dk
end Go.Proofs.YtpjpgofllnnemaaDoor

/- impl.DiskDo, impl.DiskTear, spec.DiskDo, spec.DiskTear on a disk and a step that can be read: the answer can be read. -/
namespace Go.Proofs.YtpjpgofllnnemaaDoor
open Go.RowKit

def smallD (d : Dk.D) : Prop := smallP d.db ∧ d.fl.length ≤ 1000 ∧ smallP d.jr
theorem smallP.nil : smallP [] := ⟨Nat.zero_le _, fun _ h => by cases h⟩
theorem smallD.none : smallD Dk.D.none := ⟨smallP.nil, Nat.zero_le _, smallP.nil⟩
theorem smallD.ofOk {d : Dk.D} (h : d.ok = true) : smallD d := by
  obtain ⟨gf, h1, h2, _⟩ := Dk.ok_get h
  exact ⟨smallP.ofOk (Ix.planOk_pkgs h1), by have := (Dk.files_get gf).1; omega, smallP.ofOk (Ix.planOk_pkgs h2)⟩
theorem doA_small (d : Dk.D) (s : Dk.S) : smallD (Dk.doA d s).1 := by
  unfold Dk.doA
  by_cases h : d.ok = true ∧ s.ok = true
  · rw [if_pos h]; exact smallD.ofOk (Dk.ok_step h.1 h.2)
  · rw [if_neg h]; exact smallD.none
theorem tearA_small (d : Dk.D) (s : Dk.S) : smallD (Dk.tearA d s).1 := by
  unfold Dk.tearA
  by_cases h : d.ok = true ∧ s.ok = true
  · rw [if_pos h]; exact smallD.ofOk (Dk.ok_torn h.1)
  · rw [if_neg h]; exact smallD.none
theorem PAns.out {B : Nat} {w : World} {v : Value} {l : List El} {ps : List Ix.Pg} (h : PAns B w v l) (hm : l.map (·.1) = ps) (hs : smallP ps) : Pks (fun b => B ≤ b) w v ps ∧ RoomV v ps.length := by
  have he := hs.E hm
  have hp := h.pks he.1 he.2
  have hr := h.room
  have hl : l.length = ps.length := by rw [← hm, List.length_map]
  rw [hm] at hp
  rw [hl] at hr
  exact ⟨hp, hr⟩
theorem DkAns.out {B : Nat} {w : World} {a : Dk.D × Bool} {u : Value} (h : DkAns B w a u) (hs : smallD a.1) : ∃ q1 qf q2, u = .tuple #[dkV q1 qf a.1.has q2, .bool a.2] ∧ DIn w a.1 q1 qf q2 := by
  obtain ⟨v1, vf, v2, e1, e2, rfl, hA, m1, m2⟩ := h
  obtain ⟨p1, r1⟩ := hA.p1.out m1 hs.1
  obtain ⟨p2, r2⟩ := hA.p2.out m2 hs.2.2
  exact ⟨v1, vf, v2, rfl, p1.weak (fun _ _ => trivial), r1, hA.pf.wide (by have := hs.2.1; omega), p2.weak (fun _ _ => trivial), r2⟩
theorem implDo_in (w : World) (d : Dk.D) (s : Dk.S) (v1 uf v2 pv : Value) (hd : DIn w d v1 uf v2) (hs : SIn w s pv) : Calls Tryd.prog 15 #[dkV v1 uf d.has v2, stV s.k s.p s.x pv] w fun e w' => ∃ q1 qf q2, e = .returned (.tuple #[dkV q1 qf (Dk.doA d s).1.has q2, .bool (Dk.doA d s).2]) ∧ DIn w' (Dk.doA d s).1 q1 qf q2 ∧ Below w.heap.size w w' :=
  (implDiskDo_any w d s v1 uf v2 pv hd.p1 hd.r1 hd.pf hd.p2 hd.r2 hs.p hs.r).mono (by
    rintro e w' ⟨u, rfl, h, b⟩
    obtain ⟨q1, qf, q2, rfl, h9⟩ := h.out (doA_small d s)
    exact ⟨q1, qf, q2, rfl, h9, b⟩)
theorem specDo_in (w : World) (d : Dk.D) (s : Dk.S) (v1 uf v2 pv : Value) (hd : DIn w d v1 uf v2) (hs : SIn w s pv) : Calls Tryd.prog 14 #[dkV v1 uf d.has v2, stV s.k s.p s.x pv] w fun e w' => ∃ q1 qf q2, e = .returned (.tuple #[dkV q1 qf (Dk.doA d s).1.has q2, .bool (Dk.doA d s).2]) ∧ DIn w' (Dk.doA d s).1 q1 qf q2 ∧ Below w.heap.size w w' :=
  (specDiskDo_any w d s v1 uf v2 pv hd.p1 hd.pf hd.p2 hs.p).mono (by
    rintro e w' ⟨u, rfl, h, b⟩
    obtain ⟨q1, qf, q2, rfl, h9⟩ := h.out (doA_small d s)
    exact ⟨q1, qf, q2, rfl, h9, b⟩)
theorem luDisk_in (w : World) (d : Dk.D) (v1 vf v2 u1 uf u2 : Value) (h : DIn w d v1 vf v2) (k : DIn w d u1 uf u2) :
    Calls Tryd.prog 16 #[dkV v1 vf d.has v2, dkV u1 uf d.has u2] w fun e w' => e = .returned (.bool true) ∧ Below w.heap.size w w' :=
  luDisk_same w d v1 vf v2 u1 uf u2 h.p1 h.pf h.p2 k.p1 k.pf k.p2
theorem DIn.forms {w : World} {d : Dk.D} {v1 uf v2 : Value} (h : DIn w d v1 uf v2) : ∃ a1 c1 af cf a2 c2, v1 = .slice a1 d.db.length c1 ∧ uf = .slice af d.fl.length cf ∧ v2 = .slice a2 d.jr.length c2 := by
  obtain ⟨a1, c1, i1⟩ := h.p1.slice
  obtain ⟨af, cf, i2⟩ := h.pf.slice
  obtain ⟨a2, c2, i3⟩ := h.p2.slice
  exact ⟨a1, c1, af, cf, a2, c2, i1, i2, i3⟩
theorem doA_no {d : Dk.D} {s : Dk.S} (h : ¬ (d.ok = true ∧ s.ok = true)) : Dk.doA d s = (⟨[], [], false, []⟩, false) := by unfold Dk.doA; rw [if_neg h]; rfl
theorem doA_yes {d : Dk.D} {s : Dk.S} (h : d.ok = true) (h' : s.ok = true) : Dk.doA d s = (d.step s, true) := by unfold Dk.doA; rw [if_pos ⟨h, h'⟩]
theorem tearA_no {d : Dk.D} {s : Dk.S} (h : ¬ (d.ok = true ∧ s.ok = true)) : Dk.tearA d s = (⟨[], [], false, []⟩, false) := by unfold Dk.tearA; rw [if_neg h]; rfl
theorem tearA_yes {d : Dk.D} {s : Dk.S} (h : d.ok = true) (h' : s.ok = true) : Dk.tearA d s = (d.torn s, true) := by unfold Dk.tearA; rw [if_pos ⟨h, h'⟩]
end Go.Proofs.YtpjpgofllnnemaaDoor
