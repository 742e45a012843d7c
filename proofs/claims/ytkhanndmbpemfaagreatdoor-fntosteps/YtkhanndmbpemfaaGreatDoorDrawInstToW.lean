import Derived.Test.YtkhanndmbpemfaaGreatDoorMix28
/- spec.DrawInstTo: a disk, a row of steps, a cut and whether it is torn. -/
namespace Go.Proofs.YtkhanndmbpemfaaGreatDoor
open Go.RowKit

attribute [local go_sem ↓] Go.wp_at_zero Go.wp_at_succ

theorem quo9 {v : Int} (h0 : 0 ≤ v) (h1 : v < 24) : ∃ q : Int, IntKind.i64.wrap (v.tdiv 23) = q ∧ 0 ≤ q ∧ q ≤ 1 := by
  have e : v.tdiv 23 = v / 23 := Int.tdiv_eq_ediv_of_nonneg h0
  rw [e]
  exact ⟨v / 23, by simp [IntKind.wrap, IntKind.bits, IntKind.signed]; omega, by omega, by omega⟩
/-- A disk that was drawn, all of it among the blocks below Z, and the reader. -/
structure Dz (B : Nat) (W : World) (blk : Nat) (w : World) (p X Z : Nat) (D : Dk.D) (v1 uf v2 : Value) : Prop where
  dr : Dr B W blk w p
  hX : w.heap[X]? = some (.cells #[v1, uf, .bool D.has, v2] 31 (0, 0))
  lX : W.heap.size ≤ X ∧ X < Z
  lZ : Z ≤ w.heap.size
  p1 : Pks (fun b => W.heap.size ≤ b ∧ b < Z) w v1 D.db
  r1 : RoomV v1 D.db.length
  pf : InsN (fun b => W.heap.size ≤ b ∧ b < Z) w uf D.fl
  p2 : Pks (fun b => W.heap.size ≤ b ∧ b < Z) w v2 D.jr
  r2 : RoomV v2 D.jr.length
section
variable {B : Nat} {W w w' : World} {blk p p' X Z : Nat} {uf v1 v2 : Value} {D : Dk.D}
theorem Dq.z (h : Dq B W blk w p X uf D v1 v2) : Dz B W blk w p X w.heap.size D v1 uf v2 :=
  ⟨h.dr, h.hX, ⟨h.lX, heapLt h.hX⟩, Nat.le_refl _, h.p1.bound.weak (fun _ hb => ⟨hb.1.1, hb.2⟩), h.r1, h.pf.bound.weak (fun _ hb => ⟨hb.1.1, hb.2⟩), h.p2.bound.weak (fun _ hb => ⟨hb.1.1, hb.2⟩), h.r2⟩
theorem Dz.kpd (h : Dz B W blk w p X Z D v1 uf v2) (hs : w.heap.size ≤ w'.heap.size) (hk : ∀ k, W.heap.size ≤ k → k < Z → w'.heap[k]? = w.heap[k]?) (hd : Dr B W blk w' p') : Dz B W blk w' p' X Z D v1 uf v2 :=
  ⟨hd, (hk X h.lX.1 h.lX.2).trans h.hX, h.lX, Nat.le_trans h.lZ hs, h.p1.keep hs (fun k _ hN => hk k hN.1 hN.2), h.r1, h.pf.keep hs (fun k _ hN => hk k hN.1 hN.2), h.p2.keep hs (fun k _ hN => hk k hN.1 hN.2), h.r2⟩
theorem Dz.keep (h : Dz B W blk w p X Z D v1 uf v2) (hk : Kp w.heap.size blk w w') (hr : Rd B w' blk p') : Dz B W blk w' p' X Z D v1 uf v2 := by
  have hlt := h.dr.lt
  have hz := h.lZ
  exact h.kpd hk.size (fun k h1 h2 => hk.block k (by omega) (by omega)) (h.dr.keep hk hr)
theorem Dz.later (h : Dz B W blk w p X Z D v1 uf v2) (b : Below w.heap.size w w') : Dz B W blk w' p X Z D v1 uf v2 := by
  have hz := h.lZ
  exact h.kpd b.size (fun k _ h2 => b.block k (by omega)) (h.dr.later b)
theorem Dz.cells (h : Dz B W blk w p X Z D v1 uf v2) : w.cell? ⟨X, 0, none⟩ = some v1 ∧ w.cell? ⟨X, 1, none⟩ = some uf ∧ w.cell? ⟨X, 2, none⟩ = some (.bool D.has) ∧ w.cell? ⟨X, 3, none⟩ = some v2 :=
  ⟨cellOf h.hX 0, cellOf h.hX 1, cellOf h.hX 2, cellOf h.hX 3⟩
theorem Dz.old {R : Nat} {ob : Obj} (h : Dz B W blk w p X Z D v1 uf v2) (hR : W.heap[R]? = some ob) (hne : R ≠ blk) : w.heap[R]? = some ob := (h.dr.kp.block R (heapLt hR) hne).trans hR
theorem Dz.din (h : Dz B W blk w p X Z D v1 uf v2) (hs : w.heap.size ≤ w'.heap.size) (hk : ∀ k, W.heap.size ≤ k → w'.heap[k]? = w.heap[k]?) : DIn w' D v1 uf v2 :=
  ⟨(h.p1.keep hs (fun k _ hN => hk k hN.1)).weak (fun _ _ => trivial), h.r1, (h.pf.keep hs (fun k _ hN => hk k hN.1)).ins, (h.p2.keep hs (fun k _ hN => hk k hN.1)).weak (fun _ _ => trivial), h.r2⟩
theorem Dz.below {w0 : World} (h : Dz B W blk w p X Z D v1 uf v2) (hb : Below w0.heap.size w0 W) (hblk : w0.heap.size ≤ blk) : Below w0.heap.size w0 w := hb.trans ((h.dr.kp.mono hb.size).below hblk)
/-- A row behind it has grown. -/
theorem Dz.grown {n : Nat} {v : Value} {xs : List Value} {R : Nat} (h : Dz B W blk w p X Z D v1 uf v2) (ho : w.ownsRow R 47 4 v n xs) (hv : ∀ g, v.ownBlock = some g → Z ≤ g) (hg : w.grownBy w' v.ownBlock) : Dz B W blk w' p X Z D v1 uf v2 := by
  have hz := h.lZ
  have hlX := h.lX
  have ho' : w.ownsRow W.heap.size 47 4 v n xs := by
    refine ⟨ho.1, ?_⟩
    rcases ho.2 with hn | ⟨g, cap, cur, rfl, hb1, rest⟩
    · exact .inl hn
    · exact .inr ⟨g, cap, cur, rfl, by have := hv g rfl; omega, rest⟩
  exact h.kpd hg.size (fun k _ h2 => hg.block k (by omega) (fun e => by have := hv k e.symm; omega)) (h.dr.grown ho' hg)
end

set_option linter.unusedSimpArgs false in
set_option maxHeartbeats 8000000 in
set_option maxRecDepth 100000 in
theorem drawInstTo_any (w : World) (a : Option Addr) (len cap : Nat) (h : Bytes w a len cap) :
    Calls Tryz.prog 17 #[.slice a len cap] w fun e w' => ∃ (D : Dk.D) (v1 uf v2 v : Value) (l : List Dk.S) (cut : Int) (torn : Bool), e = .returned (.tuple #[dkV v1 uf D.has v2, v, .int .i64 cut, .bool torn]) ∧ DIn w' D v1 uf v2 ∧ StsR (fun _ => True) w' v l ∧ l.length ≤ 10 ∧ -9 ≤ cut ∧ cut ≤ 20 ∧ Below w.heap.size w w' := by
  have b0 := below1 w (.cells #[.slice none 0 0, .slice none 0 0, .bool false, .slice none 0 0] 31)
  have CO := hide (open_any _ a len cap (h.later b0))
  have HR := hide (heap_alloc_new w (.cells #[.slice none 0 0, .slice none 0 0, .bool false, .slice none 0 0] 31))
  have hzz := sz1 w (.cells #[.slice none 0 0, .slice none 0 0, .bool false, .slice none 0 0] 31)
  have BW := hide b0
  clear h b0
  obtain ⟨i0, hI0, hz0, hz1, hz2⟩ := info_parts infoStep
  go_enter Tryz.func17, Tryz.ntmps17
  go_wp2_with fail
  refine (unhide CO).mono ?_
  generalize World.alloc _ _ = W0 at *
  rintro e w1 ⟨rfl, hr1, b1⟩
  have HR1 := hide ((b1.block _ (heapLt (unhide HR))).trans (unhide HR))
  have B1 := hide ((unhide BW).trans (b1.mono (unhide BW).size))
  have HRD := hide hr1
  have hs1 := hr1.lt
  have hblk : W0.heap.size = w.heap.size + 1 := hzz
  clear b1 hr1 CO HR BW hzz
  generalize W0.heap.size = blk at *
  clear W0
  subst hblk
  go_wp2_with fail
  refine (l71Disk_any _ (w.heap.size + 1) 0 (unhide HRD) (by omega) (by omega)).mono ?_
  rintro e w2 ⟨D, v1, uf, v2, pv, ps, q2, rfl, hout, hP, hrm, hpo, hq2, hr2, hk2⟩
  obtain ⟨db, fl, has, jr⟩ := D
  obtain ⟨f1, g1, i1⟩ := hout.p1.slice
  obtain ⟨af, cf, iff', hcf, hl1000, hrf⟩ := hout.pf
  obtain ⟨f2, g2, i2⟩ := hout.p2.slice
  obtain ⟨pa, pc, ipv⟩ := hP.slice
  dsimp only at i1 iff' i2 hcf hl1000
  subst i1 iff' i2 ipv
  have TD := hide (Dq.of ((Dr.start (unhide HRD) (by omega)).keep hk2 hr2) hout)
  have HP := hide ((hP.later (below1 w2 (.cells #[.slice f1 db.length g1, .slice af fl.length cf, .bool has, .slice f2 jr.length g2] 31))).weak (fun b hb => (by have := hb.1; omega : w.heap.size + 1 < b)))
  have HPR := hide hrm
  have HPO := hide (Ix.planOk_pkgs hpo)
  clear hout hr2 hk2 hrf hP hrm hpo
  dsimp only [dkV] at *
  go_wp2_with fail
  have bS := below1 (w2.alloc (.cells #[.slice f1 db.length g1, .slice af fl.length cf, .bool has, .slice f2 jr.length g2] 31)) (.cells #[] 47)
  have hS0 := SOx.empty (w2.alloc (.cells #[.slice f1 db.length g1, .slice af fl.length cf, .bool has, .slice f2 jr.length g2] 31))
  have hy2 := sz1 w2 (.cells #[.slice f1 db.length g1, .slice af fl.length cf, .bool has, .slice f2 jr.length g2] 31)
  have hTZ := (unhide TD).z
  rw [hy2] at hS0 hTZ
  have hsz2 : w.heap.size + 2 ≤ w2.heap.size + 1 := by have := hTZ.lX; omega
  have HS := hide (hS0.base hsz2)
  replace HP := hide (((unhide HP).bound.later bS).weak (N' := fun b => w.heap.size + 2 ≤ b ∧ b < w2.heap.size + 1) (fun b hb => ⟨by have := hb.1; omega, by have := hb.2; rw [hy2] at this; exact this⟩))
  have TZ := hide (hTZ.later bS)
  clear bS hS0 hy2 TD hTZ
  refine (specDiskOk_any _ ⟨db, fl, has, jr⟩ _ _ _ (unhide TZ).p1 (unhide TZ).pf.ins (unhide TZ).p2).mono ?_
  rintro e w3 ⟨rfl, b3⟩
  replace HS := hide ((unhide HS).later b3)
  replace HP := hide ((unhide HP).later b3)
  replace TZ := hide ((unhide TZ).later b3)
  have hz3 : w2.heap.size + 2 ≤ w3.heap.size := by have := b3.size; rw [sz1, sz1] at this; omega
  clear b3
  have GD := hide (fun h => Dk.ok_get (d := ⟨db, fl, has, jr⟩) h)
  generalize Dk.D.ok _ = dok at *
  cases dok
  · go_wp2_with fail
    have HV : Hid (∀ g, (Value.slice (some ⟨w2.heap.size + 1, 0, none⟩) 0 0).ownBlock = some g → w2.heap.size + 1 ≤ g) := fun g e => by have e' : w2.heap.size + 1 = g := Option.some.inj e; omega
    refine (pick_any _ (w.heap.size + 1) q2 8 (by exact (unhide TZ).dr.rd) (by omega) (by omega) (by omega)).mono ?_
    rintro e w5 ⟨v5, rfl, v50, v51, hr5, hk5⟩
    replace HS := hide ((unhide HS).kp hk5 (by omega))
    replace HP := hide ((unhide HP).keep hk5.size (fun k hk1 hN => hk5.block k hk1 (by omega)))
    replace TZ := hide ((unhide TZ).keep hk5 hr5)
    clear hr5 hk5
    by_cases h5 : v5 = 0
    · subst h5
      go_wp2_with fail
      refine (l71Step_any _ (w.heap.size + 1) (q2 + 1) pa pc ps (by exact (unhide TZ).dr.rd) (Nat.le_trans (by omega) (unhide TZ).dr.size) (by omega)).mono ?_
      rintro e w6 ⟨s, tv, q6, rfl, hsv, hq6, hr6, hk6⟩
      obtain ⟨sk, sp, sx, sps⟩ := s
      try dsimp only at hsv
      replace HS := hide ((unhide HS).kp hk6 (by omega))
      replace HP := hide ((unhide HP).keep hk6.size (fun k hk1 hN => hk6.block k hk1 (by omega)))
      replace TZ := hide ((unhide TZ).keep hk6 hr6)
      clear hr6 hk6
      have hSI : Pks (fun b => w.heap.size + 2 ≤ b ∧ b < w2.heap.size + 1) w6 tv sps ∧ RoomV tv sps.length := by
        rcases hsv with ⟨rfl, e⟩ | ⟨rfl, e⟩
        · subst e
          exact ⟨pks_nil _ _ _, fun _ _ _ => Nat.zero_le _⟩
        · subst e
          exact ⟨unhide HP, unhide HPR⟩
      obtain ⟨ta, tc, itv⟩ := hSI.1.slice
      try dsimp only at itv
      subst itv
      have hz6 : w2.heap.size + 1 ≤ w6.heap.size := (unhide TZ).lZ
      have hbX := below1 w6 (.cells #[.int .i64 sk, .int .i64 sp, .int .i64 sx, .slice ta sps.length tc] 47)
      have HS6 := hide ((unhide HS).later hbX)
      have HT6 := hide (hSI.1.later hbX)
      have HTR := hide hSI.2
      replace TZ := hide ((unhide TZ).later hbX)
      clear HS HP hsv hSI hbX
      try dsimp only [stV]
      go_wp2_with (at_builtin; refine wpList_append_lies _ rfl _ _ _ rfl (w.heap.size + 2) 47 i0 _ 4 48 Tryz.underlying35 hI0 hz0 hz1 hz2 rfl (by omega) (.slice (some ⟨w2.heap.size + 1, 0, none⟩) 0 0) (0) (flatS ([] : List SEl)) rfl (unhide HS6).own ⟨w6.heap.size, 0, none⟩ 1 1 [.int .i64 sk, .int .i64 sp, .int .i64 sx, .slice ta sps.length tc] rfl rfl (World.news_of_block (cs := #[.int .i64 sk, .int .i64 sp, .int .i64 sx, .slice ta sps.length tc]) (t := 47) (fr := (0, 0)) (heap_alloc_new _ _)) (by simp [Value.oneCell']) (by omega) (by unfold maxLen; omega) (by omega) (by rw [sz1']; omega) (w6.heap.size + 1) (by rw [sz1']) ?_; intro gg gcap w7 hown hgrow hat hlt7)
      have HS := hide (SOx.app (e := (⟨sk, sp, sx, sps⟩, .slice ta sps.length tc, [])) (unhide HS6) hgrow hown (hat.imp id (fun e => by rw [sz1']; omega)) ((unhide HT6).weak (fun b hb => ⟨hb.1, fun e => by have := unhide HV b e; have := hb.2; omega⟩)) (unhide HTR))
      replace TZ := hide ((unhide TZ).grown (unhide HS6).own (unhide HV) hgrow)
      clear HS6 HT6 HTR HV hown hgrow hat hlt7 hz6
      have hbd := below_drew w7
      replace TZ := hide ((unhide TZ).later hbd)
      replace HS := hide ((unhide HS).later hbd)
      clear hbd
      go_wp2_with fail
      refine wp_region_held_drew (S := fun w' => w'.cell? ⟨w2.heap.size, 0, none⟩ = some (.slice f1 db.length g1) ∧ w'.cell? ⟨w2.heap.size, 1, none⟩ = some (.slice af fl.length cf) ∧ w'.cell? ⟨w2.heap.size, 2, none⟩ = some (.bool has) ∧ w'.cell? ⟨w2.heap.size, 3, none⟩ = some (.slice f2 jr.length g2)) (by kernel_rfl) (unhide TZ).cells (fun hHeld => ?_)
      refine anyH_at (i := 0) (d := some 32) rfl rfl (by kernel_rfl) (by kernel_rfl) (by kernel_rfl) (fun _ _ _ h => h) (by rfl) (v := ?_) ?_ (by assumption) ?_
      rotate_left
      · (intro w hSw; (try dsimp only at hSw); go_simp <;> with_reducible rfl)
      simp only [Act.put, List.setIfInBounds_toArray, List.set_cons_zero, List.set_cons_succ]
      refine anyH_at (i := 1) (d := some 33) rfl rfl (by kernel_rfl) (by kernel_rfl) (by kernel_rfl) (fun _ _ _ h => h) (by rfl) (v := ?_) ?_ (by assumption) ?_
      rotate_left
      · (intro w hSw; (try dsimp only at hSw); go_simp <;> with_reducible rfl)
      simp only [Act.put, List.setIfInBounds_toArray, List.set_cons_zero, List.set_cons_succ]
      refine anyH_at (i := 2) (d := some 34) rfl rfl (by kernel_rfl) (by kernel_rfl) (by kernel_rfl) (fun _ _ _ h => h) (by rfl) (v := ?_) ?_ (by assumption) ?_
      rotate_left
      · (intro w hSw; (try dsimp only at hSw); go_simp <;> with_reducible rfl)
      simp only [Act.put, List.setIfInBounds_toArray, List.set_cons_zero, List.set_cons_succ]
      refine anyH_at (i := 3) (d := some 35) rfl rfl (by kernel_rfl) (by kernel_rfl) (by kernel_rfl) (fun _ _ _ h => h) (by rfl) (v := ?_) ?_ (by assumption) ?_
      rotate_left
      · (intro w hSw; (try dsimp only at hSw); go_simp <;> with_reducible rfl)
      simp only [Act.put, List.setIfInBounds_toArray, List.set_cons_zero, List.set_cons_succ]
      refine anyH_at (i := 4) (d := some 36) rfl rfl (by kernel_rfl) (by kernel_rfl) (by kernel_rfl) (fun _ _ _ h => h) (by rfl) (v := ?_) ?_ (by assumption) ?_
      rotate_left
      · (intro w hSw; (try dsimp only at hSw); go_simp <;> with_reducible rfl)
      simp only [Act.put, List.setIfInBounds_toArray, List.set_cons_zero, List.set_cons_succ]
      refine anyH_at (i := 5) (d := some 37) rfl rfl (by kernel_rfl) (by kernel_rfl) (by kernel_rfl) (fun _ _ _ h => h) (by rfl) (v := ?_) ?_ (by assumption) ?_
      rotate_left
      · (intro w hSw; (try dsimp only at hSw); go_simp <;> with_reducible rfl)
      simp only [Act.put, List.setIfInBounds_toArray, List.set_cons_zero, List.set_cons_succ]
      refine anyH_at (i := 7) (d := some 39) rfl rfl (by kernel_rfl) (by kernel_rfl) (by kernel_rfl) (fun _ _ _ h => h) (by rfl) (v := ?_) ?_ (by assumption) ?_
      rotate_left
      · (intro w hSw; (try dsimp only at hSw); go_simp <;> with_reducible rfl)
      simp only [Act.put, List.setIfInBounds_toArray, List.set_cons_zero, List.set_cons_succ]
      refine anyH_at (i := 12) (d := some 44) rfl rfl (by kernel_rfl) (by kernel_rfl) (by kernel_rfl) (fun _ _ _ h => h) (by rfl) (v := ?_) ?_ (by assumption) ?_
      rotate_left
      · (intro w hSw; (try dsimp only at hSw); go_simp <;> with_reducible rfl)
      simp only [Act.put, List.setIfInBounds_toArray, List.set_cons_zero, List.set_cons_succ]
      refine wpAnyH_ready (rs := [6]) (by kernel_rfl) (by simp) ?_
      refine AllReadyH.cons rfl (fun K hK => ?_) AllReadyH.nil
      go_simp
      refine (pick_any _ (w.heap.size + 1) (q6) (3) (by exact (unhide TZ).dr.rd) (by omega) (by omega) (by omega)).mono ?_
      rintro e wr1 ⟨y1, rfl, y10, y11, hr1, hk1⟩
      replace HS := hide ((unhide HS).kp hk1 (by omega))
      replace TZ := hide ((unhide TZ).keep hk1 hr1)
      clear hr1 hk1
      go_wp2_with fail
      refine hK.out _ _ ?_ (fun hHeldN => ?_)
      · exact (unhide TZ).cells
      clear hHeld
      have hHeld := hHeldN
      clear hHeldN
      clear hK K
      try simp only [Act.put, List.setIfInBounds_toArray, List.set_cons_zero, List.set_cons_succ]
      refine wpAnyH_ready (rs := [8]) (by kernel_rfl) (by simp) ?_
      refine AllReadyH.cons rfl (fun K hK => ?_) AllReadyH.nil
      go_simp
      refine (pick_any _ (w.heap.size + 1) (q6 + 1) (24) (by exact (unhide TZ).dr.rd) (by omega) (by omega) (by omega)).mono ?_
      rintro e wr2 ⟨y2, rfl, y20, y21, hr2, hk2⟩
      replace HS := hide ((unhide HS).kp hk2 (by omega))
      replace TZ := hide ((unhide TZ).keep hk2 hr2)
      clear hr2 hk2
      go_wp2_with fail
      refine hK.out _ _ ?_ (fun hHeldN => ?_)
      · exact (unhide TZ).cells
      clear hHeld
      have hHeld := hHeldN
      clear hHeldN
      clear hK K
      try simp only [Act.put, List.setIfInBounds_toArray, List.set_cons_zero, List.set_cons_succ]
      refine anyH_at (i := 9) (d := some 41) rfl rfl (by kernel_rfl) (by kernel_rfl) (by kernel_rfl) (fun _ _ _ h => h) (by rfl) (v := ?_) ?_ (by assumption) ?_
      rotate_left
      · (intro w hSw; (try dsimp only at hSw); go_simp <;> with_reducible rfl)
      simp only [Act.put, List.setIfInBounds_toArray, List.set_cons_zero, List.set_cons_succ]
      refine anyH_at (i := 10) (d := some 42) rfl rfl (by kernel_rfl) (by kernel_rfl) (by kernel_rfl) (fun _ _ _ h => h) (by rfl) (v := ?_) ?_ (by assumption) ?_
      rotate_left
      · (intro w hSw; (try dsimp only at hSw); go_simp <;> with_reducible rfl)
      simp only [Act.put, List.setIfInBounds_toArray, List.set_cons_zero, List.set_cons_succ]
      refine anyH_at (i := 11) (d := some 43) rfl rfl (by kernel_rfl) (by kernel_rfl) (by kernel_rfl) (fun _ _ _ h => h) (by rfl) (v := ?_) ?_ (by assumption) ?_
      rotate_left
      · (intro w hSw; (try dsimp only at hSw); go_simp <;> with_reducible rfl)
      simp only [Act.put, List.setIfInBounds_toArray, List.set_cons_zero, List.set_cons_succ]
      refine wpAnyH_ready (rs := [13]) (by kernel_rfl) (by simp) ?_
      refine AllReadyH.cons rfl (fun K hK => ?_) AllReadyH.nil
      go_simp
      refine (pick_any _ (w.heap.size + 1) (q6 + 1 + 1) (2) (by exact (unhide TZ).dr.rd) (by omega) (by omega) (by omega)).mono ?_
      rintro e wr3 ⟨y3, rfl, y30, y31, hr3, hk3⟩
      replace HS := hide ((unhide HS).kp hk3 (by omega))
      replace TZ := hide ((unhide TZ).keep hk3 hr3)
      clear hr3 hk3
      go_wp2_with fail
      refine hK.out _ _ ?_ (fun hHeldN => ?_)
      · exact (unhide TZ).cells
      have hR5 := (unhide TZ).old (unhide HR1) (by omega)
      have hb5 := (unhide TZ).below (unhide B1) (by omega)
      obtain ⟨⟨r0, j0⟩, ⟨r1, j1⟩, ⟨r2, j2⟩, r3, j3⟩ : (_ ∧ _) ∧ (_ ∧ _) ∧ (_ ∧ _) ∧ _ ∧ _ := ⟨⟨cellOf hR5 0, frozenOf hR5 0⟩, ⟨cellOf hR5 1, frozenOf hR5 1⟩, ⟨cellOf hR5 2, frozenOf hR5 2⟩, cellOf hR5 3, frozenOf hR5 3⟩
      have HR5 := hide hR5
      have HB5 := hide hb5
      clear hR5 hb5
      clear hHeld
      have hHeld := hHeldN
      clear hHeldN
      clear hK K
      try simp only [Act.put, List.setIfInBounds_toArray, List.set_cons_zero, List.set_cons_succ]
      refine anyH_at (i := 14) (d := some 46) rfl rfl (by kernel_rfl) (by kernel_rfl) (by kernel_rfl) (fun _ _ _ h => h) (by rfl) (v := ?_) ?_ (by assumption) ?_
      rotate_left
      · (intro w hSw; (try dsimp only at hSw); go_simp <;> with_reducible rfl)
      simp only [Act.put, List.setIfInBounds_toArray, List.set_cons_zero, List.set_cons_succ]
      refine wpAnyH_ready (rs := [15]) (by kernel_rfl) (by simp) ?_
      refine AllReadyH.cons rfl (fun K hK => ?_) AllReadyH.nil
      go_simp
      have HF := hide (fin4 (a := .slice f1 db.length g1) (b := .slice af fl.length cf) (c := .bool has) (d := .slice f2 jr.length g2) (W := w) (unhide HR5) (Nat.le_refl _) (unhide HB5) rfl)
      have hsz : Hid (wr3.heap.size ≤ ((((wr3.setCell ⟨w.heap.size, 0, none⟩ (.slice f1 db.length g1)).setCell ⟨w.heap.size, 1, none⟩ (.slice af fl.length cf)).setCell ⟨w.heap.size, 2, none⟩ (.bool has)).setCell ⟨w.heap.size, 3, none⟩ (.slice f2 jr.length g2)).heap.size) := by show _ ≤ _; simp [World.setCell]
      clear r0 r1 r2 r3 j0 j1 j2 j3
      generalize World.setCell _ _ _ = W6 at *
      obtain ⟨⟨q0, q1, q2', q3⟩, hbel, hfar⟩ := unhide HF
      have hX6 : W6.cell? ⟨w2.heap.size, 0, none⟩ = some (.slice f1 db.length g1) ∧ W6.cell? ⟨w2.heap.size, 1, none⟩ = some (.slice af fl.length cf) ∧ W6.cell? ⟨w2.heap.size, 2, none⟩ = some (.bool has) ∧ W6.cell? ⟨w2.heap.size, 3, none⟩ = some (.slice f2 jr.length g2) := by
        have e : ∀ o, W6.cell? ⟨w2.heap.size, o, none⟩ = wr3.cell? ⟨w2.heap.size, o, none⟩ := fun o => World.cell?_of_block (hfar w2.heap.size (by omega))
        rw [e, e, e, e]
        exact (unhide TZ).cells
      have hD6 := (unhide TZ).din (unhide hsz) (fun k hk => hfar k (by omega))
      have hS6 := (((unhide HS).keep (unhide hsz) (fun k hk _ => hfar k (by omega))).stsR (by first | (simp; done) | (simp; omega) | omega)).weak (N' := fun _ => True) (fun _ _ => trivial)
      refine hK.out _ _ ?_ (fun hHeldN => ?_)
      · exact hX6
      clear hHeld
      have hHeld := hHeldN
      clear hHeldN
      clear hK K
      try simp only [Act.put, List.setIfInBounds_toArray, List.set_cons_zero, List.set_cons_succ]
      refine anyH_at (i := 16) (d := some 3) rfl rfl (by kernel_rfl) (by kernel_rfl) (by kernel_rfl) (fun _ _ _ h => h) (by rfl) (v := ?_) ?_ (by assumption) ?_
      rotate_left
      · (intro w hSw; (try dsimp only at hSw); go_simp <;> with_reducible rfl)
      simp only [Act.put, List.setIfInBounds_toArray, List.set_cons_zero, List.set_cons_succ]
      refine anyH_at (i := 17) (d := some 4) rfl rfl (by kernel_rfl) (by kernel_rfl) (by kernel_rfl) (fun _ _ _ h => h) (by rfl) (v := ?_) ?_ (by assumption) ?_
      rotate_left
      · (intro w hSw; (try dsimp only at hSw); go_simp <;> with_reducible rfl)
      simp only [Act.put, List.setIfInBounds_toArray, List.set_cons_zero, List.set_cons_succ]
      refine anyH_at (i := 18) (d := some 5) rfl rfl (by kernel_rfl) (by kernel_rfl) (by kernel_rfl) (fun _ _ _ h => h) (by rfl) (v := ?_) ?_ (by assumption) ?_
      rotate_left
      · (intro w hSw; (try dsimp only at hSw); go_simp <;> with_reducible rfl)
      simp only [Act.put, List.setIfInBounds_toArray, List.set_cons_zero, List.set_cons_succ]
      refine wpAnyH_done (by kernel_rfl) ?_ _
      clear hHeld
      obtain ⟨q, hq, hq0, hq1⟩ := quo9 y20 y21
      have e5 : IntKind.i64.wrap (q * 9) = q * 9 := by simp [IntKind.wrap, IntKind.bits, IntKind.signed]; omega
      have e6 : IntKind.i64.wrap (y1 - q * 9) = y1 - q * 9 := by simp [IntKind.wrap, IntKind.bits, IntKind.signed]; omega
      rw [hq, e5, e6]
      go_wp2
      exact bodyPost_ret (v := .tuple #[.agg #[.slice f1 db.length g1, .slice af fl.length cf, .bool has, .slice f2 jr.length g2], .slice (some ⟨gg, 0, none⟩) 1 gcap, .int .i64 (y1 - q * 9), .bool (y3 == 0)]) (by simp [results, Tryz.results17, go_sem, q0, q1, q2', q3]) rfl ⟨⟨db, fl, has, jr⟩, _, _, _, _, _, _, _, rfl, hD6, hS6, by first | (simp; done) | (simp; omega) | omega, by omega, by omega, hbel⟩
    have h5' : (v5 == 0) = false := by simpa using h5
    have hbd := below_drew w5
    replace TZ := hide ((unhide TZ).later hbd)
    replace HS := hide ((unhide HS).later hbd)
    clear hbd
    go_wp2_with fail
    refine wp_region_held_drew (S := fun w' => w'.cell? ⟨w2.heap.size, 0, none⟩ = some (.slice f1 db.length g1) ∧ w'.cell? ⟨w2.heap.size, 1, none⟩ = some (.slice af fl.length cf) ∧ w'.cell? ⟨w2.heap.size, 2, none⟩ = some (.bool has) ∧ w'.cell? ⟨w2.heap.size, 3, none⟩ = some (.slice f2 jr.length g2)) (by kernel_rfl) (unhide TZ).cells (fun hHeld => ?_)
    refine anyH_at (i := 0) (d := some 32) rfl rfl (by kernel_rfl) (by kernel_rfl) (by kernel_rfl) (fun _ _ _ h => h) (by rfl) (v := ?_) ?_ (by assumption) ?_
    rotate_left
    · (intro w hSw; (try dsimp only at hSw); go_simp <;> with_reducible rfl)
    simp only [Act.put, List.setIfInBounds_toArray, List.set_cons_zero, List.set_cons_succ]
    refine anyH_at (i := 1) (d := some 33) rfl rfl (by kernel_rfl) (by kernel_rfl) (by kernel_rfl) (fun _ _ _ h => h) (by rfl) (v := ?_) ?_ (by assumption) ?_
    rotate_left
    · (intro w hSw; (try dsimp only at hSw); go_simp <;> with_reducible rfl)
    simp only [Act.put, List.setIfInBounds_toArray, List.set_cons_zero, List.set_cons_succ]
    refine anyH_at (i := 2) (d := some 34) rfl rfl (by kernel_rfl) (by kernel_rfl) (by kernel_rfl) (fun _ _ _ h => h) (by rfl) (v := ?_) ?_ (by assumption) ?_
    rotate_left
    · (intro w hSw; (try dsimp only at hSw); go_simp <;> with_reducible rfl)
    simp only [Act.put, List.setIfInBounds_toArray, List.set_cons_zero, List.set_cons_succ]
    refine anyH_at (i := 3) (d := some 35) rfl rfl (by kernel_rfl) (by kernel_rfl) (by kernel_rfl) (fun _ _ _ h => h) (by rfl) (v := ?_) ?_ (by assumption) ?_
    rotate_left
    · (intro w hSw; (try dsimp only at hSw); go_simp <;> with_reducible rfl)
    simp only [Act.put, List.setIfInBounds_toArray, List.set_cons_zero, List.set_cons_succ]
    refine anyH_at (i := 4) (d := some 36) rfl rfl (by kernel_rfl) (by kernel_rfl) (by kernel_rfl) (fun _ _ _ h => h) (by rfl) (v := ?_) ?_ (by assumption) ?_
    rotate_left
    · (intro w hSw; (try dsimp only at hSw); go_simp <;> with_reducible rfl)
    simp only [Act.put, List.setIfInBounds_toArray, List.set_cons_zero, List.set_cons_succ]
    refine anyH_at (i := 5) (d := some 37) rfl rfl (by kernel_rfl) (by kernel_rfl) (by kernel_rfl) (fun _ _ _ h => h) (by rfl) (v := ?_) ?_ (by assumption) ?_
    rotate_left
    · (intro w hSw; (try dsimp only at hSw); go_simp <;> with_reducible rfl)
    simp only [Act.put, List.setIfInBounds_toArray, List.set_cons_zero, List.set_cons_succ]
    refine anyH_at (i := 7) (d := some 39) rfl rfl (by kernel_rfl) (by kernel_rfl) (by kernel_rfl) (fun _ _ _ h => h) (by rfl) (v := ?_) ?_ (by assumption) ?_
    rotate_left
    · (intro w hSw; (try dsimp only at hSw); go_simp <;> with_reducible rfl)
    simp only [Act.put, List.setIfInBounds_toArray, List.set_cons_zero, List.set_cons_succ]
    refine anyH_at (i := 12) (d := some 44) rfl rfl (by kernel_rfl) (by kernel_rfl) (by kernel_rfl) (fun _ _ _ h => h) (by rfl) (v := ?_) ?_ (by assumption) ?_
    rotate_left
    · (intro w hSw; (try dsimp only at hSw); go_simp <;> with_reducible rfl)
    simp only [Act.put, List.setIfInBounds_toArray, List.set_cons_zero, List.set_cons_succ]
    refine wpAnyH_ready (rs := [6]) (by kernel_rfl) (by simp) ?_
    refine AllReadyH.cons rfl (fun K hK => ?_) AllReadyH.nil
    go_simp
    refine (pick_any _ (w.heap.size + 1) (q2 + 1) (2) (by exact (unhide TZ).dr.rd) (by omega) (by omega) (by omega)).mono ?_
    rintro e wr1 ⟨y1, rfl, y10, y11, hr1, hk1⟩
    replace HS := hide ((unhide HS).kp hk1 (by omega))
    replace TZ := hide ((unhide TZ).keep hk1 hr1)
    clear hr1 hk1
    go_wp2_with fail
    refine hK.out _ _ ?_ (fun hHeldN => ?_)
    · exact (unhide TZ).cells
    clear hHeld
    have hHeld := hHeldN
    clear hHeldN
    clear hK K
    try simp only [Act.put, List.setIfInBounds_toArray, List.set_cons_zero, List.set_cons_succ]
    refine wpAnyH_ready (rs := [8]) (by kernel_rfl) (by simp) ?_
    refine AllReadyH.cons rfl (fun K hK => ?_) AllReadyH.nil
    go_simp
    refine (pick_any _ (w.heap.size + 1) (q2 + 1 + 1) (24) (by exact (unhide TZ).dr.rd) (by omega) (by omega) (by omega)).mono ?_
    rintro e wr2 ⟨y2, rfl, y20, y21, hr2, hk2⟩
    replace HS := hide ((unhide HS).kp hk2 (by omega))
    replace TZ := hide ((unhide TZ).keep hk2 hr2)
    clear hr2 hk2
    go_wp2_with fail
    refine hK.out _ _ ?_ (fun hHeldN => ?_)
    · exact (unhide TZ).cells
    clear hHeld
    have hHeld := hHeldN
    clear hHeldN
    clear hK K
    try simp only [Act.put, List.setIfInBounds_toArray, List.set_cons_zero, List.set_cons_succ]
    refine anyH_at (i := 9) (d := some 41) rfl rfl (by kernel_rfl) (by kernel_rfl) (by kernel_rfl) (fun _ _ _ h => h) (by rfl) (v := ?_) ?_ (by assumption) ?_
    rotate_left
    · (intro w hSw; (try dsimp only at hSw); go_simp <;> with_reducible rfl)
    simp only [Act.put, List.setIfInBounds_toArray, List.set_cons_zero, List.set_cons_succ]
    refine anyH_at (i := 10) (d := some 42) rfl rfl (by kernel_rfl) (by kernel_rfl) (by kernel_rfl) (fun _ _ _ h => h) (by rfl) (v := ?_) ?_ (by assumption) ?_
    rotate_left
    · (intro w hSw; (try dsimp only at hSw); go_simp <;> with_reducible rfl)
    simp only [Act.put, List.setIfInBounds_toArray, List.set_cons_zero, List.set_cons_succ]
    refine anyH_at (i := 11) (d := some 43) rfl rfl (by kernel_rfl) (by kernel_rfl) (by kernel_rfl) (fun _ _ _ h => h) (by rfl) (v := ?_) ?_ (by assumption) ?_
    rotate_left
    · (intro w hSw; (try dsimp only at hSw); go_simp <;> with_reducible rfl)
    simp only [Act.put, List.setIfInBounds_toArray, List.set_cons_zero, List.set_cons_succ]
    refine wpAnyH_ready (rs := [13]) (by kernel_rfl) (by simp) ?_
    refine AllReadyH.cons rfl (fun K hK => ?_) AllReadyH.nil
    go_simp
    refine (pick_any _ (w.heap.size + 1) (q2 + 1 + 1 + 1) (2) (by exact (unhide TZ).dr.rd) (by omega) (by omega) (by omega)).mono ?_
    rintro e wr3 ⟨y3, rfl, y30, y31, hr3, hk3⟩
    replace HS := hide ((unhide HS).kp hk3 (by omega))
    replace TZ := hide ((unhide TZ).keep hk3 hr3)
    clear hr3 hk3
    go_wp2_with fail
    refine hK.out _ _ ?_ (fun hHeldN => ?_)
    · exact (unhide TZ).cells
    have hR5 := (unhide TZ).old (unhide HR1) (by omega)
    have hb5 := (unhide TZ).below (unhide B1) (by omega)
    obtain ⟨⟨r0, j0⟩, ⟨r1, j1⟩, ⟨r2, j2⟩, r3, j3⟩ : (_ ∧ _) ∧ (_ ∧ _) ∧ (_ ∧ _) ∧ _ ∧ _ := ⟨⟨cellOf hR5 0, frozenOf hR5 0⟩, ⟨cellOf hR5 1, frozenOf hR5 1⟩, ⟨cellOf hR5 2, frozenOf hR5 2⟩, cellOf hR5 3, frozenOf hR5 3⟩
    have HR5 := hide hR5
    have HB5 := hide hb5
    clear hR5 hb5
    clear hHeld
    have hHeld := hHeldN
    clear hHeldN
    clear hK K
    try simp only [Act.put, List.setIfInBounds_toArray, List.set_cons_zero, List.set_cons_succ]
    refine anyH_at (i := 14) (d := some 46) rfl rfl (by kernel_rfl) (by kernel_rfl) (by kernel_rfl) (fun _ _ _ h => h) (by rfl) (v := ?_) ?_ (by assumption) ?_
    rotate_left
    · (intro w hSw; (try dsimp only at hSw); go_simp <;> with_reducible rfl)
    simp only [Act.put, List.setIfInBounds_toArray, List.set_cons_zero, List.set_cons_succ]
    refine wpAnyH_ready (rs := [15]) (by kernel_rfl) (by simp) ?_
    refine AllReadyH.cons rfl (fun K hK => ?_) AllReadyH.nil
    go_simp
    have HF := hide (fin4 (a := .slice f1 db.length g1) (b := .slice af fl.length cf) (c := .bool has) (d := .slice f2 jr.length g2) (W := w) (unhide HR5) (Nat.le_refl _) (unhide HB5) rfl)
    have hsz : Hid (wr3.heap.size ≤ ((((wr3.setCell ⟨w.heap.size, 0, none⟩ (.slice f1 db.length g1)).setCell ⟨w.heap.size, 1, none⟩ (.slice af fl.length cf)).setCell ⟨w.heap.size, 2, none⟩ (.bool has)).setCell ⟨w.heap.size, 3, none⟩ (.slice f2 jr.length g2)).heap.size) := by show _ ≤ _; simp [World.setCell]
    clear r0 r1 r2 r3 j0 j1 j2 j3
    generalize World.setCell _ _ _ = W6 at *
    obtain ⟨⟨q0, q1, q2', q3⟩, hbel, hfar⟩ := unhide HF
    have hX6 : W6.cell? ⟨w2.heap.size, 0, none⟩ = some (.slice f1 db.length g1) ∧ W6.cell? ⟨w2.heap.size, 1, none⟩ = some (.slice af fl.length cf) ∧ W6.cell? ⟨w2.heap.size, 2, none⟩ = some (.bool has) ∧ W6.cell? ⟨w2.heap.size, 3, none⟩ = some (.slice f2 jr.length g2) := by
      have e : ∀ o, W6.cell? ⟨w2.heap.size, o, none⟩ = wr3.cell? ⟨w2.heap.size, o, none⟩ := fun o => World.cell?_of_block (hfar w2.heap.size (by omega))
      rw [e, e, e, e]
      exact (unhide TZ).cells
    have hD6 := (unhide TZ).din (unhide hsz) (fun k hk => hfar k (by omega))
    have hS6 := (((unhide HS).keep (unhide hsz) (fun k hk _ => hfar k (by omega))).stsR (by first | (simp; done) | (simp; omega) | omega)).weak (N' := fun _ => True) (fun _ _ => trivial)
    refine hK.out _ _ ?_ (fun hHeldN => ?_)
    · exact hX6
    clear hHeld
    have hHeld := hHeldN
    clear hHeldN
    clear hK K
    try simp only [Act.put, List.setIfInBounds_toArray, List.set_cons_zero, List.set_cons_succ]
    refine anyH_at (i := 16) (d := some 3) rfl rfl (by kernel_rfl) (by kernel_rfl) (by kernel_rfl) (fun _ _ _ h => h) (by rfl) (v := ?_) ?_ (by assumption) ?_
    rotate_left
    · (intro w hSw; (try dsimp only at hSw); go_simp <;> with_reducible rfl)
    simp only [Act.put, List.setIfInBounds_toArray, List.set_cons_zero, List.set_cons_succ]
    refine anyH_at (i := 17) (d := some 4) rfl rfl (by kernel_rfl) (by kernel_rfl) (by kernel_rfl) (fun _ _ _ h => h) (by rfl) (v := ?_) ?_ (by assumption) ?_
    rotate_left
    · (intro w hSw; (try dsimp only at hSw); go_simp <;> with_reducible rfl)
    simp only [Act.put, List.setIfInBounds_toArray, List.set_cons_zero, List.set_cons_succ]
    refine anyH_at (i := 18) (d := some 5) rfl rfl (by kernel_rfl) (by kernel_rfl) (by kernel_rfl) (fun _ _ _ h => h) (by rfl) (v := ?_) ?_ (by assumption) ?_
    rotate_left
    · (intro w hSw; (try dsimp only at hSw); go_simp <;> with_reducible rfl)
    simp only [Act.put, List.setIfInBounds_toArray, List.set_cons_zero, List.set_cons_succ]
    refine wpAnyH_done (by kernel_rfl) ?_ _
    clear hHeld
    obtain ⟨q, hq, hq0, hq1⟩ := quo9 y20 y21
    have e5 : IntKind.i64.wrap (q * 9) = q * 9 := by simp [IntKind.wrap, IntKind.bits, IntKind.signed]; omega
    have e6 : IntKind.i64.wrap (y1 - q * 9) = y1 - q * 9 := by simp [IntKind.wrap, IntKind.bits, IntKind.signed]; omega
    rw [hq, e5, e6]
    go_wp2
    exact bodyPost_ret (v := .tuple #[.agg #[.slice f1 db.length g1, .slice af fl.length cf, .bool has, .slice f2 jr.length g2], .slice (some ⟨w2.heap.size + 1, 0, none⟩) 0 0, .int .i64 (y1 - q * 9), .bool (y3 == 0)]) (by simp [results, Tryz.results17, go_sem, q0, q1, q2', q3]) rfl ⟨⟨db, fl, has, jr⟩, _, _, _, _, _, _, _, rfl, hD6, hS6, by first | (simp; done) | (simp; omega) | omega, by omega, by omega, hbel⟩
  · obtain ⟨gf, _⟩ := unhide GD (by trivial)
    have HL6 := hide (show fl.length = 6 from (Dk.files_get gf).1)
    clear GD gf
    obtain ⟨x0, x1, x2, x3⟩ := (unhide TZ).cells
    go_wp2_with fail
    refine (l22Steps_any w3 f1 af f2 db.length g1 cf jr.length g2 has fl _ ps (unhide TZ).pf.ins (unhide HL6) (unhide HP) (unhide HPO)).mono ?_
    rintro e w4 ⟨u, els, rfl, hS, hm, b4⟩
    obtain ⟨sa, sc, hu⟩ := own_formS hS.own
    subst hu
    have hel : els.length ≤ 9 := by have := (Dk.steps_len fl ps).1; rw [← hm, List.length_map] at this; exact this
    have HV : Hid (∀ g, (Value.slice sa els.length sc).ownBlock = some g → w2.heap.size + 1 ≤ g) := fun g e => by have := (own_row hS.own g e).1; omega
    have hsz3 : w.heap.size + 2 ≤ w3.heap.size := by omega
    replace HS := hide (hS.ox.base hsz3)
    replace HP := hide ((unhide HP).later b4)
    replace TZ := hide ((unhide TZ).later b4)
    clear hS hm b4 hz3 hsz3 HL6 x0 x1 x2 x3
    go_wp2_with fail
    refine (pick_any _ (w.heap.size + 1) q2 8 (by exact (unhide TZ).dr.rd) (by omega) (by omega) (by omega)).mono ?_
    rintro e w5 ⟨v5, rfl, v50, v51, hr5, hk5⟩
    replace HS := hide ((unhide HS).kp hk5 (by omega))
    replace HP := hide ((unhide HP).keep hk5.size (fun k hk1 hN => hk5.block k hk1 (by omega)))
    replace TZ := hide ((unhide TZ).keep hk5 hr5)
    clear hr5 hk5
    by_cases h5 : v5 = 0
    · subst h5
      go_wp2_with fail
      refine (l71Step_any _ (w.heap.size + 1) (q2 + 1) pa pc ps (by exact (unhide TZ).dr.rd) (Nat.le_trans (by omega) (unhide TZ).dr.size) (by omega)).mono ?_
      rintro e w6 ⟨s, tv, q6, rfl, hsv, hq6, hr6, hk6⟩
      obtain ⟨sk, sp, sx, sps⟩ := s
      try dsimp only at hsv
      replace HS := hide ((unhide HS).kp hk6 (by omega))
      replace HP := hide ((unhide HP).keep hk6.size (fun k hk1 hN => hk6.block k hk1 (by omega)))
      replace TZ := hide ((unhide TZ).keep hk6 hr6)
      clear hr6 hk6
      have hSI : Pks (fun b => w.heap.size + 2 ≤ b ∧ b < w2.heap.size + 1) w6 tv sps ∧ RoomV tv sps.length := by
        rcases hsv with ⟨rfl, e⟩ | ⟨rfl, e⟩
        · subst e
          exact ⟨pks_nil _ _ _, fun _ _ _ => Nat.zero_le _⟩
        · subst e
          exact ⟨unhide HP, unhide HPR⟩
      obtain ⟨ta, tc, itv⟩ := hSI.1.slice
      try dsimp only at itv
      subst itv
      have hz6 : w2.heap.size + 1 ≤ w6.heap.size := (unhide TZ).lZ
      have hbX := below1 w6 (.cells #[.int .i64 sk, .int .i64 sp, .int .i64 sx, .slice ta sps.length tc] 47)
      have HS6 := hide ((unhide HS).later hbX)
      have HT6 := hide (hSI.1.later hbX)
      have HTR := hide hSI.2
      replace TZ := hide ((unhide TZ).later hbX)
      clear HS HP hsv hSI hbX
      try dsimp only [stV]
      go_wp2_with (at_builtin; refine wpList_append_lies _ rfl _ _ _ rfl (w.heap.size + 2) 47 i0 _ 4 48 Tryz.underlying35 hI0 hz0 hz1 hz2 rfl (by omega) (.slice sa els.length sc) (els.length) (flatS els) rfl (unhide HS6).own ⟨w6.heap.size, 0, none⟩ 1 1 [.int .i64 sk, .int .i64 sp, .int .i64 sx, .slice ta sps.length tc] rfl rfl (World.news_of_block (cs := #[.int .i64 sk, .int .i64 sp, .int .i64 sx, .slice ta sps.length tc]) (t := 47) (fr := (0, 0)) (heap_alloc_new _ _)) (by simp [Value.oneCell']) (by omega) (by unfold maxLen; omega) (by omega) (by rw [sz1']; omega) (w6.heap.size + 1) (by rw [sz1']) ?_; intro gg gcap w7 hown hgrow hat hlt7)
      have HS := hide (SOx.app (e := (⟨sk, sp, sx, sps⟩, .slice ta sps.length tc, [])) (unhide HS6) hgrow hown (hat.imp id (fun e => by rw [sz1']; omega)) ((unhide HT6).weak (fun b hb => ⟨hb.1, fun e => by have := unhide HV b e; have := hb.2; omega⟩)) (unhide HTR))
      replace TZ := hide ((unhide TZ).grown (unhide HS6).own (unhide HV) hgrow)
      clear HS6 HT6 HTR HV hown hgrow hat hlt7 hz6
      generalize hM : els.length + 1 = M at *
      have hMw : IntKind.i64.wrap ((M : Int) + 2) = (M : Int) + 2 := by simp [IntKind.wrap, IntKind.bits, IntKind.signed]; omega
      have hbd := below_drew w7
      replace TZ := hide ((unhide TZ).later hbd)
      replace HS := hide ((unhide HS).later hbd)
      clear hbd
      go_wp2_with fail
      refine wp_region_held_drew (S := fun w' => w'.cell? ⟨w2.heap.size, 0, none⟩ = some (.slice f1 db.length g1) ∧ w'.cell? ⟨w2.heap.size, 1, none⟩ = some (.slice af fl.length cf) ∧ w'.cell? ⟨w2.heap.size, 2, none⟩ = some (.bool has) ∧ w'.cell? ⟨w2.heap.size, 3, none⟩ = some (.slice f2 jr.length g2)) (by kernel_rfl) (unhide TZ).cells (fun hHeld => ?_)
      refine anyH_at (i := 0) (d := some 32) rfl rfl (by kernel_rfl) (by kernel_rfl) (by kernel_rfl) (fun _ _ _ h => h) (by rfl) (v := ?_) ?_ (by assumption) ?_
      rotate_left
      · (intro w hSw; (try dsimp only at hSw); go_simp <;> with_reducible rfl)
      simp only [Act.put, List.setIfInBounds_toArray, List.set_cons_zero, List.set_cons_succ]
      refine anyH_at (i := 1) (d := some 33) rfl rfl (by kernel_rfl) (by kernel_rfl) (by kernel_rfl) (fun _ _ _ h => h) (by rfl) (v := ?_) ?_ (by assumption) ?_
      rotate_left
      · (intro w hSw; (try dsimp only at hSw); go_simp <;> with_reducible rfl)
      simp only [Act.put, List.setIfInBounds_toArray, List.set_cons_zero, List.set_cons_succ]
      refine anyH_at (i := 2) (d := some 34) rfl rfl (by kernel_rfl) (by kernel_rfl) (by kernel_rfl) (fun _ _ _ h => h) (by rfl) (v := ?_) ?_ (by assumption) ?_
      rotate_left
      · (intro w hSw; (try dsimp only at hSw); go_simp <;> with_reducible rfl)
      simp only [Act.put, List.setIfInBounds_toArray, List.set_cons_zero, List.set_cons_succ]
      refine anyH_at (i := 3) (d := some 35) rfl rfl (by kernel_rfl) (by kernel_rfl) (by kernel_rfl) (fun _ _ _ h => h) (by rfl) (v := ?_) ?_ (by assumption) ?_
      rotate_left
      · (intro w hSw; (try dsimp only at hSw); go_simp <;> with_reducible rfl)
      simp only [Act.put, List.setIfInBounds_toArray, List.set_cons_zero, List.set_cons_succ]
      refine anyH_at (i := 4) (d := some 36) rfl rfl (by kernel_rfl) (by kernel_rfl) (by kernel_rfl) (fun _ _ _ h => h) (by rfl) (v := ?_) ?_ (by assumption) ?_
      rotate_left
      · (intro w hSw; (try dsimp only at hSw); go_simp <;> with_reducible rfl)
      simp only [Act.put, List.setIfInBounds_toArray, List.set_cons_zero, List.set_cons_succ]
      refine anyH_at (i := 5) (d := some 37) rfl rfl (by kernel_rfl) (by kernel_rfl) (by kernel_rfl) (fun _ _ _ h => h) (by rfl) (v := ?_) ?_ (by assumption) ?_
      rotate_left
      · (intro w hSw; (try dsimp only at hSw); go_simp <;> with_reducible rfl)
      simp only [Act.put, List.setIfInBounds_toArray, List.set_cons_zero, List.set_cons_succ]
      refine anyH_at (i := 7) (d := some 39) rfl rfl (by kernel_rfl) (by kernel_rfl) (by kernel_rfl) (fun _ _ _ h => h) (by rfl) (v := ?_) ?_ (by assumption) ?_
      rotate_left
      · (intro w hSw; (try dsimp only at hSw); go_simp <;> with_reducible rfl)
      simp only [Act.put, List.setIfInBounds_toArray, List.set_cons_zero, List.set_cons_succ]
      refine anyH_at (i := 12) (d := some 44) rfl rfl (by kernel_rfl) (by kernel_rfl) (by kernel_rfl) (fun _ _ _ h => h) (by rfl) (v := ?_) ?_ (by assumption) ?_
      rotate_left
      · (intro w hSw; (try dsimp only at hSw); go_simp <;> with_reducible rfl)
      simp only [Act.put, List.setIfInBounds_toArray, List.set_cons_zero, List.set_cons_succ]
      refine wpAnyH_ready (rs := [6]) (by kernel_rfl) (by simp) ?_
      refine AllReadyH.cons rfl (fun K hK => ?_) AllReadyH.nil
      go_simp
      refine (pick_any _ (w.heap.size + 1) (q6) ((M : Int) + 2) (by exact (unhide TZ).dr.rd) (by omega) (by omega) (by omega)).mono ?_
      rintro e wr1 ⟨y1, rfl, y10, y11, hr1, hk1⟩
      replace HS := hide ((unhide HS).kp hk1 (by omega))
      replace TZ := hide ((unhide TZ).keep hk1 hr1)
      clear hr1 hk1
      go_wp2_with fail
      refine hK.out _ _ ?_ (fun hHeldN => ?_)
      · exact (unhide TZ).cells
      clear hHeld
      have hHeld := hHeldN
      clear hHeldN
      clear hK K
      try simp only [Act.put, List.setIfInBounds_toArray, List.set_cons_zero, List.set_cons_succ]
      refine wpAnyH_ready (rs := [8]) (by kernel_rfl) (by simp) ?_
      refine AllReadyH.cons rfl (fun K hK => ?_) AllReadyH.nil
      go_simp
      refine (pick_any _ (w.heap.size + 1) (q6 + 1) (24) (by exact (unhide TZ).dr.rd) (by omega) (by omega) (by omega)).mono ?_
      rintro e wr2 ⟨y2, rfl, y20, y21, hr2, hk2⟩
      replace HS := hide ((unhide HS).kp hk2 (by omega))
      replace TZ := hide ((unhide TZ).keep hk2 hr2)
      clear hr2 hk2
      go_wp2_with fail
      refine hK.out _ _ ?_ (fun hHeldN => ?_)
      · exact (unhide TZ).cells
      clear hHeld
      have hHeld := hHeldN
      clear hHeldN
      clear hK K
      try simp only [Act.put, List.setIfInBounds_toArray, List.set_cons_zero, List.set_cons_succ]
      refine anyH_at (i := 9) (d := some 41) rfl rfl (by kernel_rfl) (by kernel_rfl) (by kernel_rfl) (fun _ _ _ h => h) (by rfl) (v := ?_) ?_ (by assumption) ?_
      rotate_left
      · (intro w hSw; (try dsimp only at hSw); go_simp <;> with_reducible rfl)
      simp only [Act.put, List.setIfInBounds_toArray, List.set_cons_zero, List.set_cons_succ]
      refine anyH_at (i := 10) (d := some 42) rfl rfl (by kernel_rfl) (by kernel_rfl) (by kernel_rfl) (fun _ _ _ h => h) (by rfl) (v := ?_) ?_ (by assumption) ?_
      rotate_left
      · (intro w hSw; (try dsimp only at hSw); go_simp <;> with_reducible rfl)
      simp only [Act.put, List.setIfInBounds_toArray, List.set_cons_zero, List.set_cons_succ]
      refine anyH_at (i := 11) (d := some 43) rfl rfl (by kernel_rfl) (by kernel_rfl) (by kernel_rfl) (fun _ _ _ h => h) (by rfl) (v := ?_) ?_ (by assumption) ?_
      rotate_left
      · (intro w hSw; (try dsimp only at hSw); go_simp <;> with_reducible rfl)
      simp only [Act.put, List.setIfInBounds_toArray, List.set_cons_zero, List.set_cons_succ]
      refine wpAnyH_ready (rs := [13]) (by kernel_rfl) (by simp) ?_
      refine AllReadyH.cons rfl (fun K hK => ?_) AllReadyH.nil
      go_simp
      refine (pick_any _ (w.heap.size + 1) (q6 + 1 + 1) (2) (by exact (unhide TZ).dr.rd) (by omega) (by omega) (by omega)).mono ?_
      rintro e wr3 ⟨y3, rfl, y30, y31, hr3, hk3⟩
      replace HS := hide ((unhide HS).kp hk3 (by omega))
      replace TZ := hide ((unhide TZ).keep hk3 hr3)
      clear hr3 hk3
      go_wp2_with fail
      refine hK.out _ _ ?_ (fun hHeldN => ?_)
      · exact (unhide TZ).cells
      have hR5 := (unhide TZ).old (unhide HR1) (by omega)
      have hb5 := (unhide TZ).below (unhide B1) (by omega)
      obtain ⟨⟨r0, j0⟩, ⟨r1, j1⟩, ⟨r2, j2⟩, r3, j3⟩ : (_ ∧ _) ∧ (_ ∧ _) ∧ (_ ∧ _) ∧ _ ∧ _ := ⟨⟨cellOf hR5 0, frozenOf hR5 0⟩, ⟨cellOf hR5 1, frozenOf hR5 1⟩, ⟨cellOf hR5 2, frozenOf hR5 2⟩, cellOf hR5 3, frozenOf hR5 3⟩
      have HR5 := hide hR5
      have HB5 := hide hb5
      clear hR5 hb5
      clear hHeld
      have hHeld := hHeldN
      clear hHeldN
      clear hK K
      try simp only [Act.put, List.setIfInBounds_toArray, List.set_cons_zero, List.set_cons_succ]
      refine anyH_at (i := 14) (d := some 46) rfl rfl (by kernel_rfl) (by kernel_rfl) (by kernel_rfl) (fun _ _ _ h => h) (by rfl) (v := ?_) ?_ (by assumption) ?_
      rotate_left
      · (intro w hSw; (try dsimp only at hSw); go_simp <;> with_reducible rfl)
      simp only [Act.put, List.setIfInBounds_toArray, List.set_cons_zero, List.set_cons_succ]
      refine wpAnyH_ready (rs := [15]) (by kernel_rfl) (by simp) ?_
      refine AllReadyH.cons rfl (fun K hK => ?_) AllReadyH.nil
      go_simp
      have HF := hide (fin4 (a := .slice f1 db.length g1) (b := .slice af fl.length cf) (c := .bool has) (d := .slice f2 jr.length g2) (W := w) (unhide HR5) (Nat.le_refl _) (unhide HB5) rfl)
      have hsz : Hid (wr3.heap.size ≤ ((((wr3.setCell ⟨w.heap.size, 0, none⟩ (.slice f1 db.length g1)).setCell ⟨w.heap.size, 1, none⟩ (.slice af fl.length cf)).setCell ⟨w.heap.size, 2, none⟩ (.bool has)).setCell ⟨w.heap.size, 3, none⟩ (.slice f2 jr.length g2)).heap.size) := by show _ ≤ _; simp [World.setCell]
      clear r0 r1 r2 r3 j0 j1 j2 j3
      generalize World.setCell _ _ _ = W6 at *
      obtain ⟨⟨q0, q1, q2', q3⟩, hbel, hfar⟩ := unhide HF
      have hX6 : W6.cell? ⟨w2.heap.size, 0, none⟩ = some (.slice f1 db.length g1) ∧ W6.cell? ⟨w2.heap.size, 1, none⟩ = some (.slice af fl.length cf) ∧ W6.cell? ⟨w2.heap.size, 2, none⟩ = some (.bool has) ∧ W6.cell? ⟨w2.heap.size, 3, none⟩ = some (.slice f2 jr.length g2) := by
        have e : ∀ o, W6.cell? ⟨w2.heap.size, o, none⟩ = wr3.cell? ⟨w2.heap.size, o, none⟩ := fun o => World.cell?_of_block (hfar w2.heap.size (by omega))
        rw [e, e, e, e]
        exact (unhide TZ).cells
      have hD6 := (unhide TZ).din (unhide hsz) (fun k hk => hfar k (by omega))
      have hS6 := (((unhide HS).keep (unhide hsz) (fun k hk _ => hfar k (by omega))).stsR (by first | (simp; done) | (simp; omega) | omega)).weak (N' := fun _ => True) (fun _ _ => trivial)
      refine hK.out _ _ ?_ (fun hHeldN => ?_)
      · exact hX6
      clear hHeld
      have hHeld := hHeldN
      clear hHeldN
      clear hK K
      try simp only [Act.put, List.setIfInBounds_toArray, List.set_cons_zero, List.set_cons_succ]
      refine anyH_at (i := 16) (d := some 3) rfl rfl (by kernel_rfl) (by kernel_rfl) (by kernel_rfl) (fun _ _ _ h => h) (by rfl) (v := ?_) ?_ (by assumption) ?_
      rotate_left
      · (intro w hSw; (try dsimp only at hSw); go_simp <;> with_reducible rfl)
      simp only [Act.put, List.setIfInBounds_toArray, List.set_cons_zero, List.set_cons_succ]
      refine anyH_at (i := 17) (d := some 4) rfl rfl (by kernel_rfl) (by kernel_rfl) (by kernel_rfl) (fun _ _ _ h => h) (by rfl) (v := ?_) ?_ (by assumption) ?_
      rotate_left
      · (intro w hSw; (try dsimp only at hSw); go_simp <;> with_reducible rfl)
      simp only [Act.put, List.setIfInBounds_toArray, List.set_cons_zero, List.set_cons_succ]
      refine anyH_at (i := 18) (d := some 5) rfl rfl (by kernel_rfl) (by kernel_rfl) (by kernel_rfl) (fun _ _ _ h => h) (by rfl) (v := ?_) ?_ (by assumption) ?_
      rotate_left
      · (intro w hSw; (try dsimp only at hSw); go_simp <;> with_reducible rfl)
      simp only [Act.put, List.setIfInBounds_toArray, List.set_cons_zero, List.set_cons_succ]
      refine wpAnyH_done (by kernel_rfl) ?_ _
      clear hHeld
      obtain ⟨q, hq, hq0, hq1⟩ := quo9 y20 y21
      have e5 : IntKind.i64.wrap (q * 9) = q * 9 := by simp [IntKind.wrap, IntKind.bits, IntKind.signed]; omega
      have e6 : IntKind.i64.wrap (y1 - q * 9) = y1 - q * 9 := by simp [IntKind.wrap, IntKind.bits, IntKind.signed]; omega
      rw [hq, e5, e6]
      go_wp2
      exact bodyPost_ret (v := .tuple #[.agg #[.slice f1 db.length g1, .slice af fl.length cf, .bool has, .slice f2 jr.length g2], .slice (some ⟨gg, 0, none⟩) M gcap, .int .i64 (y1 - q * 9), .bool (y3 == 0)]) (by simp [results, Tryz.results17, go_sem, q0, q1, q2', q3]) rfl ⟨⟨db, fl, has, jr⟩, _, _, _, _, _, _, _, rfl, hD6, hS6, by first | (simp; done) | (simp; omega) | omega, by omega, by omega, hbel⟩
    have h5' : (v5 == 0) = false := by simpa using h5
    generalize hM : els.length = M at *
    have hMw : IntKind.i64.wrap ((M : Int) + 2) = (M : Int) + 2 := by simp [IntKind.wrap, IntKind.bits, IntKind.signed]; omega
    have hbd := below_drew w5
    replace TZ := hide ((unhide TZ).later hbd)
    replace HS := hide ((unhide HS).later hbd)
    clear hbd
    go_wp2_with fail
    refine wp_region_held_drew (S := fun w' => w'.cell? ⟨w2.heap.size, 0, none⟩ = some (.slice f1 db.length g1) ∧ w'.cell? ⟨w2.heap.size, 1, none⟩ = some (.slice af fl.length cf) ∧ w'.cell? ⟨w2.heap.size, 2, none⟩ = some (.bool has) ∧ w'.cell? ⟨w2.heap.size, 3, none⟩ = some (.slice f2 jr.length g2)) (by kernel_rfl) (unhide TZ).cells (fun hHeld => ?_)
    refine anyH_at (i := 0) (d := some 32) rfl rfl (by kernel_rfl) (by kernel_rfl) (by kernel_rfl) (fun _ _ _ h => h) (by rfl) (v := ?_) ?_ (by assumption) ?_
    rotate_left
    · (intro w hSw; (try dsimp only at hSw); go_simp <;> with_reducible rfl)
    simp only [Act.put, List.setIfInBounds_toArray, List.set_cons_zero, List.set_cons_succ]
    refine anyH_at (i := 1) (d := some 33) rfl rfl (by kernel_rfl) (by kernel_rfl) (by kernel_rfl) (fun _ _ _ h => h) (by rfl) (v := ?_) ?_ (by assumption) ?_
    rotate_left
    · (intro w hSw; (try dsimp only at hSw); go_simp <;> with_reducible rfl)
    simp only [Act.put, List.setIfInBounds_toArray, List.set_cons_zero, List.set_cons_succ]
    refine anyH_at (i := 2) (d := some 34) rfl rfl (by kernel_rfl) (by kernel_rfl) (by kernel_rfl) (fun _ _ _ h => h) (by rfl) (v := ?_) ?_ (by assumption) ?_
    rotate_left
    · (intro w hSw; (try dsimp only at hSw); go_simp <;> with_reducible rfl)
    simp only [Act.put, List.setIfInBounds_toArray, List.set_cons_zero, List.set_cons_succ]
    refine anyH_at (i := 3) (d := some 35) rfl rfl (by kernel_rfl) (by kernel_rfl) (by kernel_rfl) (fun _ _ _ h => h) (by rfl) (v := ?_) ?_ (by assumption) ?_
    rotate_left
    · (intro w hSw; (try dsimp only at hSw); go_simp <;> with_reducible rfl)
    simp only [Act.put, List.setIfInBounds_toArray, List.set_cons_zero, List.set_cons_succ]
    refine anyH_at (i := 4) (d := some 36) rfl rfl (by kernel_rfl) (by kernel_rfl) (by kernel_rfl) (fun _ _ _ h => h) (by rfl) (v := ?_) ?_ (by assumption) ?_
    rotate_left
    · (intro w hSw; (try dsimp only at hSw); go_simp <;> with_reducible rfl)
    simp only [Act.put, List.setIfInBounds_toArray, List.set_cons_zero, List.set_cons_succ]
    refine anyH_at (i := 5) (d := some 37) rfl rfl (by kernel_rfl) (by kernel_rfl) (by kernel_rfl) (fun _ _ _ h => h) (by rfl) (v := ?_) ?_ (by assumption) ?_
    rotate_left
    · (intro w hSw; (try dsimp only at hSw); go_simp <;> with_reducible rfl)
    simp only [Act.put, List.setIfInBounds_toArray, List.set_cons_zero, List.set_cons_succ]
    refine anyH_at (i := 7) (d := some 39) rfl rfl (by kernel_rfl) (by kernel_rfl) (by kernel_rfl) (fun _ _ _ h => h) (by rfl) (v := ?_) ?_ (by assumption) ?_
    rotate_left
    · (intro w hSw; (try dsimp only at hSw); go_simp <;> with_reducible rfl)
    simp only [Act.put, List.setIfInBounds_toArray, List.set_cons_zero, List.set_cons_succ]
    refine anyH_at (i := 12) (d := some 44) rfl rfl (by kernel_rfl) (by kernel_rfl) (by kernel_rfl) (fun _ _ _ h => h) (by rfl) (v := ?_) ?_ (by assumption) ?_
    rotate_left
    · (intro w hSw; (try dsimp only at hSw); go_simp <;> with_reducible rfl)
    simp only [Act.put, List.setIfInBounds_toArray, List.set_cons_zero, List.set_cons_succ]
    refine wpAnyH_ready (rs := [6]) (by kernel_rfl) (by simp) ?_
    refine AllReadyH.cons rfl (fun K hK => ?_) AllReadyH.nil
    go_simp
    refine (pick_any _ (w.heap.size + 1) (q2 + 1) ((M : Int) + 2) (by exact (unhide TZ).dr.rd) (by omega) (by omega) (by omega)).mono ?_
    rintro e wr1 ⟨y1, rfl, y10, y11, hr1, hk1⟩
    replace HS := hide ((unhide HS).kp hk1 (by omega))
    replace TZ := hide ((unhide TZ).keep hk1 hr1)
    clear hr1 hk1
    go_wp2_with fail
    refine hK.out _ _ ?_ (fun hHeldN => ?_)
    · exact (unhide TZ).cells
    clear hHeld
    have hHeld := hHeldN
    clear hHeldN
    clear hK K
    try simp only [Act.put, List.setIfInBounds_toArray, List.set_cons_zero, List.set_cons_succ]
    refine wpAnyH_ready (rs := [8]) (by kernel_rfl) (by simp) ?_
    refine AllReadyH.cons rfl (fun K hK => ?_) AllReadyH.nil
    go_simp
    refine (pick_any _ (w.heap.size + 1) (q2 + 1 + 1) (24) (by exact (unhide TZ).dr.rd) (by omega) (by omega) (by omega)).mono ?_
    rintro e wr2 ⟨y2, rfl, y20, y21, hr2, hk2⟩
    replace HS := hide ((unhide HS).kp hk2 (by omega))
    replace TZ := hide ((unhide TZ).keep hk2 hr2)
    clear hr2 hk2
    go_wp2_with fail
    refine hK.out _ _ ?_ (fun hHeldN => ?_)
    · exact (unhide TZ).cells
    clear hHeld
    have hHeld := hHeldN
    clear hHeldN
    clear hK K
    try simp only [Act.put, List.setIfInBounds_toArray, List.set_cons_zero, List.set_cons_succ]
    refine anyH_at (i := 9) (d := some 41) rfl rfl (by kernel_rfl) (by kernel_rfl) (by kernel_rfl) (fun _ _ _ h => h) (by rfl) (v := ?_) ?_ (by assumption) ?_
    rotate_left
    · (intro w hSw; (try dsimp only at hSw); go_simp <;> with_reducible rfl)
    simp only [Act.put, List.setIfInBounds_toArray, List.set_cons_zero, List.set_cons_succ]
    refine anyH_at (i := 10) (d := some 42) rfl rfl (by kernel_rfl) (by kernel_rfl) (by kernel_rfl) (fun _ _ _ h => h) (by rfl) (v := ?_) ?_ (by assumption) ?_
    rotate_left
    · (intro w hSw; (try dsimp only at hSw); go_simp <;> with_reducible rfl)
    simp only [Act.put, List.setIfInBounds_toArray, List.set_cons_zero, List.set_cons_succ]
    refine anyH_at (i := 11) (d := some 43) rfl rfl (by kernel_rfl) (by kernel_rfl) (by kernel_rfl) (fun _ _ _ h => h) (by rfl) (v := ?_) ?_ (by assumption) ?_
    rotate_left
    · (intro w hSw; (try dsimp only at hSw); go_simp <;> with_reducible rfl)
    simp only [Act.put, List.setIfInBounds_toArray, List.set_cons_zero, List.set_cons_succ]
    refine wpAnyH_ready (rs := [13]) (by kernel_rfl) (by simp) ?_
    refine AllReadyH.cons rfl (fun K hK => ?_) AllReadyH.nil
    go_simp
    refine (pick_any _ (w.heap.size + 1) (q2 + 1 + 1 + 1) (2) (by exact (unhide TZ).dr.rd) (by omega) (by omega) (by omega)).mono ?_
    rintro e wr3 ⟨y3, rfl, y30, y31, hr3, hk3⟩
    replace HS := hide ((unhide HS).kp hk3 (by omega))
    replace TZ := hide ((unhide TZ).keep hk3 hr3)
    clear hr3 hk3
    go_wp2_with fail
    refine hK.out _ _ ?_ (fun hHeldN => ?_)
    · exact (unhide TZ).cells
    have hR5 := (unhide TZ).old (unhide HR1) (by omega)
    have hb5 := (unhide TZ).below (unhide B1) (by omega)
    obtain ⟨⟨r0, j0⟩, ⟨r1, j1⟩, ⟨r2, j2⟩, r3, j3⟩ : (_ ∧ _) ∧ (_ ∧ _) ∧ (_ ∧ _) ∧ _ ∧ _ := ⟨⟨cellOf hR5 0, frozenOf hR5 0⟩, ⟨cellOf hR5 1, frozenOf hR5 1⟩, ⟨cellOf hR5 2, frozenOf hR5 2⟩, cellOf hR5 3, frozenOf hR5 3⟩
    have HR5 := hide hR5
    have HB5 := hide hb5
    clear hR5 hb5
    clear hHeld
    have hHeld := hHeldN
    clear hHeldN
    clear hK K
    try simp only [Act.put, List.setIfInBounds_toArray, List.set_cons_zero, List.set_cons_succ]
    refine anyH_at (i := 14) (d := some 46) rfl rfl (by kernel_rfl) (by kernel_rfl) (by kernel_rfl) (fun _ _ _ h => h) (by rfl) (v := ?_) ?_ (by assumption) ?_
    rotate_left
    · (intro w hSw; (try dsimp only at hSw); go_simp <;> with_reducible rfl)
    simp only [Act.put, List.setIfInBounds_toArray, List.set_cons_zero, List.set_cons_succ]
    refine wpAnyH_ready (rs := [15]) (by kernel_rfl) (by simp) ?_
    refine AllReadyH.cons rfl (fun K hK => ?_) AllReadyH.nil
    go_simp
    have HF := hide (fin4 (a := .slice f1 db.length g1) (b := .slice af fl.length cf) (c := .bool has) (d := .slice f2 jr.length g2) (W := w) (unhide HR5) (Nat.le_refl _) (unhide HB5) rfl)
    have hsz : Hid (wr3.heap.size ≤ ((((wr3.setCell ⟨w.heap.size, 0, none⟩ (.slice f1 db.length g1)).setCell ⟨w.heap.size, 1, none⟩ (.slice af fl.length cf)).setCell ⟨w.heap.size, 2, none⟩ (.bool has)).setCell ⟨w.heap.size, 3, none⟩ (.slice f2 jr.length g2)).heap.size) := by show _ ≤ _; simp [World.setCell]
    clear r0 r1 r2 r3 j0 j1 j2 j3
    generalize World.setCell _ _ _ = W6 at *
    obtain ⟨⟨q0, q1, q2', q3⟩, hbel, hfar⟩ := unhide HF
    have hX6 : W6.cell? ⟨w2.heap.size, 0, none⟩ = some (.slice f1 db.length g1) ∧ W6.cell? ⟨w2.heap.size, 1, none⟩ = some (.slice af fl.length cf) ∧ W6.cell? ⟨w2.heap.size, 2, none⟩ = some (.bool has) ∧ W6.cell? ⟨w2.heap.size, 3, none⟩ = some (.slice f2 jr.length g2) := by
      have e : ∀ o, W6.cell? ⟨w2.heap.size, o, none⟩ = wr3.cell? ⟨w2.heap.size, o, none⟩ := fun o => World.cell?_of_block (hfar w2.heap.size (by omega))
      rw [e, e, e, e]
      exact (unhide TZ).cells
    have hD6 := (unhide TZ).din (unhide hsz) (fun k hk => hfar k (by omega))
    have hS6 := (((unhide HS).keep (unhide hsz) (fun k hk _ => hfar k (by omega))).stsR (by first | (simp; done) | (simp; omega) | omega)).weak (N' := fun _ => True) (fun _ _ => trivial)
    refine hK.out _ _ ?_ (fun hHeldN => ?_)
    · exact hX6
    clear hHeld
    have hHeld := hHeldN
    clear hHeldN
    clear hK K
    try simp only [Act.put, List.setIfInBounds_toArray, List.set_cons_zero, List.set_cons_succ]
    refine anyH_at (i := 16) (d := some 3) rfl rfl (by kernel_rfl) (by kernel_rfl) (by kernel_rfl) (fun _ _ _ h => h) (by rfl) (v := ?_) ?_ (by assumption) ?_
    rotate_left
    · (intro w hSw; (try dsimp only at hSw); go_simp <;> with_reducible rfl)
    simp only [Act.put, List.setIfInBounds_toArray, List.set_cons_zero, List.set_cons_succ]
    refine anyH_at (i := 17) (d := some 4) rfl rfl (by kernel_rfl) (by kernel_rfl) (by kernel_rfl) (fun _ _ _ h => h) (by rfl) (v := ?_) ?_ (by assumption) ?_
    rotate_left
    · (intro w hSw; (try dsimp only at hSw); go_simp <;> with_reducible rfl)
    simp only [Act.put, List.setIfInBounds_toArray, List.set_cons_zero, List.set_cons_succ]
    refine anyH_at (i := 18) (d := some 5) rfl rfl (by kernel_rfl) (by kernel_rfl) (by kernel_rfl) (fun _ _ _ h => h) (by rfl) (v := ?_) ?_ (by assumption) ?_
    rotate_left
    · (intro w hSw; (try dsimp only at hSw); go_simp <;> with_reducible rfl)
    simp only [Act.put, List.setIfInBounds_toArray, List.set_cons_zero, List.set_cons_succ]
    refine wpAnyH_done (by kernel_rfl) ?_ _
    clear hHeld
    obtain ⟨q, hq, hq0, hq1⟩ := quo9 y20 y21
    have e5 : IntKind.i64.wrap (q * 9) = q * 9 := by simp [IntKind.wrap, IntKind.bits, IntKind.signed]; omega
    have e6 : IntKind.i64.wrap (y1 - q * 9) = y1 - q * 9 := by simp [IntKind.wrap, IntKind.bits, IntKind.signed]; omega
    rw [hq, e5, e6]
    go_wp2
    exact bodyPost_ret (v := .tuple #[.agg #[.slice f1 db.length g1, .slice af fl.length cf, .bool has, .slice f2 jr.length g2], .slice sa M sc, .int .i64 (y1 - q * 9), .bool (y3 == 0)]) (by simp [results, Tryz.results17, go_sem, q0, q1, q2', q3]) rfl ⟨⟨db, fl, has, jr⟩, _, _, _, _, _, _, _, rfl, hD6, hS6, by first | (simp; done) | (simp; omega) | omega, by omega, by omega, hbel⟩
end Go.Proofs.YtkhanndmbpemfaaGreatDoor
