import Derived.Test.YtoccijcngncghaaGreatDoorDiskDoW
import Derived.Test.YtoccijcngncghaaGreatDoorSDiskW
import Derived.Test.YtoccijcngncghaaGreatDoorMix19
import Derived.Test.YtoccijcngncghaaGreatDoorCopyStW
import Derived.Deep.CutRange
/- The walk of FnExactDiskTear: it returns true and leaves what was there; for every disk and step. -/
namespace Go.Proofs.YtoccijcngncghaaGreatDoor
open Go.RowKit

attribute [local go_sem ↓] Go.wp_at_zero Go.wp_at_succ

/-- What is answered is small. -/
theorem tearA_small (d : Dk.D) (s : Dk.S) : small (Dk.tearA d s).1.db ∧ (Dk.tearA d s).1.fl.length ≤ 1000 ∧ small (Dk.tearA d s).1.jr := by
  unfold Dk.tearA
  by_cases h : d.ok = true ∧ s.ok = true
  · rw [if_pos h]
    obtain ⟨gf, h1, h2, _⟩ := Dk.ok_get h.1
    obtain ⟨_, _, _, h3⟩ := Dk.S.ok_get h.2
    have k1 := small_pkgs (Ix.planOk_pkgs h1)
    have k2 := small_pkgs (Ix.planOk_pkgs h2)
    have k3 := small_pkgs (Ix.planOk_pkgs h3)
    have lf : d.fl.length ≤ 1000 := by have := (Dk.files_get gf).1; omega
    by_cases x2 : s.k = 2
    · unfold Dk.D.torn; rw [if_pos x2]; exact ⟨k1, by show (d.fl.set _ _).length ≤ 1000; rw [List.length_set]; exact lf, k2⟩
    by_cases x3 : s.k = 3
    · unfold Dk.D.torn; rw [if_neg x2, if_pos x3]; exact ⟨small.nil, lf, k2⟩
    · unfold Dk.D.torn; rw [if_neg x2, if_neg x3]; exact ⟨k1, lf, k2⟩
  · rw [if_neg h]
    exact ⟨small.nil, Nat.zero_le _, small.nil⟩
/-- A disk in a box of the law's own. -/
structure DkB (B : Nat) (w : World) (Y : Nat) (d : Dk.D) (v1 vf v2 : Value) (e1 e2 : List El) : Prop where
  box : w.heap[Y]? = some (Obj.cells #[v1, vf, .bool d.has, v2] 26 (0, 0))
  ans : DAns B w v1 vf v2 e1 d.fl e2
  m1 : e1.map (·.1) = d.db
  m2 : e2.map (·.1) = d.jr
theorem DkB.later {B : Nat} {w w' : World} {Y : Nat} {d : Dk.D} {v1 vf v2 : Value} {e1 e2 : List El} (h : DkB B w Y d v1 vf v2 e1 e2) (hb : Below w.heap.size w w') : DkB B w' Y d v1 vf v2 e1 e2 := ⟨(hb.block _ (heapLt h.box)).trans h.box, h.ans.later hb, h.m1, h.m2⟩
theorem DkB.fill {B : Nat} {W w6 : World} {Y : Nat} {d : Dk.D} {u1 uf u2 : Value} {e1 e2 : List El} {r0 r1 r2 r3 : Value} (hR : w6.heap[Y]? = some (.cells #[r0, r1, r2, r3] 26 (0, 0))) (lR : B ≤ Y) (hb : Below B W w6)
    (hA : DAns B w6 u1 uf u2 e1 d.fl e2) (m1 : e1.map (·.1) = d.db) (m2 : e2.map (·.1) = d.jr) {w' : World}
    (hw : w' = (((w6.setCell ⟨Y, 0, none⟩ u1).setCell ⟨Y, 1, none⟩ uf).setCell ⟨Y, 2, none⟩ (.bool d.has)).setCell ⟨Y, 3, none⟩ u2) : DkB B w' Y d u1 uf u2 e1 e2 ∧ Below B W w' := by
  obtain ⟨_, h2, h3⟩ := endE (w := W) hR lR hb hA hw
  exact ⟨⟨by rw [hw, heapSet (heapSet (heapSet (heapSet hR)))]; rfl, h2, m1, m2⟩, h3⟩
theorem DAns.staysN {B : Nat} {N : Nat → Prop} {w w' : World} {v2 v1 vf : Value} {e1 e2 : List El} {fl : List Int} (h : DAns B w v1 vf v2 e1 fl e2) (st : Stays N w w') (hN : ∀ b, B ≤ b → ¬ N b) : DAns B w' v1 vf v2 e1 fl e2 :=
  ⟨h.p1.keep (fun g hg => st.block g (h.p1.lt g hg).2 (hN g (h.p1.lt g hg).1)), own_keepS h.pf (fun g _ _ hle hg => st.block g (heapLt hg) (hN g hle)), h.p2.keep (fun g hg => st.block g (h.p2.lt g hg).2 (hN g (h.p2.lt g hg).1)), h.far⟩

set_option linter.unusedSimpArgs false in
set_option maxHeartbeats 16000000 in
set_option maxRecDepth 100000 in
theorem exactDiskTear_walk (w : World) (a1 : Option Addr) (n1 c1 : Nat) (af : Option Addr) (nf cf : Nat) (has : Bool) (a2 : Option Addr) (n2 c2 : Nat) (sk sp sx : Int) (a3 : Option Addr) (n3 c3 : Nat) (h : DiskIn w a1 n1 c1 af nf cf a2 n2 c2) (hs : PkgsIn w a3 n3 c3) :
    Calls Tryz.prog 6 #[.agg #[.slice a1 n1 c1, .slice af nf cf, .bool has, .slice a2 n2 c2], .agg #[.int .i64 sk, .int .i64 sp, .int .i64 sx, .slice a3 n3 c3]] w fun e w' => e = .returned (.bool true) ∧ Below w.heap.size w w' := by
  obtain ⟨b0, hB, hsz⟩ : Below w.heap.size w ((w.alloc (.cells #[.slice a1 n1 c1, .slice af nf cf, .bool has, .slice a2 n2 c2] 45)).alloc (.cells #[.int .i64 sk, .int .i64 sp, .int .i64 sx, .slice a3 n3 c3] 47)) ∧ ((w.alloc (.cells #[.slice a1 n1 c1, .slice af nf cf, .bool has, .slice a2 n2 c2] 45)).alloc (.cells #[.int .i64 sk, .int .i64 sp, .int .i64 sx, .slice a3 n3 c3] 47)).heap[w.heap.size]? = some (.cells #[.slice a1 n1 c1, .slice af nf cf, .bool has, .slice a2 n2 c2] 45) ∧ ((w.alloc (.cells #[.slice a1 n1 c1, .slice af nf cf, .bool has, .slice a2 n2 c2] 45)).alloc (.cells #[.int .i64 sk, .int .i64 sp, .int .i64 sx, .slice a3 n3 c3] 47)).heap[w.heap.size + 1]? = some (.cells #[.int .i64 sk, .int .i64 sp, .int .i64 sx, .slice a3 n3 c3] 47) := by
    have hA := heap_alloc_new w (.cells #[.slice a1 n1 c1, .slice af nf cf, .bool has, .slice a2 n2 c2] 45)
    have bA := below1 w (.cells #[.slice a1 n1 c1, .slice af nf cf, .bool has, .slice a2 n2 c2] 45)
    have hB := heap_alloc_new (w.alloc (.cells #[.slice a1 n1 c1, .slice af nf cf, .bool has, .slice a2 n2 c2] 45)) (.cells #[.int .i64 sk, .int .i64 sp, .int .i64 sx, .slice a3 n3 c3] 47)
    have bB := below1 (w.alloc (.cells #[.slice a1 n1 c1, .slice af nf cf, .bool has, .slice a2 n2 c2] 45)) (.cells #[.int .i64 sk, .int .i64 sp, .int .i64 sx, .slice a3 n3 c3] 47)
    rw [sz1'] at hB
    exact ⟨bA.trans (bB.mono bA.size), (bB.block _ (heapLt hA)).trans hA, hB⟩
  have XB := hide hB
  have SB := hide hsz
  have BW := hide b0
  have HD := hide h
  have HT := hide hs
  clear b0 hB hsz h hs
  go_enter Tryz.func6, Tryz.ntmps6
  go_wp2_with fail
  generalize World.alloc _ _ = W0 at *
  refine (szDisk_in _ a1 n1 c1 af nf cf has a2 n2 c2 1048576 (by omega) (by omega) ((unhide HD).later (unhide BW))).mono ?_
  rintro e w1 ⟨b, ⟨d, rfl, rfl, rfl, rfl, hat, r, rfl, r0, r1⟩ | rfl⟩
  rotate_left
  · have B1 := hide ((unhide BW).trans (b.mono (unhide BW).size))
    clear b BW
    go_wp2
    go_ret
    exact ⟨rfl, unhide B1⟩
  have hr : ¬ r < 0 := by omega
  have AT := hide hat
  replace XB := hide ((b.block _ (heapLt (unhide XB))).trans (unhide XB))
  replace SB := hide ((b.block _ (heapLt (unhide SB))).trans (unhide SB))
  replace BW := hide ((unhide BW).trans (b.mono (unhide BW).size))
  clear b hat HD
  clear W0
  obtain ⟨s0, s1, s2, s3⟩ : _ ∧ _ ∧ _ ∧ _ := ⟨cellOf (unhide SB) 0, cellOf (unhide SB) 1, cellOf (unhide SB) 2, cellOf (unhide SB) 3⟩
  go_wp2_with fail
  refine (szStep_in _ sk sp sx a3 n3 c3 r r0 (by omega) ((unhide HT).later (unhide BW))).mono ?_
  rintro e w2 ⟨b, ⟨ps, rfl, hat, r', rfl, r0', r1'⟩ | rfl⟩
  rotate_left
  · have B1 := hide ((unhide BW).trans (b.mono (unhide BW).size))
    clear b BW s0 s1 s2 s3
    go_wp2
    go_ret
    exact ⟨rfl, unhide B1⟩
  have hr' : ¬ r' < 0 := by omega
  have ST := hide hat
  replace AT := hide ((unhide AT).later b)
  replace XB := hide ((b.block _ (heapLt (unhide XB))).trans (unhide XB))
  replace SB := hide ((b.block _ (heapLt (unhide SB))).trans (unhide SB))
  replace BW := hide ((unhide BW).trans (b.mono (unhide BW).size))
  clear b hat HT s0 s1 s2 s3
  clear w1
  have hsm := tearA_small d ⟨sk, sp, sx, ps⟩
  have CS := hide (fun (W : World) (v1 vf v2 vs : Value) (h : DiskAt W v1 vf v2 d) (hs : StepAt W vs ⟨sk, sp, sx, ps⟩) => specDiskTear_any (N := fun _ => True) (M := fun _ => True) (L := fun _ => True) W d ⟨sk, sp, sx, ps⟩ v1 vf v2 vs h.p1 h.pf h.p2 hs.pk)
  have CI := hide (fun (W : World) (g1 g2 g3 g4 : Nat) (h : DiskAt W (rowV g1 d.db.length) (rowV g2 d.fl.length) (rowV g3 d.jr.length) d) (hs : StepAt W (rowV g4 ps.length) ⟨sk, sp, sx, ps⟩) => implDiskTear_any (N := fun _ => True) (M := fun _ => True) (L := fun _ => True) W d ⟨sk, sp, sx, ps⟩ _ _ _ _ h.p1 (fun _ _ e => by injection e with _ _ e; omega) h.pf h.p2 (fun _ _ e => by injection e with _ _ e; omega) hs.pk (fun _ _ e => by injection e with _ _ e; have e' : ps.length = _ := e; exact Nat.le_of_eq e'))
  dsimp only [dkV, stV] at CS CI
  generalize Dk.tearA d ⟨sk, sp, sx, ps⟩ = AA at *
  obtain ⟨D, yes⟩ := AA
  dsimp only at CS CI hsm
  have HS := hide hsm
  have hyy : (yes != yes) = false := by simp
  have BA : Hid (Below w2.heap.size w2 w2) := Below.refl _ _
  clear hsm
  obtain ⟨⟨x0, s0⟩, ⟨x1, s1⟩, ⟨x2, s2⟩, x3, s3⟩ : (_ ∧ _) ∧ (_ ∧ _) ∧ (_ ∧ _) ∧ _ ∧ _ := ⟨⟨cellOf (unhide XB) 0, cellOf (unhide SB) 0⟩, ⟨cellOf (unhide XB) 1, cellOf (unhide SB) 1⟩, ⟨cellOf (unhide XB) 2, cellOf (unhide SB) 2⟩, cellOf (unhide XB) 3, cellOf (unhide SB) 3⟩
  go_upto_region 8 with fail
  have KK := hide (show ∀ w' : World, Below w2.heap.size w2 w' → (w'.cell? ⟨w.heap.size, 0, none⟩ = some (.slice a1 d.db.length c1) ∧ w'.cell? ⟨w.heap.size, 1, none⟩ = some (.slice af d.fl.length cf) ∧ w'.cell? ⟨w.heap.size, 2, none⟩ = some (.bool d.has) ∧ w'.cell? ⟨w.heap.size, 3, none⟩ = some (.slice a2 d.jr.length c2) ∧ w'.cell? ⟨w.heap.size + 1, 0, none⟩ = some (.int .i64 sk) ∧ w'.cell? ⟨w.heap.size + 1, 1, none⟩ = some (.int .i64 sp) ∧ w'.cell? ⟨w.heap.size + 1, 2, none⟩ = some (.int .i64 sx) ∧ w'.cell? ⟨w.heap.size + 1, 3, none⟩ = some (.slice a3 ps.length c3)) from fun w' hb => by
    have h1 := (hb.block _ (heapLt (unhide XB))).trans (unhide XB)
    have h2 := (hb.block _ (heapLt (unhide SB))).trans (unhide SB)
    exact ⟨cellOf h1 0, cellOf h1 1, cellOf h1 2, cellOf h1 3, cellOf h2 0, cellOf h2 1, cellOf h2 2, cellOf h2 3⟩)
  clear x0 x1 x2 x3 s0 s1 s2 s3
  go_cut [6, 7] from 27 to 34 (fun y o wx => ∃ (Yb : Nat) (v1 vf v2 : Value) (e1 e2 : List El), y = .pointer (some ⟨Yb, 0, none⟩) ∧ o = .bool yes ∧ DkB w2.heap.size wx Yb D v1 vf v2 e1 e2 ∧ Below w2.heap.size w2 wx)
  case first =>
    refine wp_region_held_drew (S := fun w' => w'.cell? ⟨w.heap.size, 0, none⟩ = some (.slice a1 d.db.length c1) ∧ w'.cell? ⟨w.heap.size, 1, none⟩ = some (.slice af d.fl.length cf) ∧ w'.cell? ⟨w.heap.size, 2, none⟩ = some (.bool d.has) ∧ w'.cell? ⟨w.heap.size, 3, none⟩ = some (.slice a2 d.jr.length c2) ∧ w'.cell? ⟨w.heap.size + 1, 0, none⟩ = some (.int .i64 sk) ∧ w'.cell? ⟨w.heap.size + 1, 1, none⟩ = some (.int .i64 sp) ∧ w'.cell? ⟨w.heap.size + 1, 2, none⟩ = some (.int .i64 sx) ∧ w'.cell? ⟨w.heap.size + 1, 3, none⟩ = some (.slice a3 ps.length c3)) (by kernel_rfl) (by exact unhide KK _ ((unhide BA).trans ((below_drew w2).mono (unhide BA).size))) (fun hHeld => ?_)
    refine anyH_at (i := 0) (d := some 28) rfl rfl (by kernel_rfl) (by kernel_rfl) (by kernel_rfl) (fun _ _ _ h => h) (by rfl) (v := ?_) ?_ (by assumption) ?_
    rotate_left
    · (intro w hSw; (try dsimp only at hSw); go_simp <;> with_reducible rfl)
    simp only [Act.put, List.setIfInBounds_toArray, List.set_cons_zero, List.set_cons_succ]
    refine anyH_at (i := 2) (d := some 30) rfl rfl (by kernel_rfl) (by kernel_rfl) (by kernel_rfl) (fun _ _ _ h => h) (by rfl) (v := ?_) ?_ (by assumption) ?_
    rotate_left
    · (intro w hSw; (try dsimp only at hSw); go_simp <;> with_reducible rfl)
    simp only [Act.put, List.setIfInBounds_toArray, List.set_cons_zero, List.set_cons_succ]
    have DD : Hid (Below w2.heap.size w2 w2.drew) := below_drew w2
    refine wpAnyH_ready (rs := [1, 8]) (by kernel_rfl) (by simp) ?_
    refine AllReadyH.cons rfl (fun K hK => ?_) (AllReadyH.cons rfl (fun K hK => ?_) AllReadyH.nil)
    rotate_left
    · go_simp
      have HBX : Hid ((w2.drew.alloc (.cells #[.slice none 0 0, .slice none 0 0, .bool false, .slice none 0 0] 26)).heap[w2.heap.size]? = _) := heap_alloc_new w2.drew (.cells #[.slice none 0 0, .slice none 0 0, .bool false, .slice none 0 0] 26)
      have LOX : Hid (w2.heap.size ≤ w2.heap.size) := (unhide DD).size
      have bX := below1 w2.drew (.cells #[.slice none 0 0, .slice none 0 0, .bool false, .slice none 0 0] 26)
      replace DD := hide ((unhide DD).trans (bX.mono (unhide DD).size))
      clear bX
      refine hK.out _ _ ?_ (fun hHeldN => ?_)
      · exact unhide KK _ ((unhide BA).trans ((unhide DD).mono (unhide BA).size))
      clear hHeld
      have hHeld := hHeldN
      clear hHeldN
      clear hK K
      try simp only [Act.put, List.setIfInBounds_toArray, List.set_cons_zero, List.set_cons_succ]
      refine wpAnyH_ready (rs := [1]) (by kernel_rfl) (by simp) ?_
      refine AllReadyH.cons rfl (fun K hK => ?_) AllReadyH.nil
      go_simp
      have LP := hide (unhide DD).size
      refine (toDisk_fill _ d _ _ _ ((unhide AT).later ((unhide BA).trans ((unhide DD).mono (unhide BA).size)))).mono ?_
      rintro e' u1 ⟨k1, k2, k3, hg, rfl, hn, b⟩
      replace DD := hide ((unhide DD).trans (b.mono (unhide DD).size))
      replace HBX := hide ((b.block _ (heapLt (unhide HBX))).trans (unhide HBX))
      have N1 := hide (hn.at (unhide AT))
      clear hn hg
      clear b LP
      go_wp2_with fail
      refine hK.out _ _ ?_ (fun hHeldN => ?_)
      · exact unhide KK _ ((unhide BA).trans ((unhide DD).mono (unhide BA).size))
      clear hHeld
      have hHeld := hHeldN
      clear hHeldN
      clear hK K
      try simp only [Act.put, List.setIfInBounds_toArray, List.set_cons_zero, List.set_cons_succ]
      refine wpAnyH_ready (rs := [3]) (by kernel_rfl) (by simp) ?_
      refine AllReadyH.cons rfl (fun K hK => ?_) AllReadyH.nil
      go_simp
      have LP := hide (unhide DD).size
      refine (toStep_fill _ ⟨sk, sp, sx, ps⟩ _ ((unhide ST).later ((unhide BA).trans ((unhide DD).mono (unhide BA).size)))).mono ?_
      rintro e' u2 ⟨k4, hg, rfl, hn, b⟩
      replace DD := hide ((unhide DD).trans (b.mono (unhide DD).size))
      replace HBX := hide ((b.block _ (heapLt (unhide HBX))).trans (unhide HBX))
      replace N1 := hide ((unhide N1).later b)
      have N2 := hide (hn.at (unhide ST))
      clear hn hg
      clear b LP
      go_wp2_with fail
      refine hK.out _ _ ?_ (fun hHeldN => ?_)
      · exact unhide KK _ ((unhide BA).trans ((unhide DD).mono (unhide BA).size))
      clear hHeld
      have hHeld := hHeldN
      clear hHeldN
      clear hK K
      try simp only [Act.put, List.setIfInBounds_toArray, List.set_cons_zero, List.set_cons_succ]
      refine wpAnyH_ready (rs := [4]) (by kernel_rfl) (by simp) ?_
      refine AllReadyH.cons rfl (fun K hK => ?_) AllReadyH.nil
      go_simp
      have LP := hide (unhide DD).size
      refine (unhide CS _ _ _ _ _ (unhide N1) (unhide N2)).mono ?_
      rintro e' u3 ⟨u, rfl, ⟨v1, vf, v2, e1, e2, rfl, hA, hm1, hm2⟩, b⟩
      replace DD := hide ((unhide DD).trans (b.mono (unhide DD).size))
      replace HBX := hide ((b.block _ (heapLt (unhide HBX))).trans (unhide HBX))
      replace N1 := hide ((unhide N1).later b)
      replace N2 := hide ((unhide N2).later b)
      have DA := hide (hA.base (unhide LP))
      have HM := hide (And.intro hm1 hm2)
      obtain ⟨f1, l1, i1⟩ := own_formS hA.p1.own
      obtain ⟨ff, lf, iff'⟩ := own_formS hA.pf
      obtain ⟨f2, l2, i2⟩ := own_formS hA.p2.own
      dsimp only at i1 iff' i2
      subst i1 iff' i2
      clear hA hm1 hm2
      try dsimp only [dkV]
      clear b LP
      go_wp2_with fail
      refine hK.out _ _ ?_ (fun hHeldN => ?_)
      · exact unhide KK _ ((unhide BA).trans ((unhide DD).mono (unhide BA).size))
      clear hHeld
      have hHeld := hHeldN
      clear hHeldN
      clear hK K
      try simp only [Act.put, List.setIfInBounds_toArray, List.set_cons_zero, List.set_cons_succ]
      refine anyH_at (i := 5) (d := some 27) rfl rfl (by kernel_rfl) (by kernel_rfl) (by kernel_rfl) (fun _ _ _ h => h) (by rfl) (v := ?_) ?_ (by assumption) ?_
      rotate_left
      · (intro w hSw; (try dsimp only at hSw); go_simp <;> with_reducible rfl)
      simp only [Act.put, List.setIfInBounds_toArray, List.set_cons_zero, List.set_cons_succ]
      refine anyH_at (i := 6) (d := some 33) rfl rfl (by kernel_rfl) (by kernel_rfl) (by kernel_rfl) (fun _ _ _ h => h) (by rfl) (v := ?_) ?_ (by assumption) ?_
      rotate_left
      · (intro w hSw; (try dsimp only at hSw); go_simp <;> with_reducible rfl)
      simp only [Act.put, List.setIfInBounds_toArray, List.set_cons_zero, List.set_cons_succ]
      refine anyH_at (i := 7) (d := some 34) rfl rfl (by kernel_rfl) (by kernel_rfl) (by kernel_rfl) (fun _ _ _ h => h) (by rfl) (v := ?_) ?_ (by assumption) ?_
      rotate_left
      · (intro w hSw; (try dsimp only at hSw); go_simp <;> with_reducible rfl)
      simp only [Act.put, List.setIfInBounds_toArray, List.set_cons_zero, List.set_cons_succ]
      refine wpAnyH_ready (rs := [9]) (by kernel_rfl) (by simp) ?_
      refine AllReadyH.cons rfl (fun K hK => ?_) AllReadyH.nil
      obtain ⟨⟨r0, t0⟩, ⟨r1, t1⟩, ⟨r2, t2⟩, r3, t3⟩ : (_ ∧ _) ∧ (_ ∧ _) ∧ (_ ∧ _) ∧ _ ∧ _ := ⟨⟨cellOf (unhide HBX) 0, frozenOf (unhide HBX) 0⟩, ⟨cellOf (unhide HBX) 1, frozenOf (unhide HBX) 1⟩, ⟨cellOf (unhide HBX) 2, frozenOf (unhide HBX) 2⟩, cellOf (unhide HBX) 3, frozenOf (unhide HBX) 3⟩
      go_simp
      obtain ⟨hG, hBF⟩ := DkB.fill (W := w2) (d := D) (unhide HBX) (unhide LOX) (unhide DD) (unhide DA) (unhide HM).1 (unhide HM).2 rfl
      refine hK.out _ _ ?_ (fun hHeldN => ?_)
      · exact unhide KK _ ((unhide BA).trans (hBF.mono (unhide BA).size))
      clear hHeld
      have hHeld := hHeldN
      clear hHeldN
      clear hK K
      try simp only [Act.put, List.setIfInBounds_toArray, List.set_cons_zero, List.set_cons_succ]
      refine anyH_at (i := 10) (d := some 7) rfl rfl (by kernel_rfl) (by kernel_rfl) (by kernel_rfl) (fun _ _ _ h => h) (by rfl) (v := ?_) ?_ (by assumption) ?_
      rotate_left
      · (intro w hSw; (try dsimp only at hSw); go_simp <;> with_reducible rfl)
      simp only [Act.put, List.setIfInBounds_toArray, List.set_cons_zero, List.set_cons_succ]
      refine wpAnyH_done (by kernel_rfl) ?_ _
      go_wp2_with fail
      go_meet
      exact ⟨_, _, _, _, _, _, rfl, rfl, hG, hBF⟩
    go_simp
    have LP := hide (unhide DD).size
    refine (toDisk_fill _ d _ _ _ ((unhide AT).later ((unhide BA).trans ((unhide DD).mono (unhide BA).size)))).mono ?_
    rintro e' u1 ⟨k1, k2, k3, hg, rfl, hn, b⟩
    replace DD := hide ((unhide DD).trans (b.mono (unhide DD).size))
    have N1 := hide (hn.at (unhide AT))
    clear hn hg
    clear b LP
    go_wp2_with fail
    refine hK.out _ _ ?_ (fun hHeldN => ?_)
    · exact unhide KK _ ((unhide BA).trans ((unhide DD).mono (unhide BA).size))
    clear hHeld
    have hHeld := hHeldN
    clear hHeldN
    clear hK K
    try simp only [Act.put, List.setIfInBounds_toArray, List.set_cons_zero, List.set_cons_succ]
    refine wpAnyH_ready (rs := [3, 8]) (by kernel_rfl) (by simp) ?_
    refine AllReadyH.cons rfl (fun K hK => ?_) (AllReadyH.cons rfl (fun K hK => ?_) AllReadyH.nil)
    rotate_left
    · go_simp
      have HBX := hide (heap_alloc_new u1 (.cells #[.slice none 0 0, .slice none 0 0, .bool false, .slice none 0 0] 26))
      have LOX : Hid (w2.heap.size ≤ u1.heap.size) := (unhide DD).size
      have bX := below1 u1 (.cells #[.slice none 0 0, .slice none 0 0, .bool false, .slice none 0 0] 26)
      replace DD := hide ((unhide DD).trans (bX.mono (unhide DD).size))
      replace N1 := hide ((unhide N1).later bX)
      clear bX
      refine hK.out _ _ ?_ (fun hHeldN => ?_)
      · exact unhide KK _ ((unhide BA).trans ((unhide DD).mono (unhide BA).size))
      clear hHeld
      have hHeld := hHeldN
      clear hHeldN
      clear hK K
      try simp only [Act.put, List.setIfInBounds_toArray, List.set_cons_zero, List.set_cons_succ]
      generalize hXb : u1.heap.size = Xb at *
      clear hXb
      refine wpAnyH_ready (rs := [3]) (by kernel_rfl) (by simp) ?_
      refine AllReadyH.cons rfl (fun K hK => ?_) AllReadyH.nil
      go_simp
      have LP := hide (unhide DD).size
      refine (toStep_fill _ ⟨sk, sp, sx, ps⟩ _ ((unhide ST).later ((unhide BA).trans ((unhide DD).mono (unhide BA).size)))).mono ?_
      rintro e' u2 ⟨k4, hg, rfl, hn, b⟩
      replace DD := hide ((unhide DD).trans (b.mono (unhide DD).size))
      replace N1 := hide ((unhide N1).later b)
      replace HBX := hide ((b.block _ (heapLt (unhide HBX))).trans (unhide HBX))
      have N2 := hide (hn.at (unhide ST))
      clear hn hg
      clear b LP
      go_wp2_with fail
      refine hK.out _ _ ?_ (fun hHeldN => ?_)
      · exact unhide KK _ ((unhide BA).trans ((unhide DD).mono (unhide BA).size))
      clear hHeld
      have hHeld := hHeldN
      clear hHeldN
      clear hK K
      try simp only [Act.put, List.setIfInBounds_toArray, List.set_cons_zero, List.set_cons_succ]
      refine wpAnyH_ready (rs := [4]) (by kernel_rfl) (by simp) ?_
      refine AllReadyH.cons rfl (fun K hK => ?_) AllReadyH.nil
      go_simp
      have LP := hide (unhide DD).size
      refine (unhide CS _ _ _ _ _ (unhide N1) (unhide N2)).mono ?_
      rintro e' u3 ⟨u, rfl, ⟨v1, vf, v2, e1, e2, rfl, hA, hm1, hm2⟩, b⟩
      replace DD := hide ((unhide DD).trans (b.mono (unhide DD).size))
      replace N1 := hide ((unhide N1).later b)
      replace HBX := hide ((b.block _ (heapLt (unhide HBX))).trans (unhide HBX))
      replace N2 := hide ((unhide N2).later b)
      have DA := hide (hA.base (unhide LP))
      have HM := hide (And.intro hm1 hm2)
      obtain ⟨f1, l1, i1⟩ := own_formS hA.p1.own
      obtain ⟨ff, lf, iff'⟩ := own_formS hA.pf
      obtain ⟨f2, l2, i2⟩ := own_formS hA.p2.own
      dsimp only at i1 iff' i2
      subst i1 iff' i2
      clear hA hm1 hm2
      try dsimp only [dkV]
      clear b LP
      go_wp2_with fail
      refine hK.out _ _ ?_ (fun hHeldN => ?_)
      · exact unhide KK _ ((unhide BA).trans ((unhide DD).mono (unhide BA).size))
      clear hHeld
      have hHeld := hHeldN
      clear hHeldN
      clear hK K
      try simp only [Act.put, List.setIfInBounds_toArray, List.set_cons_zero, List.set_cons_succ]
      refine anyH_at (i := 5) (d := some 27) rfl rfl (by kernel_rfl) (by kernel_rfl) (by kernel_rfl) (fun _ _ _ h => h) (by rfl) (v := ?_) ?_ (by assumption) ?_
      rotate_left
      · (intro w hSw; (try dsimp only at hSw); go_simp <;> with_reducible rfl)
      simp only [Act.put, List.setIfInBounds_toArray, List.set_cons_zero, List.set_cons_succ]
      refine anyH_at (i := 6) (d := some 33) rfl rfl (by kernel_rfl) (by kernel_rfl) (by kernel_rfl) (fun _ _ _ h => h) (by rfl) (v := ?_) ?_ (by assumption) ?_
      rotate_left
      · (intro w hSw; (try dsimp only at hSw); go_simp <;> with_reducible rfl)
      simp only [Act.put, List.setIfInBounds_toArray, List.set_cons_zero, List.set_cons_succ]
      refine anyH_at (i := 7) (d := some 34) rfl rfl (by kernel_rfl) (by kernel_rfl) (by kernel_rfl) (fun _ _ _ h => h) (by rfl) (v := ?_) ?_ (by assumption) ?_
      rotate_left
      · (intro w hSw; (try dsimp only at hSw); go_simp <;> with_reducible rfl)
      simp only [Act.put, List.setIfInBounds_toArray, List.set_cons_zero, List.set_cons_succ]
      refine wpAnyH_ready (rs := [9]) (by kernel_rfl) (by simp) ?_
      refine AllReadyH.cons rfl (fun K hK => ?_) AllReadyH.nil
      obtain ⟨⟨r0, t0⟩, ⟨r1, t1⟩, ⟨r2, t2⟩, r3, t3⟩ : (_ ∧ _) ∧ (_ ∧ _) ∧ (_ ∧ _) ∧ _ ∧ _ := ⟨⟨cellOf (unhide HBX) 0, frozenOf (unhide HBX) 0⟩, ⟨cellOf (unhide HBX) 1, frozenOf (unhide HBX) 1⟩, ⟨cellOf (unhide HBX) 2, frozenOf (unhide HBX) 2⟩, cellOf (unhide HBX) 3, frozenOf (unhide HBX) 3⟩
      go_simp
      obtain ⟨hG, hBF⟩ := DkB.fill (W := w2) (d := D) (unhide HBX) (unhide LOX) (unhide DD) (unhide DA) (unhide HM).1 (unhide HM).2 rfl
      refine hK.out _ _ ?_ (fun hHeldN => ?_)
      · exact unhide KK _ ((unhide BA).trans (hBF.mono (unhide BA).size))
      clear hHeld
      have hHeld := hHeldN
      clear hHeldN
      clear hK K
      try simp only [Act.put, List.setIfInBounds_toArray, List.set_cons_zero, List.set_cons_succ]
      refine anyH_at (i := 10) (d := some 7) rfl rfl (by kernel_rfl) (by kernel_rfl) (by kernel_rfl) (fun _ _ _ h => h) (by rfl) (v := ?_) ?_ (by assumption) ?_
      rotate_left
      · (intro w hSw; (try dsimp only at hSw); go_simp <;> with_reducible rfl)
      simp only [Act.put, List.setIfInBounds_toArray, List.set_cons_zero, List.set_cons_succ]
      refine wpAnyH_done (by kernel_rfl) ?_ _
      go_wp2_with fail
      go_meet
      exact ⟨_, _, _, _, _, _, rfl, rfl, hG, hBF⟩
    go_simp
    have LP := hide (unhide DD).size
    refine (toStep_fill _ ⟨sk, sp, sx, ps⟩ _ ((unhide ST).later ((unhide BA).trans ((unhide DD).mono (unhide BA).size)))).mono ?_
    rintro e' u2 ⟨k4, hg, rfl, hn, b⟩
    replace DD := hide ((unhide DD).trans (b.mono (unhide DD).size))
    replace N1 := hide ((unhide N1).later b)
    have N2 := hide (hn.at (unhide ST))
    clear hn hg
    clear b LP
    go_wp2_with fail
    refine hK.out _ _ ?_ (fun hHeldN => ?_)
    · exact unhide KK _ ((unhide BA).trans ((unhide DD).mono (unhide BA).size))
    clear hHeld
    have hHeld := hHeldN
    clear hHeldN
    clear hK K
    try simp only [Act.put, List.setIfInBounds_toArray, List.set_cons_zero, List.set_cons_succ]
    refine wpAnyH_ready (rs := [4, 8]) (by kernel_rfl) (by simp) ?_
    refine AllReadyH.cons rfl (fun K hK => ?_) (AllReadyH.cons rfl (fun K hK => ?_) AllReadyH.nil)
    rotate_left
    · go_simp
      have HBX := hide (heap_alloc_new u2 (.cells #[.slice none 0 0, .slice none 0 0, .bool false, .slice none 0 0] 26))
      have LOX : Hid (w2.heap.size ≤ u2.heap.size) := (unhide DD).size
      have bX := below1 u2 (.cells #[.slice none 0 0, .slice none 0 0, .bool false, .slice none 0 0] 26)
      replace DD := hide ((unhide DD).trans (bX.mono (unhide DD).size))
      replace N1 := hide ((unhide N1).later bX)
      replace N2 := hide ((unhide N2).later bX)
      clear bX
      refine hK.out _ _ ?_ (fun hHeldN => ?_)
      · exact unhide KK _ ((unhide BA).trans ((unhide DD).mono (unhide BA).size))
      clear hHeld
      have hHeld := hHeldN
      clear hHeldN
      clear hK K
      try simp only [Act.put, List.setIfInBounds_toArray, List.set_cons_zero, List.set_cons_succ]
      generalize hXb : u2.heap.size = Xb at *
      clear hXb
      refine wpAnyH_ready (rs := [4]) (by kernel_rfl) (by simp) ?_
      refine AllReadyH.cons rfl (fun K hK => ?_) AllReadyH.nil
      go_simp
      have LP := hide (unhide DD).size
      refine (unhide CS _ _ _ _ _ (unhide N1) (unhide N2)).mono ?_
      rintro e' u3 ⟨u, rfl, ⟨v1, vf, v2, e1, e2, rfl, hA, hm1, hm2⟩, b⟩
      replace DD := hide ((unhide DD).trans (b.mono (unhide DD).size))
      replace N1 := hide ((unhide N1).later b)
      replace N2 := hide ((unhide N2).later b)
      replace HBX := hide ((b.block _ (heapLt (unhide HBX))).trans (unhide HBX))
      have DA := hide (hA.base (unhide LP))
      have HM := hide (And.intro hm1 hm2)
      obtain ⟨f1, l1, i1⟩ := own_formS hA.p1.own
      obtain ⟨ff, lf, iff'⟩ := own_formS hA.pf
      obtain ⟨f2, l2, i2⟩ := own_formS hA.p2.own
      dsimp only at i1 iff' i2
      subst i1 iff' i2
      clear hA hm1 hm2
      try dsimp only [dkV]
      clear b LP
      go_wp2_with fail
      refine hK.out _ _ ?_ (fun hHeldN => ?_)
      · exact unhide KK _ ((unhide BA).trans ((unhide DD).mono (unhide BA).size))
      clear hHeld
      have hHeld := hHeldN
      clear hHeldN
      clear hK K
      try simp only [Act.put, List.setIfInBounds_toArray, List.set_cons_zero, List.set_cons_succ]
      refine anyH_at (i := 5) (d := some 27) rfl rfl (by kernel_rfl) (by kernel_rfl) (by kernel_rfl) (fun _ _ _ h => h) (by rfl) (v := ?_) ?_ (by assumption) ?_
      rotate_left
      · (intro w hSw; (try dsimp only at hSw); go_simp <;> with_reducible rfl)
      simp only [Act.put, List.setIfInBounds_toArray, List.set_cons_zero, List.set_cons_succ]
      refine anyH_at (i := 6) (d := some 33) rfl rfl (by kernel_rfl) (by kernel_rfl) (by kernel_rfl) (fun _ _ _ h => h) (by rfl) (v := ?_) ?_ (by assumption) ?_
      rotate_left
      · (intro w hSw; (try dsimp only at hSw); go_simp <;> with_reducible rfl)
      simp only [Act.put, List.setIfInBounds_toArray, List.set_cons_zero, List.set_cons_succ]
      refine anyH_at (i := 7) (d := some 34) rfl rfl (by kernel_rfl) (by kernel_rfl) (by kernel_rfl) (fun _ _ _ h => h) (by rfl) (v := ?_) ?_ (by assumption) ?_
      rotate_left
      · (intro w hSw; (try dsimp only at hSw); go_simp <;> with_reducible rfl)
      simp only [Act.put, List.setIfInBounds_toArray, List.set_cons_zero, List.set_cons_succ]
      refine wpAnyH_ready (rs := [9]) (by kernel_rfl) (by simp) ?_
      refine AllReadyH.cons rfl (fun K hK => ?_) AllReadyH.nil
      obtain ⟨⟨r0, t0⟩, ⟨r1, t1⟩, ⟨r2, t2⟩, r3, t3⟩ : (_ ∧ _) ∧ (_ ∧ _) ∧ (_ ∧ _) ∧ _ ∧ _ := ⟨⟨cellOf (unhide HBX) 0, frozenOf (unhide HBX) 0⟩, ⟨cellOf (unhide HBX) 1, frozenOf (unhide HBX) 1⟩, ⟨cellOf (unhide HBX) 2, frozenOf (unhide HBX) 2⟩, cellOf (unhide HBX) 3, frozenOf (unhide HBX) 3⟩
      go_simp
      obtain ⟨hG, hBF⟩ := DkB.fill (W := w2) (d := D) (unhide HBX) (unhide LOX) (unhide DD) (unhide DA) (unhide HM).1 (unhide HM).2 rfl
      refine hK.out _ _ ?_ (fun hHeldN => ?_)
      · exact unhide KK _ ((unhide BA).trans (hBF.mono (unhide BA).size))
      clear hHeld
      have hHeld := hHeldN
      clear hHeldN
      clear hK K
      try simp only [Act.put, List.setIfInBounds_toArray, List.set_cons_zero, List.set_cons_succ]
      refine anyH_at (i := 10) (d := some 7) rfl rfl (by kernel_rfl) (by kernel_rfl) (by kernel_rfl) (fun _ _ _ h => h) (by rfl) (v := ?_) ?_ (by assumption) ?_
      rotate_left
      · (intro w hSw; (try dsimp only at hSw); go_simp <;> with_reducible rfl)
      simp only [Act.put, List.setIfInBounds_toArray, List.set_cons_zero, List.set_cons_succ]
      refine wpAnyH_done (by kernel_rfl) ?_ _
      go_wp2_with fail
      go_meet
      exact ⟨_, _, _, _, _, _, rfl, rfl, hG, hBF⟩
    go_simp
    have LP := hide (unhide DD).size
    refine (unhide CS _ _ _ _ _ (unhide N1) (unhide N2)).mono ?_
    rintro e' u3 ⟨u, rfl, ⟨v1, vf, v2, e1, e2, rfl, hA, hm1, hm2⟩, b⟩
    replace DD := hide ((unhide DD).trans (b.mono (unhide DD).size))
    replace N1 := hide ((unhide N1).later b)
    replace N2 := hide ((unhide N2).later b)
    have DA := hide (hA.base (unhide LP))
    have HM := hide (And.intro hm1 hm2)
    obtain ⟨f1, l1, i1⟩ := own_formS hA.p1.own
    obtain ⟨ff, lf, iff'⟩ := own_formS hA.pf
    obtain ⟨f2, l2, i2⟩ := own_formS hA.p2.own
    dsimp only at i1 iff' i2
    subst i1 iff' i2
    clear hA hm1 hm2
    try dsimp only [dkV]
    clear b LP
    go_wp2_with fail
    refine hK.out _ _ ?_ (fun hHeldN => ?_)
    · exact unhide KK _ ((unhide BA).trans ((unhide DD).mono (unhide BA).size))
    clear hHeld
    have hHeld := hHeldN
    clear hHeldN
    clear hK K
    try simp only [Act.put, List.setIfInBounds_toArray, List.set_cons_zero, List.set_cons_succ]
    refine anyH_at (i := 5) (d := some 27) rfl rfl (by kernel_rfl) (by kernel_rfl) (by kernel_rfl) (fun _ _ _ h => h) (by rfl) (v := ?_) ?_ (by assumption) ?_
    rotate_left
    · (intro w hSw; (try dsimp only at hSw); go_simp <;> with_reducible rfl)
    simp only [Act.put, List.setIfInBounds_toArray, List.set_cons_zero, List.set_cons_succ]
    refine anyH_at (i := 6) (d := some 33) rfl rfl (by kernel_rfl) (by kernel_rfl) (by kernel_rfl) (fun _ _ _ h => h) (by rfl) (v := ?_) ?_ (by assumption) ?_
    rotate_left
    · (intro w hSw; (try dsimp only at hSw); go_simp <;> with_reducible rfl)
    simp only [Act.put, List.setIfInBounds_toArray, List.set_cons_zero, List.set_cons_succ]
    refine anyH_at (i := 7) (d := some 34) rfl rfl (by kernel_rfl) (by kernel_rfl) (by kernel_rfl) (fun _ _ _ h => h) (by rfl) (v := ?_) ?_ (by assumption) ?_
    rotate_left
    · (intro w hSw; (try dsimp only at hSw); go_simp <;> with_reducible rfl)
    simp only [Act.put, List.setIfInBounds_toArray, List.set_cons_zero, List.set_cons_succ]
    refine wpAnyH_ready (rs := [8]) (by kernel_rfl) (by simp) ?_
    refine AllReadyH.cons rfl (fun K hK => ?_) AllReadyH.nil
    go_simp
    have HBX := hide (heap_alloc_new u3 (.cells #[.slice none 0 0, .slice none 0 0, .bool false, .slice none 0 0] 26))
    have LOX : Hid (w2.heap.size ≤ u3.heap.size) := (unhide DD).size
    have bX := below1 u3 (.cells #[.slice none 0 0, .slice none 0 0, .bool false, .slice none 0 0] 26)
    replace DD := hide ((unhide DD).trans (bX.mono (unhide DD).size))
    replace N1 := hide ((unhide N1).later bX)
    replace N2 := hide ((unhide N2).later bX)
    replace DA := hide ((unhide DA).later bX)
    clear bX
    refine hK.out _ _ ?_ (fun hHeldN => ?_)
    · exact unhide KK _ ((unhide BA).trans ((unhide DD).mono (unhide BA).size))
    clear hHeld
    have hHeld := hHeldN
    clear hHeldN
    clear hK K
    try simp only [Act.put, List.setIfInBounds_toArray, List.set_cons_zero, List.set_cons_succ]
    generalize hXb : u3.heap.size = Xb at *
    clear hXb
    refine wpAnyH_ready (rs := [9]) (by kernel_rfl) (by simp) ?_
    refine AllReadyH.cons rfl (fun K hK => ?_) AllReadyH.nil
    obtain ⟨⟨r0, t0⟩, ⟨r1, t1⟩, ⟨r2, t2⟩, r3, t3⟩ : (_ ∧ _) ∧ (_ ∧ _) ∧ (_ ∧ _) ∧ _ ∧ _ := ⟨⟨cellOf (unhide HBX) 0, frozenOf (unhide HBX) 0⟩, ⟨cellOf (unhide HBX) 1, frozenOf (unhide HBX) 1⟩, ⟨cellOf (unhide HBX) 2, frozenOf (unhide HBX) 2⟩, cellOf (unhide HBX) 3, frozenOf (unhide HBX) 3⟩
    go_simp
    obtain ⟨hG, hBF⟩ := DkB.fill (W := w2) (d := D) (unhide HBX) (unhide LOX) (unhide DD) (unhide DA) (unhide HM).1 (unhide HM).2 rfl
    refine hK.out _ _ ?_ (fun hHeldN => ?_)
    · exact unhide KK _ ((unhide BA).trans (hBF.mono (unhide BA).size))
    clear hHeld
    have hHeld := hHeldN
    clear hHeldN
    clear hK K
    try simp only [Act.put, List.setIfInBounds_toArray, List.set_cons_zero, List.set_cons_succ]
    refine anyH_at (i := 10) (d := some 7) rfl rfl (by kernel_rfl) (by kernel_rfl) (by kernel_rfl) (fun _ _ _ h => h) (by rfl) (v := ?_) ?_ (by assumption) ?_
    rotate_left
    · (intro w hSw; (try dsimp only at hSw); go_simp <;> with_reducible rfl)
    simp only [Act.put, List.setIfInBounds_toArray, List.set_cons_zero, List.set_cons_succ]
    refine wpAnyH_done (by kernel_rfl) ?_ _
    go_wp2_with fail
    go_meet
    exact ⟨_, _, _, _, _, _, rfl, rfl, hG, hBF⟩
  case rest =>
  obtain ⟨Yw, vw1, vwf, vw2, ew1, ew2, rfl, rfl, hGr, hBr⟩ := hcut
  obtain ⟨t1, u1, i1⟩ := own_formS hGr.ans.p1.own
  obtain ⟨tf, uf, iff'⟩ := own_formS hGr.ans.pf
  obtain ⟨t2, u2, i2⟩ := own_formS hGr.ans.p2.own
  subst i1 iff' i2
  have WT := hide hGr
  replace BA := hide ((unhide BA).trans (hBr.mono (unhide BA).size))
  have BV : Hid (Below wc.heap.size wc wc) := Below.refl _ _
  clear hGr hBr CS
  obtain ⟨x0, x1, x2, x3, s0, s1, s2, s3⟩ := unhide KK _ ((unhide BA).trans ((unhide BV).mono (unhide BA).size))
  go_wp2_with fail
  refine (toDisk_fill _ d _ _ _ ((unhide AT).later ((unhide BA).trans ((unhide BV).mono (unhide BA).size)))).mono ?_
  rintro e w3 ⟨g1, g2, g3, hg1, rfl, hn, b⟩
  clear x0 x1 x2 x3 s0 s1 s2 s3
  have hE : g3 < w3.heap.size := FillP.lt hn.f2
  have hw3 : wc.heap.size ≤ w3.heap.size := b.size
  have b3 := below1 w3 (.cells #[rowV g1 d.db.length, rowV g2 d.fl.length, .bool d.has, rowV g3 d.jr.length] 26)
  have bb := b.trans (b3.mono b.size)
  have YB := hide (heap_alloc_new w3 (.cells #[rowV g1 d.db.length, rowV g2 d.fl.length, .bool d.has, rowV g3 d.jr.length] 26))
  have O12 := hide (And.intro hn.o1 hn.o2)
  have AY := hide ((hn.at (unhide AT)).later b3)
  have M1 := hide (hn.w1.later b3)
  have MF := hide (hn.ff.later b3)
  have M2 := hide (hn.w2.later b3)
  have hWE : w3.heap.size < (w3.alloc (.cells #[rowV g1 d.db.length, rowV g2 d.fl.length, .bool d.has, rowV g3 d.jr.length] 26)).heap.size := heapLt (unhide YB)
  replace BV := hide ((unhide BV).trans (bb.mono (unhide BV).size))
  clear b b3 bb hn
  obtain ⟨x0, x1, x2, x3, s0, s1, s2, s3⟩ := unhide KK _ ((unhide BA).trans ((unhide BV).mono (unhide BA).size))
  go_wp2_with fail
  refine (toStep_fill _ ⟨sk, sp, sx, ps⟩ _ ((unhide ST).later ((unhide BA).trans ((unhide BV).mono (unhide BA).size)))).mono ?_
  generalize hYb : w3.heap.size = Yb at *
  generalize hW4 : w3.alloc _ = W4 at *
  clear hYb hW4
  clear w3
  rintro e w5 ⟨g4, hg4, rfl, hn, b⟩
  clear x0 x1 x2 x3 s0 s1 s2 s3
  have b5 := below1 w5 (.cells #[.int .i64 sk, .int .i64 sp, .int .i64 sx, rowV g4 ps.length] 28)
  have bb := b.trans (b5.mono b.size)
  have ZB := hide (heap_alloc_new w5 (.cells #[.int .i64 sk, .int .i64 sp, .int .i64 sx, rowV g4 ps.length] 28))
  have AZ := hide ((hn.at (unhide ST)).later b5)
  have M4 := hide (hn.w1.later b5)
  have hZ : Yb < w5.heap.size := Nat.lt_of_lt_of_le hWE b.size
  have hZ2 : w5.heap.size < (w5.alloc (.cells #[.int .i64 sk, .int .i64 sp, .int .i64 sx, rowV g4 ps.length] 28)).heap.size := heapLt (unhide ZB)
  have hg4b : g4 < w5.heap.size := FillP.lt hn.f1
  replace BV := hide ((unhide BV).trans (bb.mono (unhide BV).size))
  replace YB := hide ((bb.block _ (heapLt (unhide YB))).trans (unhide YB))
  replace AY := hide ((unhide AY).later bb)
  replace M1 := hide ((unhide M1).later bb)
  replace MF := hide ((unhide MF).later bb)
  replace M2 := hide ((unhide M2).later bb)
  clear b b5 bb hn
  obtain ⟨y0, y1, y2, y3⟩ : _ ∧ _ ∧ _ ∧ _ := ⟨cellOf (unhide YB) 0, cellOf (unhide YB) 1, cellOf (unhide YB) 2, cellOf (unhide YB) 3⟩
  obtain ⟨z0, z1, z2, z3⟩ : _ ∧ _ ∧ _ ∧ _ := ⟨cellOf (unhide ZB) 0, cellOf (unhide ZB) 1, cellOf (unhide ZB) 2, cellOf (unhide ZB) 3⟩
  go_wp2_with fail
  refine (unhide CI _ g1 g2 g3 g4 (unhide AY) (unhide AZ)).mono ?_
  generalize hZb : w5.heap.size = Zb at *
  generalize hW6 : w5.alloc _ = W6 at *
  clear hZb hW6
  clear w5
  rintro e w7 ⟨u, rfl, ⟨v1, vf, v2, ea1, ea2, rfl, hA, hm1, hm2⟩, b⟩
  dsimp only at hA hm1 hm2
  obtain ⟨p1, q1, i1⟩ := own_formS hA.p1.own
  obtain ⟨pf, qf, iff'⟩ := own_formS hA.pf
  obtain ⟨p2, q2, i2⟩ := own_formS hA.p2.own
  subst i1 iff' i2
  try dsimp only [dkV]
  clear y0 y1 y2 y3 z0 z1 z2 z3
  have b7 := below1 w7 (.cells #[.slice p1 ea1.length q1, .slice pf D.fl.length qf, .bool D.has, .slice p2 ea2.length q2] 26)
  have bb := b.trans (b7.mono b.size)
  have GB := hide (heap_alloc_new w7 (.cells #[.slice p1 ea1.length q1, .slice pf D.fl.length qf, .bool D.has, .slice p2 ea2.length q2] 26))
  have DA := hide (hA.later b7)
  have HM := hide (And.intro hm1 hm2)
  have hGb : W6.heap.size ≤ w7.heap.size := b.size
  replace BV := hide ((unhide BV).trans (bb.mono (unhide BV).size))
  replace YB := hide ((bb.block _ (heapLt (unhide YB))).trans (unhide YB))
  replace AY := hide ((unhide AY).later bb)
  replace M1 := hide ((unhide M1).later bb)
  replace MF := hide ((unhide MF).later bb)
  replace M2 := hide ((unhide M2).later bb)
  replace ZB := hide ((bb.block _ (heapLt (unhide ZB))).trans (unhide ZB))
  replace AZ := hide ((unhide AZ).later bb)
  replace M4 := hide ((unhide M4).later bb)
  clear b b7 bb hA hm1 hm2
  have WN := hide ((unhide WT).later (unhide BV))
  obtain ⟨gc0, gc1, gc2, gc3⟩ : _ ∧ _ ∧ _ ∧ _ := ⟨cellOf (unhide GB) 0, cellOf (unhide GB) 1, cellOf (unhide GB) 2, cellOf (unhide GB) 3⟩
  obtain ⟨j0, j1, j2, j3⟩ : _ ∧ _ ∧ _ ∧ _ := ⟨cellOf (unhide WN).box 0, cellOf (unhide WN).box 1, cellOf (unhide WN).box 2, cellOf (unhide WN).box 3⟩
  have CE := hide (eqDisk_any _ D _ _ _ _ _ _ ((unhide DA).p1.pksA ((unhide HM).1) (unhide HS).1) (OwI.wide (unhide DA).pf (by have := (unhide HS).2.1; omega)) ((unhide DA).p2.pksA ((unhide HM).2) (unhide HS).2.2) ((unhide WN).ans.p1.pksA ((unhide WN).m1) (unhide HS).1) (OwI.wide (unhide WN).ans.pf (by have := (unhide HS).2.1; omega)) ((unhide WN).ans.p2.pksA ((unhide WN).m2) (unhide HS).2.2))
  go_wp2_with fail
  refine (unhide CE).mono ?_
  generalize hGx : w7.heap.size = Gb at *
  generalize hW8 : w7.alloc _ = W8 at *
  clear hGx hW8 CE
  clear w7
  rintro e w9 ⟨rfl, b⟩
  clear gc0 gc1 gc2 gc3 j0 j1 j2 j3 WN
  replace BV := hide ((unhide BV).trans (b.mono (unhide BV).size))
  replace YB := hide ((b.block _ (heapLt (unhide YB))).trans (unhide YB))
  replace AY := hide ((unhide AY).later b)
  replace M1 := hide ((unhide M1).later b)
  replace MF := hide ((unhide MF).later b)
  replace M2 := hide ((unhide M2).later b)
  replace ZB := hide ((b.block _ (heapLt (unhide ZB))).trans (unhide ZB))
  replace AZ := hide ((unhide AZ).later b)
  replace M4 := hide ((unhide M4).later b)
  replace GB := hide ((b.block _ (heapLt (unhide GB))).trans (unhide GB))
  replace DA := hide ((unhide DA).later b)
  clear b
  go_wp2_with fail
  refine wp_region_held_drew (S := fun w' => w'.cell? ⟨Yb, 0, none⟩ = some (rowV g1 d.db.length) ∧ w'.cell? ⟨Yb, 1, none⟩ = some (rowV g2 d.fl.length) ∧ w'.cell? ⟨Yb, 2, none⟩ = some (.bool d.has) ∧ w'.cell? ⟨Yb, 3, none⟩ = some (rowV g3 d.jr.length) ∧ w'.cell? ⟨w.heap.size, 0, none⟩ = some (.slice a1 d.db.length c1) ∧ w'.cell? ⟨w.heap.size, 1, none⟩ = some (.slice af d.fl.length cf) ∧ w'.cell? ⟨w.heap.size, 2, none⟩ = some (.bool d.has) ∧ w'.cell? ⟨w.heap.size, 3, none⟩ = some (.slice a2 d.jr.length c2) ∧ w'.cell? ⟨w.heap.size + 1, 0, none⟩ = some (.int .i64 sk) ∧ w'.cell? ⟨w.heap.size + 1, 1, none⟩ = some (.int .i64 sp) ∧ w'.cell? ⟨w.heap.size + 1, 2, none⟩ = some (.int .i64 sx) ∧ w'.cell? ⟨w.heap.size + 1, 3, none⟩ = some (.slice a3 ps.length c3)) (by kernel_rfl) ⟨cellOf (unhide YB) 0, cellOf (unhide YB) 1, cellOf (unhide YB) 2, cellOf (unhide YB) 3, unhide KK _ (((unhide BA).trans ((unhide BV).mono (unhide BA).size)).drew)⟩ (fun hHeld => ?_)
  refine anyH_at (i := 0) (d := some 54) rfl rfl (by kernel_rfl) (by kernel_rfl) (by kernel_rfl) (fun _ _ _ h => h) (by rfl) (v := ?_) ?_ (by assumption) ?_
  rotate_left
  · (intro w hSw; (try dsimp only at hSw); go_simp <;> with_reducible rfl)
  simp only [Act.put, List.setIfInBounds_toArray, List.set_cons_zero, List.set_cons_succ]
  refine anyH_at (i := 1) (d := some 55) rfl rfl (by kernel_rfl) (by kernel_rfl) (by kernel_rfl) (fun _ _ _ h => h) (by rfl) (v := ?_) ?_ (by assumption) ?_
  rotate_left
  · (intro w hSw; (try dsimp only at hSw); go_simp <;> with_reducible rfl)
  simp only [Act.put, List.setIfInBounds_toArray, List.set_cons_zero, List.set_cons_succ]
  refine wpAnyH_ready (rs := [2]) (by kernel_rfl) (by simp) ?_
  refine AllReadyH.cons rfl (fun K hK => ?_) AllReadyH.nil
  go_simp
  have b := below_drew w9
  replace BV := hide ((unhide BV).trans (b.mono (unhide BV).size))
  replace YB := hide ((b.block _ (heapLt (unhide YB))).trans (unhide YB))
  replace AY := hide ((unhide AY).later b)
  replace M1 := hide ((unhide M1).later b)
  replace MF := hide ((unhide MF).later b)
  replace M2 := hide ((unhide M2).later b)
  replace ZB := hide ((b.block _ (heapLt (unhide ZB))).trans (unhide ZB))
  replace AZ := hide ((unhide AZ).later b)
  replace M4 := hide ((unhide M4).later b)
  replace GB := hide ((b.block _ (heapLt (unhide GB))).trans (unhide GB))
  replace DA := hide ((unhide DA).later b)
  clear b
  refine (toDisk_fill _ d _ _ _ ((unhide AT).later ((unhide BA).trans ((unhide BV).mono (unhide BA).size)))).mono ?_
  rintro e w10 ⟨k1, k2, k3, hg, rfl, hn, b⟩
  replace BV := hide ((unhide BV).trans (b.mono (unhide BV).size))
  replace YB := hide ((b.block _ (heapLt (unhide YB))).trans (unhide YB))
  replace AY := hide ((unhide AY).later b)
  replace M1 := hide ((unhide M1).later b)
  replace MF := hide ((unhide MF).later b)
  replace M2 := hide ((unhide M2).later b)
  replace ZB := hide ((b.block _ (heapLt (unhide ZB))).trans (unhide ZB))
  replace AZ := hide ((unhide AZ).later b)
  replace M4 := hide ((unhide M4).later b)
  replace GB := hide ((b.block _ (heapLt (unhide GB))).trans (unhide GB))
  replace DA := hide ((unhide DA).later b)
  have N1 := hide (hn.at (unhide AT))
  clear hn hg
  clear b
  go_wp2_with fail
  refine hK.out _ _ ?_ (fun hHeldN => ?_)
  · exact ⟨cellOf (unhide YB) 0, cellOf (unhide YB) 1, cellOf (unhide YB) 2, cellOf (unhide YB) 3, unhide KK _ ((unhide BA).trans ((unhide BV).mono (unhide BA).size))⟩
  clear hHeld
  have hHeld := hHeldN
  clear hHeldN
  clear hK K
  try simp only [Act.put, List.setIfInBounds_toArray, List.set_cons_zero, List.set_cons_succ]
  refine wpAnyH_ready (rs := [3]) (by kernel_rfl) (by simp) ?_
  refine AllReadyH.cons rfl (fun K hK => ?_) AllReadyH.nil
  go_simp
  refine (eqDisk_any _ d _ _ _ _ _ _ (unhide AY).p1 (unhide AY).pf (unhide AY).p2 (unhide N1).p1 (unhide N1).pf (unhide N1).p2).mono ?_
  rintro e w11 ⟨rfl, b⟩
  replace BV := hide ((unhide BV).trans (b.mono (unhide BV).size))
  replace YB := hide ((b.block _ (heapLt (unhide YB))).trans (unhide YB))
  replace AY := hide ((unhide AY).later b)
  replace M1 := hide ((unhide M1).later b)
  replace MF := hide ((unhide MF).later b)
  replace M2 := hide ((unhide M2).later b)
  replace ZB := hide ((b.block _ (heapLt (unhide ZB))).trans (unhide ZB))
  replace AZ := hide ((unhide AZ).later b)
  replace M4 := hide ((unhide M4).later b)
  replace GB := hide ((b.block _ (heapLt (unhide GB))).trans (unhide GB))
  replace DA := hide ((unhide DA).later b)
  clear b N1
  go_wp2_with fail
  refine hK.out _ _ ?_ (fun hHeldN => ?_)
  · exact ⟨cellOf (unhide YB) 0, cellOf (unhide YB) 1, cellOf (unhide YB) 2, cellOf (unhide YB) 3, unhide KK _ ((unhide BA).trans ((unhide BV).mono (unhide BA).size))⟩
  clear hHeld
  have hHeld := hHeldN
  clear hHeldN
  clear hK K
  try simp only [Act.put, List.setIfInBounds_toArray, List.set_cons_zero, List.set_cons_succ]
  refine anyH_at (i := 4) (d := some 58) rfl rfl (by kernel_rfl) (by kernel_rfl) (by kernel_rfl) (fun _ _ _ h => h) (by rfl) (v := ?_) ?_ (by assumption) ?_
  rotate_left
  · (intro w hSw; (try dsimp only at hSw); go_simp <;> with_reducible rfl)
  simp only [Act.put, List.setIfInBounds_toArray, List.set_cons_zero, List.set_cons_succ]
  refine wpAnyH_done (by kernel_rfl) ?_ _
  clear hHeld
  clear AY
  go_wp2_with fail
  refine wp_region_held_drew (S := fun w' => w'.cell? ⟨Zb, 0, none⟩ = some (.int .i64 sk) ∧ w'.cell? ⟨Zb, 1, none⟩ = some (.int .i64 sp) ∧ w'.cell? ⟨Zb, 2, none⟩ = some (.int .i64 sx) ∧ w'.cell? ⟨Zb, 3, none⟩ = some (rowV g4 ps.length) ∧ w'.cell? ⟨w.heap.size, 0, none⟩ = some (.slice a1 d.db.length c1) ∧ w'.cell? ⟨w.heap.size, 1, none⟩ = some (.slice af d.fl.length cf) ∧ w'.cell? ⟨w.heap.size, 2, none⟩ = some (.bool d.has) ∧ w'.cell? ⟨w.heap.size, 3, none⟩ = some (.slice a2 d.jr.length c2) ∧ w'.cell? ⟨w.heap.size + 1, 0, none⟩ = some (.int .i64 sk) ∧ w'.cell? ⟨w.heap.size + 1, 1, none⟩ = some (.int .i64 sp) ∧ w'.cell? ⟨w.heap.size + 1, 2, none⟩ = some (.int .i64 sx) ∧ w'.cell? ⟨w.heap.size + 1, 3, none⟩ = some (.slice a3 ps.length c3)) (by kernel_rfl) ⟨cellOf (unhide ZB) 0, cellOf (unhide ZB) 1, cellOf (unhide ZB) 2, cellOf (unhide ZB) 3, unhide KK _ (((unhide BA).trans ((unhide BV).mono (unhide BA).size)).drew)⟩ (fun hHeld => ?_)
  refine anyH_at (i := 0) (d := some 59) rfl rfl (by kernel_rfl) (by kernel_rfl) (by kernel_rfl) (fun _ _ _ h => h) (by rfl) (v := ?_) ?_ (by assumption) ?_
  rotate_left
  · (intro w hSw; (try dsimp only at hSw); go_simp <;> with_reducible rfl)
  simp only [Act.put, List.setIfInBounds_toArray, List.set_cons_zero, List.set_cons_succ]
  refine anyH_at (i := 1) (d := some 60) rfl rfl (by kernel_rfl) (by kernel_rfl) (by kernel_rfl) (fun _ _ _ h => h) (by rfl) (v := ?_) ?_ (by assumption) ?_
  rotate_left
  · (intro w hSw; (try dsimp only at hSw); go_simp <;> with_reducible rfl)
  simp only [Act.put, List.setIfInBounds_toArray, List.set_cons_zero, List.set_cons_succ]
  refine wpAnyH_ready (rs := [2]) (by kernel_rfl) (by simp) ?_
  refine AllReadyH.cons rfl (fun K hK => ?_) AllReadyH.nil
  go_simp
  have b := below_drew w11
  replace BV := hide ((unhide BV).trans (b.mono (unhide BV).size))
  replace YB := hide ((b.block _ (heapLt (unhide YB))).trans (unhide YB))
  replace M1 := hide ((unhide M1).later b)
  replace MF := hide ((unhide MF).later b)
  replace M2 := hide ((unhide M2).later b)
  replace ZB := hide ((b.block _ (heapLt (unhide ZB))).trans (unhide ZB))
  replace AZ := hide ((unhide AZ).later b)
  replace M4 := hide ((unhide M4).later b)
  replace GB := hide ((b.block _ (heapLt (unhide GB))).trans (unhide GB))
  replace DA := hide ((unhide DA).later b)
  clear b
  refine (toStep_fill _ ⟨sk, sp, sx, ps⟩ _ ((unhide ST).later ((unhide BA).trans ((unhide BV).mono (unhide BA).size)))).mono ?_
  rintro e w12 ⟨k4, hg, rfl, hn, b⟩
  replace BV := hide ((unhide BV).trans (b.mono (unhide BV).size))
  replace YB := hide ((b.block _ (heapLt (unhide YB))).trans (unhide YB))
  replace M1 := hide ((unhide M1).later b)
  replace MF := hide ((unhide MF).later b)
  replace M2 := hide ((unhide M2).later b)
  replace ZB := hide ((b.block _ (heapLt (unhide ZB))).trans (unhide ZB))
  replace AZ := hide ((unhide AZ).later b)
  replace M4 := hide ((unhide M4).later b)
  replace GB := hide ((b.block _ (heapLt (unhide GB))).trans (unhide GB))
  replace DA := hide ((unhide DA).later b)
  have N1 := hide (hn.at (unhide ST))
  clear hn hg
  clear b
  go_wp2_with fail
  refine hK.out _ _ ?_ (fun hHeldN => ?_)
  · exact ⟨cellOf (unhide ZB) 0, cellOf (unhide ZB) 1, cellOf (unhide ZB) 2, cellOf (unhide ZB) 3, unhide KK _ ((unhide BA).trans ((unhide BV).mono (unhide BA).size))⟩
  clear hHeld
  have hHeld := hHeldN
  clear hHeldN
  clear hK K
  try simp only [Act.put, List.setIfInBounds_toArray, List.set_cons_zero, List.set_cons_succ]
  refine wpAnyH_ready (rs := [3]) (by kernel_rfl) (by simp) ?_
  refine AllReadyH.cons rfl (fun K hK => ?_) AllReadyH.nil
  go_simp
  refine (eqStep_any _ ⟨sk, sp, sx, ps⟩ _ _ (unhide AZ).pk (unhide N1).pk).mono ?_
  rintro e w13 ⟨rfl, b⟩
  replace BV := hide ((unhide BV).trans (b.mono (unhide BV).size))
  replace YB := hide ((b.block _ (heapLt (unhide YB))).trans (unhide YB))
  replace M1 := hide ((unhide M1).later b)
  replace MF := hide ((unhide MF).later b)
  replace M2 := hide ((unhide M2).later b)
  replace ZB := hide ((b.block _ (heapLt (unhide ZB))).trans (unhide ZB))
  replace AZ := hide ((unhide AZ).later b)
  replace M4 := hide ((unhide M4).later b)
  replace GB := hide ((b.block _ (heapLt (unhide GB))).trans (unhide GB))
  replace DA := hide ((unhide DA).later b)
  clear b N1
  go_wp2_with fail
  refine hK.out _ _ ?_ (fun hHeldN => ?_)
  · exact ⟨cellOf (unhide ZB) 0, cellOf (unhide ZB) 1, cellOf (unhide ZB) 2, cellOf (unhide ZB) 3, unhide KK _ ((unhide BA).trans ((unhide BV).mono (unhide BA).size))⟩
  clear hHeld
  have hHeld := hHeldN
  clear hHeldN
  clear hK K
  try simp only [Act.put, List.setIfInBounds_toArray, List.set_cons_zero, List.set_cons_succ]
  refine anyH_at (i := 4) (d := some 63) rfl rfl (by kernel_rfl) (by kernel_rfl) (by kernel_rfl) (fun _ _ _ h => h) (by rfl) (v := ?_) ?_ (by assumption) ?_
  rotate_left
  · (intro w hSw; (try dsimp only at hSw); go_simp <;> with_reducible rfl)
  simp only [Act.put, List.setIfInBounds_toArray, List.set_cons_zero, List.set_cons_succ]
  refine wpAnyH_done (by kernel_rfl) ?_ _
  clear hHeld
  clear AZ
  obtain ⟨y0, y1, y2, y3⟩ : _ ∧ _ ∧ _ ∧ _ := ⟨cellOf (unhide YB) 0, cellOf (unhide YB) 1, cellOf (unhide YB) 2, cellOf (unhide YB) 3⟩
  have hpl : ps.length ≤ 1048576 := (unhide ST).l
  have hwn : Yb ≤ w13.heap.size := Nat.le_of_lt (heapLt (unhide YB))
  go_wp2_with fail
  refine (markDisk_arg _ d g1 g2 g3 Yb (unhide M1) (unhide MF) (unhide M2) (unhide O12).1 (unhide O12).2 hE hwn (unhide AT).l1 (unhide AT).lf (unhide AT).l2).mono ?_
  rintro e w15 ⟨km, rfl, km0, km1, w14, b, st⟩
  clear y0 y1 y2 y3
  clear M1 MF M2 YB
  replace BV := hide ((unhide BV).trans (b.mono (unhide BV).size))
  replace ZB := hide ((b.block _ (heapLt (unhide ZB))).trans (unhide ZB))
  replace M4 := hide ((unhide M4).later b)
  replace GB := hide ((b.block _ (heapLt (unhide GB))).trans (unhide GB))
  replace DA := hide ((unhide DA).later b)
  clear b
  replace ZB := hide ((st.block _ (heapLt (unhide ZB)) (fun hc => by have hc' : g1 ≤ Zb ∧ Zb < Yb := hc; omega)).trans (unhide ZB))
  replace GB := hide ((st.block _ (heapLt (unhide GB)) (fun hc => by have hc' : g1 ≤ Gb ∧ Gb < Yb := hc; omega)).trans (unhide GB))
  replace DA := hide ((unhide DA).staysN st (fun b hb hc => by have hc' : g1 ≤ b ∧ b < Yb := hc; omega))
  replace M4 := hide ((unhide M4).stays st (fun b hb hc => by have hc' : g1 ≤ b ∧ b < Yb := hc; have hb' : g4 ≤ b ∧ _ := hb; omega))
  replace BV := hide ((unhide BV).trans (st.belowB (unhide BV).size (fun b hb hc => by have hc' : g1 ≤ b ∧ b < Yb := hc; omega)))
  clear st
  clear w14
  obtain ⟨z0, z1, z2, z3⟩ : _ ∧ _ ∧ _ ∧ _ := ⟨cellOf (unhide ZB) 0, cellOf (unhide ZB) 1, cellOf (unhide ZB) 2, cellOf (unhide ZB) 3⟩
  go_wp2_with fail
  refine (markStep_big _ sk sp sx g4 ps.length km (unhide M4) hpl km0 (by omega)).mono ?_
  rintro e w17 ⟨kn, rfl, kn0, w16, b, st⟩
  clear z0 z1 z2 z3
  clear M4 ZB
  replace BV := hide ((unhide BV).trans (b.mono (unhide BV).size))
  replace GB := hide ((b.block _ (heapLt (unhide GB))).trans (unhide GB))
  replace DA := hide ((unhide DA).later b)
  clear b
  replace GB := hide ((st.block _ (heapLt (unhide GB)) (fun hc => by have hc' : g4 ≤ Gb ∧ Gb < Zb := hc; omega)).trans (unhide GB))
  replace DA := hide ((unhide DA).staysN st (fun b hb hc => by have hc' : g4 ≤ b ∧ b < Zb := hc; omega))
  replace BV := hide ((unhide BV).trans (st.belowB (unhide BV).size (fun b hb hc => by have hc' : g4 ≤ b ∧ b < Zb := hc; omega)))
  clear st
  clear w16
  have hkn : ¬ kn < 0 := by omega
  have hdkn : decide (kn < 0) = false := by simpa using hkn
  have WN := hide ((unhide WT).later (unhide BV))
  obtain ⟨m0, m1, m2, m3⟩ : _ ∧ _ ∧ _ ∧ _ := ⟨cellOf (unhide GB) 0, cellOf (unhide GB) 1, cellOf (unhide GB) 2, cellOf (unhide GB) 3⟩
  obtain ⟨j0, j1, j2, j3⟩ : _ ∧ _ ∧ _ ∧ _ := ⟨cellOf (unhide WN).box 0, cellOf (unhide WN).box 1, cellOf (unhide WN).box 2, cellOf (unhide WN).box 3⟩
  have CE := hide (eqDisk_any _ D _ _ _ _ _ _ ((unhide DA).p1.pksA ((unhide HM).1) (unhide HS).1) (OwI.wide (unhide DA).pf (by have := (unhide HS).2.1; omega)) ((unhide DA).p2.pksA ((unhide HM).2) (unhide HS).2.2) ((unhide WN).ans.p1.pksA ((unhide WN).m1) (unhide HS).1) (OwI.wide (unhide WN).ans.pf (by have := (unhide HS).2.1; omega)) ((unhide WN).ans.p2.pksA ((unhide WN).m2) (unhide HS).2.2))
  go_wp2_with fail
  refine (unhide CE).mono ?_
  rintro e w18 ⟨rfl, b⟩
  clear CE WN m0 m1 m2 m3 j0 j1 j2 j3
  replace BV := hide ((unhide BV).trans (b.mono (unhide BV).size))
  replace GB := hide ((b.block _ (heapLt (unhide GB))).trans (unhide GB))
  replace DA := hide ((unhide DA).later b)
  clear b
  have hs1 := (unhide HS).1.els (unhide HM).1
  have hs2 := (unhide HS).2.2.els (unhide HM).2
  obtain ⟨m0, m1, m2, m3⟩ : _ ∧ _ ∧ _ ∧ _ := ⟨cellOf (unhide GB) 0, cellOf (unhide GB) 1, cellOf (unhide GB) 2, cellOf (unhide GB) 3⟩
  have hW6 : W6.heap.size ≤ w18.heap.size := Nat.le_trans hGb (Nat.le_of_lt (heapLt (unhide GB)))
  have hcW : wc.heap.size ≤ W6.heap.size := by omega
  have CM := hide (markDisk_own w18 D.has _ _ _ ea1 ea2 D.fl W6.heap.size 1 (unhide DA) hW6 hs1 (unhide HS).2.1 hs2 (by omega) (by omega))
  dsimp only [dkV] at CM
  have hmk : ¬ markK (markK 1 ea1 + (D.fl.length : Int)) ea2 < 0 := by
    have h1 := markK_le ea1 1 hs1.2
    have h2 := markK_le ea2 (markK 1 ea1 + (D.fl.length : Int)) hs2.2
    omega
  have hmm : (markK (markK 1 ea1 + (D.fl.length : Int)) ea2 != markK (markK 1 ea1 + (D.fl.length : Int)) ea2) = false := by simp
  generalize hMK : markK (markK 1 ea1 + (D.fl.length : Int)) ea2 = MK at *
  go_wp2_with fail
  refine (unhide CM).mono ?_
  rintro e w19 ⟨rfl, hDm, b, kd⟩
  replace GB := hide (kd _ _ (unhide GB))
  replace BV := hide ((unhide BV).trans (b.mono hcW))
  have DM := hide hDm
  clear hDm b kd CM m0 m1 m2 m3
  clear DA
  obtain ⟨m0, m1, m2, m3⟩ : _ ∧ _ ∧ _ ∧ _ := ⟨cellOf (unhide GB) 0, cellOf (unhide GB) 1, cellOf (unhide GB) 2, cellOf (unhide GB) 3⟩
  have CH := hide (fun (W : World) h => heldDisk_own W D.has (.slice p1 ea1.length q1) (.slice pf D.fl.length qf) (.slice p2 ea2.length q2) ea1 ea2 D.fl.length W6.heap.size 1 h hs1 (unhide HS).2.1 hs2 (by omega) (by omega))
  dsimp only [dkV] at CH
  rw [hMK] at CH
  go_wp2_with fail
  refine (unhide CH _ (unhide DM)).mono ?_
  rintro e w20 ⟨rfl, b⟩
  clear m0 m1 m2 m3
  replace BV := hide ((unhide BV).trans (b.mono (unhide BV).size))
  replace GB := hide ((b.block _ (heapLt (unhide GB))).trans (unhide GB))
  replace DM := hide ((unhide DM).later b)
  clear b
  go_wp2_with fail
  have BE : Hid (Below w2.heap.size w2 w20) := ((unhide BA).trans ((unhide BV).mono (unhide BA).size))
  have WT9 := hide ((unhide WT).later (unhide BV))
  replace WT := WT9
  clear WT9
  have BA0 := BA
  replace BA := BE
  clear BE BA0 BV
  go_cut [15, 16] from 94 to 101 (fun y o wx => ∃ (Yb : Nat) (v1 vf v2 : Value) (e1 e2 : List El), y = .pointer (some ⟨Yb, 0, none⟩) ∧ o = .bool yes ∧ DkB w20.heap.size wx Yb D v1 vf v2 e1 e2 ∧ Below w20.heap.size w20 wx)
  case first =>
    refine wp_region_held_drew (S := fun w' => w'.cell? ⟨w.heap.size, 0, none⟩ = some (.slice a1 d.db.length c1) ∧ w'.cell? ⟨w.heap.size, 1, none⟩ = some (.slice af d.fl.length cf) ∧ w'.cell? ⟨w.heap.size, 2, none⟩ = some (.bool d.has) ∧ w'.cell? ⟨w.heap.size, 3, none⟩ = some (.slice a2 d.jr.length c2) ∧ w'.cell? ⟨w.heap.size + 1, 0, none⟩ = some (.int .i64 sk) ∧ w'.cell? ⟨w.heap.size + 1, 1, none⟩ = some (.int .i64 sp) ∧ w'.cell? ⟨w.heap.size + 1, 2, none⟩ = some (.int .i64 sx) ∧ w'.cell? ⟨w.heap.size + 1, 3, none⟩ = some (.slice a3 ps.length c3)) (by kernel_rfl) (by exact unhide KK _ ((unhide BA).trans ((below_drew w20).mono (unhide BA).size))) (fun hHeld => ?_)
    refine anyH_at (i := 0) (d := some 95) rfl rfl (by kernel_rfl) (by kernel_rfl) (by kernel_rfl) (fun _ _ _ h => h) (by rfl) (v := ?_) ?_ (by assumption) ?_
    rotate_left
    · (intro w hSw; (try dsimp only at hSw); go_simp <;> with_reducible rfl)
    simp only [Act.put, List.setIfInBounds_toArray, List.set_cons_zero, List.set_cons_succ]
    refine anyH_at (i := 2) (d := some 97) rfl rfl (by kernel_rfl) (by kernel_rfl) (by kernel_rfl) (fun _ _ _ h => h) (by rfl) (v := ?_) ?_ (by assumption) ?_
    rotate_left
    · (intro w hSw; (try dsimp only at hSw); go_simp <;> with_reducible rfl)
    simp only [Act.put, List.setIfInBounds_toArray, List.set_cons_zero, List.set_cons_succ]
    have DD : Hid (Below w20.heap.size w20 w20.drew) := below_drew w20
    refine wpAnyH_ready (rs := [1, 8]) (by kernel_rfl) (by simp) ?_
    refine AllReadyH.cons rfl (fun K hK => ?_) (AllReadyH.cons rfl (fun K hK => ?_) AllReadyH.nil)
    rotate_left
    · go_simp
      have HBX : Hid ((w20.drew.alloc (.cells #[.slice none 0 0, .slice none 0 0, .bool false, .slice none 0 0] 26)).heap[w20.heap.size]? = _) := heap_alloc_new w20.drew (.cells #[.slice none 0 0, .slice none 0 0, .bool false, .slice none 0 0] 26)
      have LOX : Hid (w20.heap.size ≤ w20.heap.size) := (unhide DD).size
      have bX := below1 w20.drew (.cells #[.slice none 0 0, .slice none 0 0, .bool false, .slice none 0 0] 26)
      replace DD := hide ((unhide DD).trans (bX.mono (unhide DD).size))
      clear bX
      refine hK.out _ _ ?_ (fun hHeldN => ?_)
      · exact unhide KK _ ((unhide BA).trans ((unhide DD).mono (unhide BA).size))
      clear hHeld
      have hHeld := hHeldN
      clear hHeldN
      clear hK K
      try simp only [Act.put, List.setIfInBounds_toArray, List.set_cons_zero, List.set_cons_succ]
      refine wpAnyH_ready (rs := [1]) (by kernel_rfl) (by simp) ?_
      refine AllReadyH.cons rfl (fun K hK => ?_) AllReadyH.nil
      go_simp
      have LP := hide (unhide DD).size
      refine (toDisk_fill _ d _ _ _ ((unhide AT).later ((unhide BA).trans ((unhide DD).mono (unhide BA).size)))).mono ?_
      rintro e' u1 ⟨k1, k2, k3, hg, rfl, hn, b⟩
      replace DD := hide ((unhide DD).trans (b.mono (unhide DD).size))
      replace HBX := hide ((b.block _ (heapLt (unhide HBX))).trans (unhide HBX))
      have N1 := hide (hn.at (unhide AT))
      clear hn hg
      clear b LP
      go_wp2_with fail
      refine hK.out _ _ ?_ (fun hHeldN => ?_)
      · exact unhide KK _ ((unhide BA).trans ((unhide DD).mono (unhide BA).size))
      clear hHeld
      have hHeld := hHeldN
      clear hHeldN
      clear hK K
      try simp only [Act.put, List.setIfInBounds_toArray, List.set_cons_zero, List.set_cons_succ]
      refine wpAnyH_ready (rs := [3]) (by kernel_rfl) (by simp) ?_
      refine AllReadyH.cons rfl (fun K hK => ?_) AllReadyH.nil
      go_simp
      have LP := hide (unhide DD).size
      refine (toStep_fill _ ⟨sk, sp, sx, ps⟩ _ ((unhide ST).later ((unhide BA).trans ((unhide DD).mono (unhide BA).size)))).mono ?_
      rintro e' u2 ⟨k4, hg, rfl, hn, b⟩
      replace DD := hide ((unhide DD).trans (b.mono (unhide DD).size))
      replace HBX := hide ((b.block _ (heapLt (unhide HBX))).trans (unhide HBX))
      replace N1 := hide ((unhide N1).later b)
      have N2 := hide (hn.at (unhide ST))
      clear hn hg
      clear b LP
      go_wp2_with fail
      refine hK.out _ _ ?_ (fun hHeldN => ?_)
      · exact unhide KK _ ((unhide BA).trans ((unhide DD).mono (unhide BA).size))
      clear hHeld
      have hHeld := hHeldN
      clear hHeldN
      clear hK K
      try simp only [Act.put, List.setIfInBounds_toArray, List.set_cons_zero, List.set_cons_succ]
      refine wpAnyH_ready (rs := [4]) (by kernel_rfl) (by simp) ?_
      refine AllReadyH.cons rfl (fun K hK => ?_) AllReadyH.nil
      go_simp
      have LP := hide (unhide DD).size
      refine (unhide CI _ _ _ _ _ (unhide N1) (unhide N2)).mono ?_
      rintro e' u3 ⟨u, rfl, ⟨v1, vf, v2, e1, e2, rfl, hA, hm1, hm2⟩, b⟩
      replace DD := hide ((unhide DD).trans (b.mono (unhide DD).size))
      replace HBX := hide ((b.block _ (heapLt (unhide HBX))).trans (unhide HBX))
      replace N1 := hide ((unhide N1).later b)
      replace N2 := hide ((unhide N2).later b)
      have DA := hide (hA.base (unhide LP))
      have HM := hide (And.intro hm1 hm2)
      obtain ⟨f1, l1, i1⟩ := own_formS hA.p1.own
      obtain ⟨ff, lf, iff'⟩ := own_formS hA.pf
      obtain ⟨f2, l2, i2⟩ := own_formS hA.p2.own
      dsimp only at i1 iff' i2
      subst i1 iff' i2
      clear hA hm1 hm2
      try dsimp only [dkV]
      clear b LP
      go_wp2_with fail
      refine hK.out _ _ ?_ (fun hHeldN => ?_)
      · exact unhide KK _ ((unhide BA).trans ((unhide DD).mono (unhide BA).size))
      clear hHeld
      have hHeld := hHeldN
      clear hHeldN
      clear hK K
      try simp only [Act.put, List.setIfInBounds_toArray, List.set_cons_zero, List.set_cons_succ]
      refine anyH_at (i := 5) (d := some 94) rfl rfl (by kernel_rfl) (by kernel_rfl) (by kernel_rfl) (fun _ _ _ h => h) (by rfl) (v := ?_) ?_ (by assumption) ?_
      rotate_left
      · (intro w hSw; (try dsimp only at hSw); go_simp <;> with_reducible rfl)
      simp only [Act.put, List.setIfInBounds_toArray, List.set_cons_zero, List.set_cons_succ]
      refine anyH_at (i := 6) (d := some 100) rfl rfl (by kernel_rfl) (by kernel_rfl) (by kernel_rfl) (fun _ _ _ h => h) (by rfl) (v := ?_) ?_ (by assumption) ?_
      rotate_left
      · (intro w hSw; (try dsimp only at hSw); go_simp <;> with_reducible rfl)
      simp only [Act.put, List.setIfInBounds_toArray, List.set_cons_zero, List.set_cons_succ]
      refine anyH_at (i := 7) (d := some 101) rfl rfl (by kernel_rfl) (by kernel_rfl) (by kernel_rfl) (fun _ _ _ h => h) (by rfl) (v := ?_) ?_ (by assumption) ?_
      rotate_left
      · (intro w hSw; (try dsimp only at hSw); go_simp <;> with_reducible rfl)
      simp only [Act.put, List.setIfInBounds_toArray, List.set_cons_zero, List.set_cons_succ]
      refine wpAnyH_ready (rs := [9]) (by kernel_rfl) (by simp) ?_
      refine AllReadyH.cons rfl (fun K hK => ?_) AllReadyH.nil
      obtain ⟨⟨r0, t0⟩, ⟨r1, t1⟩, ⟨r2, t2⟩, r3, t3⟩ : (_ ∧ _) ∧ (_ ∧ _) ∧ (_ ∧ _) ∧ _ ∧ _ := ⟨⟨cellOf (unhide HBX) 0, frozenOf (unhide HBX) 0⟩, ⟨cellOf (unhide HBX) 1, frozenOf (unhide HBX) 1⟩, ⟨cellOf (unhide HBX) 2, frozenOf (unhide HBX) 2⟩, cellOf (unhide HBX) 3, frozenOf (unhide HBX) 3⟩
      go_simp
      obtain ⟨hG, hBF⟩ := DkB.fill (W := w20) (d := D) (unhide HBX) (unhide LOX) (unhide DD) (unhide DA) (unhide HM).1 (unhide HM).2 rfl
      refine hK.out _ _ ?_ (fun hHeldN => ?_)
      · exact unhide KK _ ((unhide BA).trans (hBF.mono (unhide BA).size))
      clear hHeld
      have hHeld := hHeldN
      clear hHeldN
      clear hK K
      try simp only [Act.put, List.setIfInBounds_toArray, List.set_cons_zero, List.set_cons_succ]
      refine anyH_at (i := 10) (d := some 16) rfl rfl (by kernel_rfl) (by kernel_rfl) (by kernel_rfl) (fun _ _ _ h => h) (by rfl) (v := ?_) ?_ (by assumption) ?_
      rotate_left
      · (intro w hSw; (try dsimp only at hSw); go_simp <;> with_reducible rfl)
      simp only [Act.put, List.setIfInBounds_toArray, List.set_cons_zero, List.set_cons_succ]
      refine wpAnyH_done (by kernel_rfl) ?_ _
      go_wp2_with fail
      go_meet
      exact ⟨_, _, _, _, _, _, rfl, rfl, hG, hBF⟩
    go_simp
    have LP := hide (unhide DD).size
    refine (toDisk_fill _ d _ _ _ ((unhide AT).later ((unhide BA).trans ((unhide DD).mono (unhide BA).size)))).mono ?_
    rintro e' u1 ⟨k1, k2, k3, hg, rfl, hn, b⟩
    replace DD := hide ((unhide DD).trans (b.mono (unhide DD).size))
    have N1 := hide (hn.at (unhide AT))
    clear hn hg
    clear b LP
    go_wp2_with fail
    refine hK.out _ _ ?_ (fun hHeldN => ?_)
    · exact unhide KK _ ((unhide BA).trans ((unhide DD).mono (unhide BA).size))
    clear hHeld
    have hHeld := hHeldN
    clear hHeldN
    clear hK K
    try simp only [Act.put, List.setIfInBounds_toArray, List.set_cons_zero, List.set_cons_succ]
    refine wpAnyH_ready (rs := [3, 8]) (by kernel_rfl) (by simp) ?_
    refine AllReadyH.cons rfl (fun K hK => ?_) (AllReadyH.cons rfl (fun K hK => ?_) AllReadyH.nil)
    rotate_left
    · go_simp
      have HBX := hide (heap_alloc_new u1 (.cells #[.slice none 0 0, .slice none 0 0, .bool false, .slice none 0 0] 26))
      have LOX : Hid (w20.heap.size ≤ u1.heap.size) := (unhide DD).size
      have bX := below1 u1 (.cells #[.slice none 0 0, .slice none 0 0, .bool false, .slice none 0 0] 26)
      replace DD := hide ((unhide DD).trans (bX.mono (unhide DD).size))
      replace N1 := hide ((unhide N1).later bX)
      clear bX
      refine hK.out _ _ ?_ (fun hHeldN => ?_)
      · exact unhide KK _ ((unhide BA).trans ((unhide DD).mono (unhide BA).size))
      clear hHeld
      have hHeld := hHeldN
      clear hHeldN
      clear hK K
      try simp only [Act.put, List.setIfInBounds_toArray, List.set_cons_zero, List.set_cons_succ]
      generalize hXb : u1.heap.size = Xb at *
      clear hXb
      refine wpAnyH_ready (rs := [3]) (by kernel_rfl) (by simp) ?_
      refine AllReadyH.cons rfl (fun K hK => ?_) AllReadyH.nil
      go_simp
      have LP := hide (unhide DD).size
      refine (toStep_fill _ ⟨sk, sp, sx, ps⟩ _ ((unhide ST).later ((unhide BA).trans ((unhide DD).mono (unhide BA).size)))).mono ?_
      rintro e' u2 ⟨k4, hg, rfl, hn, b⟩
      replace DD := hide ((unhide DD).trans (b.mono (unhide DD).size))
      replace N1 := hide ((unhide N1).later b)
      replace HBX := hide ((b.block _ (heapLt (unhide HBX))).trans (unhide HBX))
      have N2 := hide (hn.at (unhide ST))
      clear hn hg
      clear b LP
      go_wp2_with fail
      refine hK.out _ _ ?_ (fun hHeldN => ?_)
      · exact unhide KK _ ((unhide BA).trans ((unhide DD).mono (unhide BA).size))
      clear hHeld
      have hHeld := hHeldN
      clear hHeldN
      clear hK K
      try simp only [Act.put, List.setIfInBounds_toArray, List.set_cons_zero, List.set_cons_succ]
      refine wpAnyH_ready (rs := [4]) (by kernel_rfl) (by simp) ?_
      refine AllReadyH.cons rfl (fun K hK => ?_) AllReadyH.nil
      go_simp
      have LP := hide (unhide DD).size
      refine (unhide CI _ _ _ _ _ (unhide N1) (unhide N2)).mono ?_
      rintro e' u3 ⟨u, rfl, ⟨v1, vf, v2, e1, e2, rfl, hA, hm1, hm2⟩, b⟩
      replace DD := hide ((unhide DD).trans (b.mono (unhide DD).size))
      replace N1 := hide ((unhide N1).later b)
      replace HBX := hide ((b.block _ (heapLt (unhide HBX))).trans (unhide HBX))
      replace N2 := hide ((unhide N2).later b)
      have DA := hide (hA.base (unhide LP))
      have HM := hide (And.intro hm1 hm2)
      obtain ⟨f1, l1, i1⟩ := own_formS hA.p1.own
      obtain ⟨ff, lf, iff'⟩ := own_formS hA.pf
      obtain ⟨f2, l2, i2⟩ := own_formS hA.p2.own
      dsimp only at i1 iff' i2
      subst i1 iff' i2
      clear hA hm1 hm2
      try dsimp only [dkV]
      clear b LP
      go_wp2_with fail
      refine hK.out _ _ ?_ (fun hHeldN => ?_)
      · exact unhide KK _ ((unhide BA).trans ((unhide DD).mono (unhide BA).size))
      clear hHeld
      have hHeld := hHeldN
      clear hHeldN
      clear hK K
      try simp only [Act.put, List.setIfInBounds_toArray, List.set_cons_zero, List.set_cons_succ]
      refine anyH_at (i := 5) (d := some 94) rfl rfl (by kernel_rfl) (by kernel_rfl) (by kernel_rfl) (fun _ _ _ h => h) (by rfl) (v := ?_) ?_ (by assumption) ?_
      rotate_left
      · (intro w hSw; (try dsimp only at hSw); go_simp <;> with_reducible rfl)
      simp only [Act.put, List.setIfInBounds_toArray, List.set_cons_zero, List.set_cons_succ]
      refine anyH_at (i := 6) (d := some 100) rfl rfl (by kernel_rfl) (by kernel_rfl) (by kernel_rfl) (fun _ _ _ h => h) (by rfl) (v := ?_) ?_ (by assumption) ?_
      rotate_left
      · (intro w hSw; (try dsimp only at hSw); go_simp <;> with_reducible rfl)
      simp only [Act.put, List.setIfInBounds_toArray, List.set_cons_zero, List.set_cons_succ]
      refine anyH_at (i := 7) (d := some 101) rfl rfl (by kernel_rfl) (by kernel_rfl) (by kernel_rfl) (fun _ _ _ h => h) (by rfl) (v := ?_) ?_ (by assumption) ?_
      rotate_left
      · (intro w hSw; (try dsimp only at hSw); go_simp <;> with_reducible rfl)
      simp only [Act.put, List.setIfInBounds_toArray, List.set_cons_zero, List.set_cons_succ]
      refine wpAnyH_ready (rs := [9]) (by kernel_rfl) (by simp) ?_
      refine AllReadyH.cons rfl (fun K hK => ?_) AllReadyH.nil
      obtain ⟨⟨r0, t0⟩, ⟨r1, t1⟩, ⟨r2, t2⟩, r3, t3⟩ : (_ ∧ _) ∧ (_ ∧ _) ∧ (_ ∧ _) ∧ _ ∧ _ := ⟨⟨cellOf (unhide HBX) 0, frozenOf (unhide HBX) 0⟩, ⟨cellOf (unhide HBX) 1, frozenOf (unhide HBX) 1⟩, ⟨cellOf (unhide HBX) 2, frozenOf (unhide HBX) 2⟩, cellOf (unhide HBX) 3, frozenOf (unhide HBX) 3⟩
      go_simp
      obtain ⟨hG, hBF⟩ := DkB.fill (W := w20) (d := D) (unhide HBX) (unhide LOX) (unhide DD) (unhide DA) (unhide HM).1 (unhide HM).2 rfl
      refine hK.out _ _ ?_ (fun hHeldN => ?_)
      · exact unhide KK _ ((unhide BA).trans (hBF.mono (unhide BA).size))
      clear hHeld
      have hHeld := hHeldN
      clear hHeldN
      clear hK K
      try simp only [Act.put, List.setIfInBounds_toArray, List.set_cons_zero, List.set_cons_succ]
      refine anyH_at (i := 10) (d := some 16) rfl rfl (by kernel_rfl) (by kernel_rfl) (by kernel_rfl) (fun _ _ _ h => h) (by rfl) (v := ?_) ?_ (by assumption) ?_
      rotate_left
      · (intro w hSw; (try dsimp only at hSw); go_simp <;> with_reducible rfl)
      simp only [Act.put, List.setIfInBounds_toArray, List.set_cons_zero, List.set_cons_succ]
      refine wpAnyH_done (by kernel_rfl) ?_ _
      go_wp2_with fail
      go_meet
      exact ⟨_, _, _, _, _, _, rfl, rfl, hG, hBF⟩
    go_simp
    have LP := hide (unhide DD).size
    refine (toStep_fill _ ⟨sk, sp, sx, ps⟩ _ ((unhide ST).later ((unhide BA).trans ((unhide DD).mono (unhide BA).size)))).mono ?_
    rintro e' u2 ⟨k4, hg, rfl, hn, b⟩
    replace DD := hide ((unhide DD).trans (b.mono (unhide DD).size))
    replace N1 := hide ((unhide N1).later b)
    have N2 := hide (hn.at (unhide ST))
    clear hn hg
    clear b LP
    go_wp2_with fail
    refine hK.out _ _ ?_ (fun hHeldN => ?_)
    · exact unhide KK _ ((unhide BA).trans ((unhide DD).mono (unhide BA).size))
    clear hHeld
    have hHeld := hHeldN
    clear hHeldN
    clear hK K
    try simp only [Act.put, List.setIfInBounds_toArray, List.set_cons_zero, List.set_cons_succ]
    refine wpAnyH_ready (rs := [4, 8]) (by kernel_rfl) (by simp) ?_
    refine AllReadyH.cons rfl (fun K hK => ?_) (AllReadyH.cons rfl (fun K hK => ?_) AllReadyH.nil)
    rotate_left
    · go_simp
      have HBX := hide (heap_alloc_new u2 (.cells #[.slice none 0 0, .slice none 0 0, .bool false, .slice none 0 0] 26))
      have LOX : Hid (w20.heap.size ≤ u2.heap.size) := (unhide DD).size
      have bX := below1 u2 (.cells #[.slice none 0 0, .slice none 0 0, .bool false, .slice none 0 0] 26)
      replace DD := hide ((unhide DD).trans (bX.mono (unhide DD).size))
      replace N1 := hide ((unhide N1).later bX)
      replace N2 := hide ((unhide N2).later bX)
      clear bX
      refine hK.out _ _ ?_ (fun hHeldN => ?_)
      · exact unhide KK _ ((unhide BA).trans ((unhide DD).mono (unhide BA).size))
      clear hHeld
      have hHeld := hHeldN
      clear hHeldN
      clear hK K
      try simp only [Act.put, List.setIfInBounds_toArray, List.set_cons_zero, List.set_cons_succ]
      generalize hXb : u2.heap.size = Xb at *
      clear hXb
      refine wpAnyH_ready (rs := [4]) (by kernel_rfl) (by simp) ?_
      refine AllReadyH.cons rfl (fun K hK => ?_) AllReadyH.nil
      go_simp
      have LP := hide (unhide DD).size
      refine (unhide CI _ _ _ _ _ (unhide N1) (unhide N2)).mono ?_
      rintro e' u3 ⟨u, rfl, ⟨v1, vf, v2, e1, e2, rfl, hA, hm1, hm2⟩, b⟩
      replace DD := hide ((unhide DD).trans (b.mono (unhide DD).size))
      replace N1 := hide ((unhide N1).later b)
      replace N2 := hide ((unhide N2).later b)
      replace HBX := hide ((b.block _ (heapLt (unhide HBX))).trans (unhide HBX))
      have DA := hide (hA.base (unhide LP))
      have HM := hide (And.intro hm1 hm2)
      obtain ⟨f1, l1, i1⟩ := own_formS hA.p1.own
      obtain ⟨ff, lf, iff'⟩ := own_formS hA.pf
      obtain ⟨f2, l2, i2⟩ := own_formS hA.p2.own
      dsimp only at i1 iff' i2
      subst i1 iff' i2
      clear hA hm1 hm2
      try dsimp only [dkV]
      clear b LP
      go_wp2_with fail
      refine hK.out _ _ ?_ (fun hHeldN => ?_)
      · exact unhide KK _ ((unhide BA).trans ((unhide DD).mono (unhide BA).size))
      clear hHeld
      have hHeld := hHeldN
      clear hHeldN
      clear hK K
      try simp only [Act.put, List.setIfInBounds_toArray, List.set_cons_zero, List.set_cons_succ]
      refine anyH_at (i := 5) (d := some 94) rfl rfl (by kernel_rfl) (by kernel_rfl) (by kernel_rfl) (fun _ _ _ h => h) (by rfl) (v := ?_) ?_ (by assumption) ?_
      rotate_left
      · (intro w hSw; (try dsimp only at hSw); go_simp <;> with_reducible rfl)
      simp only [Act.put, List.setIfInBounds_toArray, List.set_cons_zero, List.set_cons_succ]
      refine anyH_at (i := 6) (d := some 100) rfl rfl (by kernel_rfl) (by kernel_rfl) (by kernel_rfl) (fun _ _ _ h => h) (by rfl) (v := ?_) ?_ (by assumption) ?_
      rotate_left
      · (intro w hSw; (try dsimp only at hSw); go_simp <;> with_reducible rfl)
      simp only [Act.put, List.setIfInBounds_toArray, List.set_cons_zero, List.set_cons_succ]
      refine anyH_at (i := 7) (d := some 101) rfl rfl (by kernel_rfl) (by kernel_rfl) (by kernel_rfl) (fun _ _ _ h => h) (by rfl) (v := ?_) ?_ (by assumption) ?_
      rotate_left
      · (intro w hSw; (try dsimp only at hSw); go_simp <;> with_reducible rfl)
      simp only [Act.put, List.setIfInBounds_toArray, List.set_cons_zero, List.set_cons_succ]
      refine wpAnyH_ready (rs := [9]) (by kernel_rfl) (by simp) ?_
      refine AllReadyH.cons rfl (fun K hK => ?_) AllReadyH.nil
      obtain ⟨⟨r0, t0⟩, ⟨r1, t1⟩, ⟨r2, t2⟩, r3, t3⟩ : (_ ∧ _) ∧ (_ ∧ _) ∧ (_ ∧ _) ∧ _ ∧ _ := ⟨⟨cellOf (unhide HBX) 0, frozenOf (unhide HBX) 0⟩, ⟨cellOf (unhide HBX) 1, frozenOf (unhide HBX) 1⟩, ⟨cellOf (unhide HBX) 2, frozenOf (unhide HBX) 2⟩, cellOf (unhide HBX) 3, frozenOf (unhide HBX) 3⟩
      go_simp
      obtain ⟨hG, hBF⟩ := DkB.fill (W := w20) (d := D) (unhide HBX) (unhide LOX) (unhide DD) (unhide DA) (unhide HM).1 (unhide HM).2 rfl
      refine hK.out _ _ ?_ (fun hHeldN => ?_)
      · exact unhide KK _ ((unhide BA).trans (hBF.mono (unhide BA).size))
      clear hHeld
      have hHeld := hHeldN
      clear hHeldN
      clear hK K
      try simp only [Act.put, List.setIfInBounds_toArray, List.set_cons_zero, List.set_cons_succ]
      refine anyH_at (i := 10) (d := some 16) rfl rfl (by kernel_rfl) (by kernel_rfl) (by kernel_rfl) (fun _ _ _ h => h) (by rfl) (v := ?_) ?_ (by assumption) ?_
      rotate_left
      · (intro w hSw; (try dsimp only at hSw); go_simp <;> with_reducible rfl)
      simp only [Act.put, List.setIfInBounds_toArray, List.set_cons_zero, List.set_cons_succ]
      refine wpAnyH_done (by kernel_rfl) ?_ _
      go_wp2_with fail
      go_meet
      exact ⟨_, _, _, _, _, _, rfl, rfl, hG, hBF⟩
    go_simp
    have LP := hide (unhide DD).size
    refine (unhide CI _ _ _ _ _ (unhide N1) (unhide N2)).mono ?_
    rintro e' u3 ⟨u, rfl, ⟨v1, vf, v2, e1, e2, rfl, hA, hm1, hm2⟩, b⟩
    replace DD := hide ((unhide DD).trans (b.mono (unhide DD).size))
    replace N1 := hide ((unhide N1).later b)
    replace N2 := hide ((unhide N2).later b)
    have DA := hide (hA.base (unhide LP))
    have HM := hide (And.intro hm1 hm2)
    obtain ⟨f1, l1, i1⟩ := own_formS hA.p1.own
    obtain ⟨ff, lf, iff'⟩ := own_formS hA.pf
    obtain ⟨f2, l2, i2⟩ := own_formS hA.p2.own
    dsimp only at i1 iff' i2
    subst i1 iff' i2
    clear hA hm1 hm2
    try dsimp only [dkV]
    clear b LP
    go_wp2_with fail
    refine hK.out _ _ ?_ (fun hHeldN => ?_)
    · exact unhide KK _ ((unhide BA).trans ((unhide DD).mono (unhide BA).size))
    clear hHeld
    have hHeld := hHeldN
    clear hHeldN
    clear hK K
    try simp only [Act.put, List.setIfInBounds_toArray, List.set_cons_zero, List.set_cons_succ]
    refine anyH_at (i := 5) (d := some 94) rfl rfl (by kernel_rfl) (by kernel_rfl) (by kernel_rfl) (fun _ _ _ h => h) (by rfl) (v := ?_) ?_ (by assumption) ?_
    rotate_left
    · (intro w hSw; (try dsimp only at hSw); go_simp <;> with_reducible rfl)
    simp only [Act.put, List.setIfInBounds_toArray, List.set_cons_zero, List.set_cons_succ]
    refine anyH_at (i := 6) (d := some 100) rfl rfl (by kernel_rfl) (by kernel_rfl) (by kernel_rfl) (fun _ _ _ h => h) (by rfl) (v := ?_) ?_ (by assumption) ?_
    rotate_left
    · (intro w hSw; (try dsimp only at hSw); go_simp <;> with_reducible rfl)
    simp only [Act.put, List.setIfInBounds_toArray, List.set_cons_zero, List.set_cons_succ]
    refine anyH_at (i := 7) (d := some 101) rfl rfl (by kernel_rfl) (by kernel_rfl) (by kernel_rfl) (fun _ _ _ h => h) (by rfl) (v := ?_) ?_ (by assumption) ?_
    rotate_left
    · (intro w hSw; (try dsimp only at hSw); go_simp <;> with_reducible rfl)
    simp only [Act.put, List.setIfInBounds_toArray, List.set_cons_zero, List.set_cons_succ]
    refine wpAnyH_ready (rs := [8]) (by kernel_rfl) (by simp) ?_
    refine AllReadyH.cons rfl (fun K hK => ?_) AllReadyH.nil
    go_simp
    have HBX := hide (heap_alloc_new u3 (.cells #[.slice none 0 0, .slice none 0 0, .bool false, .slice none 0 0] 26))
    have LOX : Hid (w20.heap.size ≤ u3.heap.size) := (unhide DD).size
    have bX := below1 u3 (.cells #[.slice none 0 0, .slice none 0 0, .bool false, .slice none 0 0] 26)
    replace DD := hide ((unhide DD).trans (bX.mono (unhide DD).size))
    replace N1 := hide ((unhide N1).later bX)
    replace N2 := hide ((unhide N2).later bX)
    replace DA := hide ((unhide DA).later bX)
    clear bX
    refine hK.out _ _ ?_ (fun hHeldN => ?_)
    · exact unhide KK _ ((unhide BA).trans ((unhide DD).mono (unhide BA).size))
    clear hHeld
    have hHeld := hHeldN
    clear hHeldN
    clear hK K
    try simp only [Act.put, List.setIfInBounds_toArray, List.set_cons_zero, List.set_cons_succ]
    generalize hXb : u3.heap.size = Xb at *
    clear hXb
    refine wpAnyH_ready (rs := [9]) (by kernel_rfl) (by simp) ?_
    refine AllReadyH.cons rfl (fun K hK => ?_) AllReadyH.nil
    obtain ⟨⟨r0, t0⟩, ⟨r1, t1⟩, ⟨r2, t2⟩, r3, t3⟩ : (_ ∧ _) ∧ (_ ∧ _) ∧ (_ ∧ _) ∧ _ ∧ _ := ⟨⟨cellOf (unhide HBX) 0, frozenOf (unhide HBX) 0⟩, ⟨cellOf (unhide HBX) 1, frozenOf (unhide HBX) 1⟩, ⟨cellOf (unhide HBX) 2, frozenOf (unhide HBX) 2⟩, cellOf (unhide HBX) 3, frozenOf (unhide HBX) 3⟩
    go_simp
    obtain ⟨hG, hBF⟩ := DkB.fill (W := w20) (d := D) (unhide HBX) (unhide LOX) (unhide DD) (unhide DA) (unhide HM).1 (unhide HM).2 rfl
    refine hK.out _ _ ?_ (fun hHeldN => ?_)
    · exact unhide KK _ ((unhide BA).trans (hBF.mono (unhide BA).size))
    clear hHeld
    have hHeld := hHeldN
    clear hHeldN
    clear hK K
    try simp only [Act.put, List.setIfInBounds_toArray, List.set_cons_zero, List.set_cons_succ]
    refine anyH_at (i := 10) (d := some 16) rfl rfl (by kernel_rfl) (by kernel_rfl) (by kernel_rfl) (fun _ _ _ h => h) (by rfl) (v := ?_) ?_ (by assumption) ?_
    rotate_left
    · (intro w hSw; (try dsimp only at hSw); go_simp <;> with_reducible rfl)
    simp only [Act.put, List.setIfInBounds_toArray, List.set_cons_zero, List.set_cons_succ]
    refine wpAnyH_done (by kernel_rfl) ?_ _
    go_wp2_with fail
    go_meet
    exact ⟨_, _, _, _, _, _, rfl, rfl, hG, hBF⟩
  case rest =>
  obtain ⟨Yh, vh1, vhf, vh2, eh1, eh2, rfl, rfl, hGr, hBr⟩ := hcut
  obtain ⟨o1, o2, i1⟩ := own_formS hGr.ans.p1.own
  obtain ⟨of, og, iff'⟩ := own_formS hGr.ans.pf
  obtain ⟨o3, o4, i2⟩ := own_formS hGr.ans.p2.own
  subst i1 iff' i2
  have HT := hide hGr
  have WN := hide ((unhide WT).later hBr)
  replace GB := hide ((hBr.block _ (heapLt (unhide GB))).trans (unhide GB))
  replace DM := hide ((unhide DM).later hBr)
  replace BA := hide ((unhide BA).trans (hBr.mono (unhide BA).size))
  clear hGr hBr
  obtain ⟨m0, m1, m2, m3⟩ : _ ∧ _ ∧ _ ∧ _ := ⟨cellOf (unhide HT).box 0, cellOf (unhide HT).box 1, cellOf (unhide HT).box 2, cellOf (unhide HT).box 3⟩
  obtain ⟨j0, j1, j2, j3⟩ : _ ∧ _ ∧ _ ∧ _ := ⟨cellOf (unhide WN).box 0, cellOf (unhide WN).box 1, cellOf (unhide WN).box 2, cellOf (unhide WN).box 3⟩
  have CE := hide (eqDisk_any _ D _ _ _ _ _ _ ((unhide HT).ans.p1.pksA ((unhide HT).m1) (unhide HS).1) (OwI.wide (unhide HT).ans.pf (by have := (unhide HS).2.1; omega)) ((unhide HT).ans.p2.pksA ((unhide HT).m2) (unhide HS).2.2) ((unhide WN).ans.p1.pksA ((unhide WN).m1) (unhide HS).1) (OwI.wide (unhide WN).ans.pf (by have := (unhide HS).2.1; omega)) ((unhide WN).ans.p2.pksA ((unhide WN).m2) (unhide HS).2.2))
  go_wp2_with fail
  refine (unhide CE).mono ?_
  rintro e w22 ⟨rfl, b⟩
  clear CE m0 m1 m2 m3 j0 j1 j2 j3 WN HT
  replace GB := hide ((b.block _ (heapLt (unhide GB))).trans (unhide GB))
  replace DM := hide ((unhide DM).later b)
  replace BA := hide ((unhide BA).trans (b.mono (unhide BA).size))
  clear b
  obtain ⟨m0, m1, m2, m3⟩ : _ ∧ _ ∧ _ ∧ _ := ⟨cellOf (unhide GB) 0, cellOf (unhide GB) 1, cellOf (unhide GB) 2, cellOf (unhide GB) 3⟩
  go_wp2_with fail
  refine (unhide CH _ (unhide DM)).mono ?_
  rintro e w23 ⟨rfl, b⟩
  have BF := hide ((unhide BW).trans (((unhide BA).trans (b.mono (unhide BA).size)).mono (unhide BW).size))
  clear b m0 m1 m2 m3
  go_wp2
  go_ret
  exact ⟨rfl, unhide BF⟩
end Go.Proofs.YtoccijcngncghaaGreatDoor
