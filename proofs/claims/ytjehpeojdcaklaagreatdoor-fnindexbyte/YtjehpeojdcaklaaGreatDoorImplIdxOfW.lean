/- What impl.metaOf and impl.IndexOf return: what is told of a package; an index of packages, its row the call's own; for every row of packages. -/
import Derived.Test.YtjehpeojdcaklaaGreatDoorIndexOfW
import Derived.Test.YtjehpeojdcaklaaGreatDoorImplTextW
import Derived.Test.YtjehpeojdcaklaaGreatDoorImplOkW
import Derived.Test.YtjehpeojdcaklaaGreatDoorImplIndexOkW
namespace Go.Proofs.YtjehpeojdcaklaaGreatDoor
open Go.RowKit

attribute [local go_sem ↓] Go.wp_at_zero Go.wp_at_succ

set_option maxHeartbeats 4000000 in
set_option maxRecDepth 100000 in
theorem metaOf_any (w : World) (nm vr : Int) (fv dv : Value) (fs ds : List (Int × Int)) (hf : Prs w fv fs) (hd : Prs w dv ds) :
    Calls Tryz.prog 35 #[.agg #[.int .i64 nm, .int .i64 vr, fv, dv]] w fun e w' => e = .returned (.agg #[.int .i64 nm, .int .i64 vr, .int .i64 (Sm.sum (Pk.text nm vr fs ds))]) ∧ Below w.heap.size w w' := by
  obtain ⟨fa, fc, hfv⟩ := hf.slice
  obtain ⟨da, dc, hdv⟩ := hd.slice
  subst hfv hdv
  have B1 := below1 w (.cells #[.int .i64 nm, .int .i64 vr, .slice fa fs.length fc, .slice da ds.length dc] 35)
  have hx1 := heap_alloc_new w (.cells #[.int .i64 nm, .int .i64 vr, .slice fa fs.length fc, .slice da ds.length dc] 35)
  have z1 := sz1' w (.cells #[.int .i64 nm, .int .i64 vr, .slice fa fs.length fc, .slice da ds.length dc] 35)
  have b2 := below1 (w.alloc (.cells #[.int .i64 nm, .int .i64 vr, .slice fa fs.length fc, .slice da ds.length dc] 35)) (.cells #[.int .i64 0, .int .i64 0, .int .i64 0] 47)
  have hr2 := heap_alloc_new (w.alloc (.cells #[.int .i64 nm, .int .i64 vr, .slice fa fs.length fc, .slice da ds.length dc] 35)) (.cells #[.int .i64 0, .int .i64 0, .int .i64 0] 47)
  rw [z1] at hr2
  have B2 := B1.trans (b2.mono B1.size)
  have H2 := hide (And.intro B2 (And.intro ((b2.block _ (heapLt hx1)).trans hx1) hr2))
  have HF := hide (And.intro (hf.later B2) (hd.later B2))
  clear B1 hx1 z1 b2 hr2 B2 hf hd
  obtain ⟨s, hs⟩ : ∃ s : ByteArray, s = ⟨(Pk.text nm vr fs ds).toArray⟩ := ⟨_, rfl⟩
  have hsz : s.size ≤ maxLen := by rw [hs]; have := Pk.text_len nm vr fs ds; unfold maxLen; show (Pk.text nm vr fs ds).toArray.size ≤ _; simp; omega
  have hsum : Sm.sum s.data.toList = Sm.sum (Pk.text nm vr fs ds) := by rw [hs]
  have HSM := hide hsum
  have HS := hide hs
  clear hs hsum
  go_enter Tryz.func35, Tryz.ntmps35
  go_wp2_with fail
  generalize World.alloc _ _ = W2 at *
  have sOf : ∀ w', Below W2.heap.size W2 w' → (w'.cell? ⟨w.heap.size, 0, none⟩ = some (.int .i64 nm) ∧ w'.cell? ⟨w.heap.size, 1, none⟩ = some (.int .i64 vr) ∧ w'.cell? ⟨w.heap.size, 2, none⟩ = some (.slice fa fs.length fc) ∧ w'.cell? ⟨w.heap.size, 3, none⟩ = some (.slice da ds.length dc)) := fun w' hb => by
    have hx := (hb.block _ (heapLt (unhide H2).2.1)).trans (unhide H2).2.1
    exact ⟨cellOf hx 0, cellOf hx 1, cellOf hx 2, cellOf hx 3⟩
  have SOF := hide sOf
  clear sOf
  refine wl_region (S := fun w' => w'.cell? ⟨w.heap.size, 0, none⟩ = some (.int .i64 nm) ∧ w'.cell? ⟨w.heap.size, 1, none⟩ = some (.int .i64 vr) ∧ w'.cell? ⟨w.heap.size, 2, none⟩ = some (.slice fa fs.length fc) ∧ w'.cell? ⟨w.heap.size, 3, none⟩ = some (.slice da ds.length dc)) (s := 8) (by kernel_rfl) (unhide SOF _ (below_drew W2)) (fun hHeld => ?_)
  refine wl_take (i := 0) (d := some 3) rfl rfl (by kernel_rfl) (by kernel_rfl) (by kernel_rfl) (by kernel_rfl) (by kernel_rfl) (fun _ _ _ h => h) (by rfl) (v := ?_) ?_ (by assumption) ?_
  rotate_left
  · (intro w hSw; (try dsimp only at hSw); go_simp <;> with_reducible rfl)
  simp only [Act.put, List.setIfInBounds_toArray, List.set_cons_zero, List.set_cons_succ]
  refine wl_take (i := 1) (d := some 4) rfl rfl (by kernel_rfl) (by kernel_rfl) (by kernel_rfl) (by kernel_rfl) (by kernel_rfl) (fun _ _ _ h => h) (by rfl) (v := ?_) ?_ (by assumption) ?_
  rotate_left
  · (intro w hSw; (try dsimp only at hSw); go_simp <;> with_reducible rfl)
  simp only [Act.put, List.setIfInBounds_toArray, List.set_cons_zero, List.set_cons_succ]
  refine wl_take (i := 2) (d := some 5) rfl rfl (by kernel_rfl) (by kernel_rfl) (by kernel_rfl) (by kernel_rfl) (by kernel_rfl) (fun _ _ _ h => h) (by rfl) (v := ?_) ?_ (by assumption) ?_
  rotate_left
  · (intro w hSw; (try dsimp only at hSw); go_simp <;> with_reducible rfl)
  simp only [Act.put, List.setIfInBounds_toArray, List.set_cons_zero, List.set_cons_succ]
  refine wl_take (i := 3) (d := some 6) rfl rfl (by kernel_rfl) (by kernel_rfl) (by kernel_rfl) (by kernel_rfl) (by kernel_rfl) (fun _ _ _ h => h) (by rfl) (v := ?_) ?_ (by assumption) ?_
  rotate_left
  · (intro w hSw; (try dsimp only at hSw); go_simp <;> with_reducible rfl)
  simp only [Act.put, List.setIfInBounds_toArray, List.set_cons_zero, List.set_cons_succ]
  refine wl_take (i := 4) (d := some 7) rfl rfl (by kernel_rfl) (by kernel_rfl) (by kernel_rfl) (by kernel_rfl) (by kernel_rfl) (fun _ _ _ h => h) (by rfl) (v := ?_) ?_ (by assumption) ?_
  rotate_left
  · (intro w hSw; (try dsimp only at hSw); go_simp <;> with_reducible rfl)
  simp only [Act.put, List.setIfInBounds_toArray, List.set_cons_zero, List.set_cons_succ]
  refine wl_one (i := 5) (by kernel_rfl) rfl (by rfl) (fun K hK => ?_)
  go_simp
  clear hHeld
  have hd0 := below_drew W2
  refine (implText_any _ nm vr _ _ fs ds ((unhide HF).1.later hd0) ((unhide HF).2.later hd0)).mono ?_
  rw [← unhide HS]
  rintro e w3 ⟨rfl, b3⟩
  have hb3 : Below W2.heap.size W2 w3 := hd0.trans b3
  have hH3 := unhide SOF _ hb3
  have HB3 := hide hb3
  clear hb3 b3 hd0
  go_wp2_with fail
  refine hK.out _ _ (fun _ => (by assumption)) ?_
  clear hK K
  try simp only [Act.put, List.setIfInBounds_toArray, List.set_cons_zero, List.set_cons_succ]
  refine wl_one (i := 6) (by kernel_rfl) rfl (by rfl) (fun K hK => ?_)
  go_simp
  refine (implSum_any s _ hsz).mono ?_
  rintro e w4 ⟨rfl, rfl⟩
  rw [unhide HSM]
  have hr4 := ((unhide HB3).block _ (heapLt (unhide H2).2.2)).trans (unhide H2).2.2
  obtain ⟨r0, r1, r2⟩ : _ ∧ _ ∧ _ := ⟨cellOf hr4 0, cellOf hr4 1, cellOf hr4 2⟩
  obtain ⟨s0, s1, s2⟩ : _ ∧ _ ∧ _ := ⟨frozenOf hr4 0, frozenOf hr4 1, frozenOf hr4 2⟩
  have HR4 := hide hr4
  clear hr4
  go_wp2_with fail
  refine hK.out _ _ (fun _ => (by assumption)) ?_
  clear hK K
  try simp only [Act.put, List.setIfInBounds_toArray, List.set_cons_zero, List.set_cons_succ]
  refine wl_take (i := 7) (d := some 10) rfl rfl (by kernel_rfl) (by kernel_rfl) (by kernel_rfl) (by kernel_rfl) (by kernel_rfl) (fun _ _ _ h => h) (by rfl) (v := ?_) ?_ (by assumption) ?_
  rotate_left
  · (intro w hSw; (try dsimp only at hSw); go_simp <;> with_reducible rfl)
  simp only [Act.put, List.setIfInBounds_toArray, List.set_cons_zero, List.set_cons_succ]
  refine wl_one (i := 8) (by kernel_rfl) rfl (by rfl) (fun K hK => ?_)
  go_simp
  refine hK.out _ _ (fun h => absurd rfl h) ?_
  clear hK K
  refine wl_done (by kernel_rfl) ?_
  go_wp2
  have hBw := (unhide H2).1.trans ((unhide HB3).mono (unhide H2).1.size)
  obtain ⟨⟨q0, q1, q2⟩, hbel, _⟩ := fin3 (a := .int .i64 nm) (b := .int .i64 vr) (c := .int .i64 (Sm.sum (Pk.text nm vr fs ds))) (W := w) (unhide HR4) (by omega) hBw rfl
  exact bodyPost_ret (v := .agg #[.int .i64 nm, .int .i64 vr, .int .i64 (Sm.sum (Pk.text nm vr fs ds))]) (by simp [results, Tryz.results35, go_sem, q0, q1, q2]) rfl ⟨rfl, hbel⟩
theorem Ix.nm_map (l : List Ix.Pg) (i : Nat) (hi : i < l.length) : Ix.nm (l.map Ix.metaP) i = (Ix.pg l i).1 ∧ Ix.vr (l.map Ix.metaP) i = (Ix.pg l i).2.1 := by
  unfold Ix.nm Ix.vr Ix.pg
  rw [List.getD_eq_getElem?_getD, List.getD_eq_getElem?_getD, List.getElem?_map, List.getElem?_eq_getElem hi]
  exact ⟨rfl, rfl⟩
/-- Packages that are ok ascend just if what is told of them does. -/
theorem Ix.pkgs_of_metas {l : List Ix.Pg} (h1 : ∀ i, i < l.length → Ix.pOk (Ix.pg l i) = true) (h2 : Ix.metasOk (l.map Ix.metaP) = true) : Ix.pkgsOk l = true := by
  refine Ix.pkgsOk_good (fun i hi => ?_)
  unfold Ix.pkgGood
  rw [h1 i hi, Bool.true_and]
  have hg := Ix.metasOk_at h2 i (by rw [List.length_map]; exact hi)
  unfold Ix.good at hg
  rw [Bool.and_eq_true] at hg
  rw [(Ix.nm_map l i hi).1, (Ix.nm_map l i hi).2, (Ix.nm_map l (i - 1) (by omega)).1, (Ix.nm_map l (i - 1) (by omega)).2] at hg
  exact hg.2
theorem Xs.startI (w : World) (num til : Int) : Xs w ((w.alloc (.cells #[.int .i64 0, .int .i64 0, .slice none 0 0] 28)).alloc (.cells #[.int .i64 num, .int .i64 til, .slice none 0 0] 28)) (w.heap.size + 1) w.heap.size num til (.slice none 0 0) [] := by
  refine ⟨?_, ?_, by omega, Nat.le_refl _, by omega, World.ownsRow_nil _ _ _ _, (below1 w _).trans ((below1 _ _).mono (below1 w _).size)⟩
  · rw [at_new _ _ _ (by rw [sz1])]
  · rw [at_old _ _ _ (by rw [sz1]; omega), at_new _ _ _ rfl]

set_option maxHeartbeats 4000000 in
set_option maxRecDepth 100000 in
theorem implIndexOf_any {N : Nat → Prop} (w : World) (num til : Int) (pv : Value) (l : List Ix.Pg) (h : Pks N w pv l) :
    Calls Tryz.prog 10 #[.int .i64 num, .int .i64 til, pv] w fun e w' => ∃ mv, e = .returned (.tuple #[.agg #[.int .i64 (Ix.ofD num til l).1, .int .i64 (Ix.ofD num til l).2.1, mv], .bool (Ix.ofOk num til l)]) ∧ w'.ownsRow w.heap.size 47 3 mv (Ix.ofD num til l).2.2.length (flat3 (Ix.ofD num til l).2.2) ∧ Below w.heap.size w w' := by
  obtain ⟨i0, hI0, hz0, hz1, hz2⟩ := info_parts infoMeta
  obtain ⟨a, cap, rfl, hlen, hrow⟩ := h
  have HX0 := hide (Xs.startI w num til)
  have hs0 : w.heap.size < w.heap.size + 1 := by omega
  go_enter Tryz.func10, Tryz.ntmps10
  go_wp2_with fail
  go_loopw [16] (fun i w' => ∃ (k : Nat) (mv : Value), k ≤ l.length ∧ i = .int .i64 k ∧ Xs w w' (w.heap.size + 1) w.heap.size num til mv ((l.take k).map Ix.metaP) ∧ ∀ j, j < k → Ix.pOk (Ix.pg l j) = true) (fun i _ => l.length - (intOf i).toNat)
  case atStart => exact ⟨0, _, Nat.zero_le _, rfl, unhide HX0, fun j hj => by omega⟩
  case round =>
    obtain ⟨k, mv, hk, rfl, hx, hall⟩ := hrel
    clear HX0
    have HX := hide hx
    have HA := hide hall
    clear hx hall
    have hmsl : ((l.take k).map Ix.metaP).length = k := by rw [List.length_map, List.length_take]; omega
    by_cases hlt : k < l.length
    · obtain ⟨b, off, rfl, hb, _, hc⟩ := hrow (by omega)
      obtain ⟨fv, dv, hAt, hf, hd⟩ := hc k hlt
      obtain ⟨nm, vr, fs, ds, hpk⟩ : ∃ nm vr fs ds, Ix.pg l k = (nm, vr, fs, ds) := ⟨_, _, _, _, rfl⟩
      rw [hpk] at hAt hf hd
      dsimp only at hf hd
      obtain ⟨fa, fc, hfv⟩ := hf.slice
      obtain ⟨da, dc, hdv⟩ := hd.slice
      subst hfv hdv
      obtain ⟨c0, c1, c2, c3⟩ := hAt.keep ((unhide HX).bel.block b hb)
      dsimp only at c0 c1
      have hbw : b < wr.heap.size := Nat.lt_of_lt_of_le hb (unhide HX).bel.size
      have hi0 : (0 : Int) ≤ (k : Int) := Int.natCast_nonneg _
      have hi1 : (k : Int) < (l.length : Int) := by omega
      have hmp : Ix.metaP (Ix.pg l k) = (nm, vr, Sm.sum (Pk.text nm vr fs ds)) := by rw [hpk]; rfl
      have HMP := hide hmp
      have htk := Ix.take_pg l k hlt
      have HTK := hide htk
      have HPK := hide hpk
      have HMS := hide hmsl
      have bP := below1 wr (.cells #[.int .i64 nm, .int .i64 vr, .slice fa fs.length fc, .slice da ds.length dc] 35)
      have HP := hide (heap_alloc_new wr (.cells #[.int .i64 nm, .int .i64 vr, .slice fa fs.length fc, .slice da ds.length dc] 35))
      have HX1 := hide ((unhide HX).later bP)
      have HF := hide (And.intro (hf.prs.later (unhide HX1).bel) (hd.prs.later (unhide HX1).bel))
      clear hc hrow hAt hf hd hpk hmsl hmp htk bP
      obtain ⟨ms, hms⟩ : ∃ ms, ms = (l.take k).map Ix.metaP := ⟨_, rfl⟩
      rw [← hms] at HX1 HMS
      have HME := hide hms
      clear hms HX
      go_wp2_with fail
      refine (implPkgOk_any _ nm vr _ _ fs ds (unhide HF).1 (unhide HF).2).mono ?_
      generalize hPe : wr.heap.size = P at *
      clear hPe
      generalize wr.alloc _ = W1 at *
      clear wr c0 c1 c2 c3
      rintro e w2 ⟨rfl, b2⟩
      have HP2 := hide ((b2.block _ (heapLt (unhide HP))).trans (unhide HP))
      have HX2 := hide ((unhide HX1).later b2)
      have HF2 := hide (And.intro ((unhide HF).1.later b2) ((unhide HF).2.later b2))
      clear b2 HP HX1 HF
      clear W1
      cases hok : Pk.pkgOk nm vr fs ds
      · obtain ⟨⟨r0, s0⟩, ⟨r1, s1⟩, r2, s2⟩ : (_ ∧ _) ∧ (_ ∧ _) ∧ _ ∧ _ := ⟨⟨cellOf (unhide HX2).hR 0, frozenOf (unhide HX2).hR 0⟩, ⟨cellOf (unhide HX2).hR 1, frozenOf (unhide HX2).hR 1⟩, cellOf (unhide HX2).hR 2, frozenOf (unhide HX2).hR 2⟩
        go_wp2
        obtain ⟨⟨q0, q1, q2⟩, hbel, _⟩ := fin3 (a := .int .i64 0) (b := .int .i64 0) (c := .slice none 0 0) (unhide HX2).hR (unhide HX2).lR (unhide HX2).bel rfl
        have hno : Ix.ofOk num til l = false := by
          unfold Ix.ofOk
          rw [Ix.pkgsOk_bad hlt (by unfold Ix.pkgGood Ix.pOk; rw [unhide HPK]; show (Pk.pkgOk nm vr fs ds && _) = false; rw [hok]; rfl)]
          rfl
        have hD : Ix.ofD num til l = (0, 0, []) := by unfold Ix.ofD; rw [hno]; rfl
        exact bodyPost_ret (v := .tuple #[.agg #[.int .i64 0, .int .i64 0, .slice none 0 0], .bool false]) (by simp [results, Tryz.results10, go_sem, q0, q1, q2]) rfl ⟨.slice none 0 0, by rw [hD, hno], by rw [hD]; exact World.ownsRow_nil _ _ _ _, hbel⟩
      have HOK := hide hok
      clear hok
      have sOf : ∀ w', Below w2.heap.size w2 w' → w'.cell? ⟨w.heap.size + 1, 2, none⟩ = some mv ∧ (w'.cell? ⟨P, 0, none⟩ = some (.int .i64 nm) ∧ w'.cell? ⟨P, 1, none⟩ = some (.int .i64 vr) ∧ w'.cell? ⟨P, 2, none⟩ = some (.slice fa fs.length fc) ∧ w'.cell? ⟨P, 3, none⟩ = some (.slice da ds.length dc)) := fun w' hb => by
        have hx := (hb.block _ (heapLt (unhide HP2))).trans (unhide HP2)
        exact ⟨cellOf ((unhide HX2).later hb).hX 2, cellOf hx 0, cellOf hx 1, cellOf hx 2, cellOf hx 3⟩
      have SOF := hide sOf
      clear sOf
      go_wp2_with fail
      refine wl_region (S := fun w' => w'.cell? ⟨w.heap.size + 1, 2, none⟩ = some mv ∧ (w'.cell? ⟨P, 0, none⟩ = some (.int .i64 nm) ∧ w'.cell? ⟨P, 1, none⟩ = some (.int .i64 vr) ∧ w'.cell? ⟨P, 2, none⟩ = some (.slice fa fs.length fc) ∧ w'.cell? ⟨P, 3, none⟩ = some (.slice da ds.length dc))) (s := 7) (by kernel_rfl) (unhide SOF _ (below_drew w2)) (fun hHeld => ?_)
      refine wl_take (i := 0) (d := some 24) rfl rfl (by kernel_rfl) (by kernel_rfl) (by kernel_rfl) (by kernel_rfl) (by kernel_rfl) (fun _ _ _ h => h) (by rfl) (v := ?_) ?_ (by assumption) ?_
      rotate_left
      · (intro w hSw; (try dsimp only at hSw); go_simp <;> with_reducible rfl)
      simp only [Act.put, List.setIfInBounds_toArray, List.set_cons_zero, List.set_cons_succ]
      refine wl_take (i := 1) (d := some 25) rfl rfl (by kernel_rfl) (by kernel_rfl) (by kernel_rfl) (by kernel_rfl) (by kernel_rfl) (fun _ _ _ h => h) (by rfl) (v := ?_) ?_ (by assumption) ?_
      rotate_left
      · (intro w hSw; (try dsimp only at hSw); go_simp <;> with_reducible rfl)
      simp only [Act.put, List.setIfInBounds_toArray, List.set_cons_zero, List.set_cons_succ]
      refine wl_take (i := 2) (d := some 26) rfl rfl (by kernel_rfl) (by kernel_rfl) (by kernel_rfl) (by kernel_rfl) (by kernel_rfl) (fun _ _ _ h => h) (by rfl) (v := ?_) ?_ (by assumption) ?_
      rotate_left
      · (intro w hSw; (try dsimp only at hSw); go_simp <;> with_reducible rfl)
      simp only [Act.put, List.setIfInBounds_toArray, List.set_cons_zero, List.set_cons_succ]
      refine wl_one (i := 3) (by kernel_rfl) rfl (by rfl) (fun K hK => ?_)
      go_simp
      clear hHeld
      have hd0 := below_drew w2
      refine (metaOf_any _ nm vr _ _ fs ds ((unhide HF2).1.later hd0) ((unhide HF2).2.later hd0)).mono ?_
      rintro e w3 ⟨rfl, b3⟩
      have hb3 : Below w2.heap.size w2 w3 := hd0.trans b3
      have hH3 := unhide SOF _ hb3
      have HB3 := hide hb3
      clear hb3 b3 hd0
      go_wp2_with fail
      refine hK.out _ _ (fun _ => (by assumption)) ?_
      clear hK K
      try simp only [Act.put, List.setIfInBounds_toArray, List.set_cons_zero, List.set_cons_succ]
      refine wl_one (i := 4) (by kernel_rfl) rfl (by rfl) (fun K hK => ?_)
      go_simp
      have hb4 := (unhide HB3).trans ((below1 w3 (.cells #[.int .i64 nm, .int .i64 vr, .int .i64 (Sm.sum (Pk.text nm vr fs ds))] 47)).mono (unhide HB3).size)
      have hH4 := unhide SOF _ hb4
      have hX4 := hide ((unhide HX2).later hb4)
      have hnw := World.news_of_block (cs := #[.int .i64 nm, .int .i64 vr, .int .i64 (Sm.sum (Pk.text nm vr fs ds))]) (t := 47) (fr := (0, 0)) (heap_alloc_new w3 (.cells #[.int .i64 nm, .int .i64 vr, .int .i64 (Sm.sum (Pk.text nm vr fs ds))] 47))
      have hHP4 := hide ((hb4.block _ (heapLt (unhide HP2))).trans (unhide HP2))
      clear hH3 HB3 hb4
      refine hK.out _ _ (fun _ => (by assumption)) ?_
      clear hK K
      try simp only [Act.put, List.setIfInBounds_toArray, List.set_cons_zero, List.set_cons_succ]
      refine wl_one (i := 5) (by kernel_rfl) rfl (by rfl) (fun K hK => ?_)
      have hmk : ms.length ≤ 1000000000 := by rw [unhide HMS]; omega
      refine wp_append_lies _ _ _ _ (by rfl) w.heap.size 47 i0 _ 3 24 Tryz.underlying26 hI0 hz0 hz1 hz2 rfl (by omega) mv ms.length (flat3 ms) (by rfl) (unhide hX4).own
        ⟨w3.heap.size, 0, none⟩ 1 1 [.int .i64 nm, .int .i64 vr, .int .i64 (Sm.sum (Pk.text nm vr fs ds))] (by rfl) (by rfl) hnw (by simp [Value.oneCell']) (by omega) (by unfold maxLen; omega) (by omega) (unhide hX4).bel.size (w3.heap.size + 1) (by simp) ?_
      intro gg gcap w11 hown hgrow hat hlt11
      have hX11 := (grown_other (unhide hX4).own hgrow (unhide hX4).hX (by decide)).trans (unhide hX4).hX
      have hP11 := (grown_other (unhide hX4).own hgrow (unhide hHP4) (by decide)).trans (unhide hHP4)
      have hH11 : w11.cell? ⟨w.heap.size + 1, 2, none⟩ = some mv ∧ (w11.cell? ⟨P, 0, none⟩ = some (.int .i64 nm) ∧ w11.cell? ⟨P, 1, none⟩ = some (.int .i64 vr) ∧ w11.cell? ⟨P, 2, none⟩ = some (.slice fa fs.length fc) ∧ w11.cell? ⟨P, 3, none⟩ = some (.slice da ds.length dc)) := ⟨cellOf hX11 2, cellOf hP11 0, cellOf hP11 1, cellOf hP11 2, cellOf hP11 3⟩
      have x2 := cellOf hX11 2
      have fX := frozenOf hX11 2
      have HY := hide (Xs.app (x := (nm, vr, Sm.sum (Pk.text nm vr fs ds))) (unhide hX4) hgrow hown)
      clear hH4 hX4 hgrow hown hat hnw hX11 hP11 hHP4 hlt11
      change K (Act.put _ (some 29) _) _
      refine hK.out _ _ (fun _ => (by assumption)) ?_
      clear hK K
      try simp only [Act.put, List.setIfInBounds_toArray, List.set_cons_zero, List.set_cons_succ]
      refine wl_take (i := 6) (d := some 30) rfl rfl (by kernel_rfl) (by kernel_rfl) (by kernel_rfl) (by kernel_rfl) (by kernel_rfl) (fun _ _ _ h => h) (by rfl) (v := ?_) ?_ (by assumption) ?_
      rotate_left
      · (intro w hSw; (try dsimp only at hSw); go_simp <;> with_reducible rfl)
      simp only [Act.put, List.setIfInBounds_toArray, List.set_cons_zero, List.set_cons_succ]
      refine wl_one (i := 7) (by kernel_rfl) rfl (by rfl) (fun K hK => ?_)
      go_simp
      generalize w11.setCell _ _ = w12 at *
      refine hK.out _ _ (fun h => absurd rfl h) ?_
      clear hK K
      refine wl_done (by kernel_rfl) ?_
      clear hH11 fX x2
      go_wp2
      go_roundw
      case rel =>
        refine ⟨k + 1, .slice (some ⟨gg, 0, none⟩) (ms.length + 1) gcap, by omega, by go_num, ?_, fun j hj => ?_⟩
        · rw [unhide HTK, List.map_append, List.map_singleton, unhide HMP, ← unhide HME]
          exact unhide HY
        · rcases Nat.lt_or_ge j k with h | h
          · exact unhide HA j h
          · obtain rfl : j = k := by omega
            unfold Ix.pOk
            rw [unhide HPK]
            exact unhide HOK
      case measure => simp [intOf]; omega
    · obtain rfl : k = l.length := by omega
      rw [List.take_length] at HX
      clear hlt hmsl hrow
      obtain ⟨ms, hms⟩ : ∃ ms, ms = l.map Ix.metaP := ⟨_, rfl⟩
      rw [← hms] at HX
      have HME := hide hms
      have hml : ms.length ≤ 1000000000 := by rw [hms, List.length_map]; exact hlen
      clear hms
      obtain ⟨ma, mc, hmv⟩ := own_formS (unhide HX).own
      subst hmv
      have hT := Trs.own (unhide HX).own hml
      have x0 := cellOf (unhide HX).hX 0
      have x1 := cellOf (unhide HX).hX 1
      have x2 := cellOf (unhide HX).hX 2
      have HT := hide hT
      clear hT
      go_wp2_with fail
      refine (implIndexOk_any _ num til _ ms (unhide HT)).mono ?_
      rintro e w5 ⟨rfl, b5⟩
      have HX5 := hide ((unhide HX).later b5)
      clear b5 HX HT x0 x1 x2
      obtain ⟨⟨r0, s0⟩, ⟨r1, s1⟩, r2, s2⟩ : (_ ∧ _) ∧ (_ ∧ _) ∧ _ ∧ _ := ⟨⟨cellOf (unhide HX5).hR 0, frozenOf (unhide HX5).hR 0⟩, ⟨cellOf (unhide HX5).hR 1, frozenOf (unhide HX5).hR 1⟩, cellOf (unhide HX5).hR 2, frozenOf (unhide HX5).hR 2⟩
      obtain ⟨x0, x1, x2⟩ : _ ∧ _ ∧ _ := ⟨cellOf (unhide HX5).hX 0, cellOf (unhide HX5).hX 1, cellOf (unhide HX5).hX 2⟩
      cases hio : Ix.idxOk num til ms
      · go_wp2
        obtain ⟨⟨q0, q1, q2⟩, hbel, _⟩ := fin3 (a := .int .i64 0) (b := .int .i64 0) (c := .slice none 0 0) (unhide HX5).hR (unhide HX5).lR (unhide HX5).bel rfl
        have hno : Ix.ofOk num til l = false := by unfold Ix.ofOk; rw [← unhide HME, hio, Bool.and_false]
        have hD : Ix.ofD num til l = (0, 0, []) := by unfold Ix.ofD; rw [hno]; rfl
        exact bodyPost_ret (v := .tuple #[.agg #[.int .i64 0, .int .i64 0, .slice none 0 0], .bool false]) (by simp [results, Tryz.results10, go_sem, q0, q1, q2]) rfl ⟨.slice none 0 0, by rw [hD, hno], by rw [hD]; exact World.ownsRow_nil _ _ _ _, hbel⟩
      · go_wp2
        obtain ⟨⟨q0, q1, q2⟩, hbel, hfar⟩ := fin3 (a := .int .i64 num) (b := .int .i64 til) (c := .slice ma ms.length mc) (unhide HX5).hR (unhide HX5).lR (unhide HX5).bel rfl
        have hmo : Ix.metasOk (l.map Ix.metaP) = true := by
          have := hio
          unfold Ix.idxOk at this
          rw [Bool.and_eq_true] at this
          rw [← unhide HME]
          exact this.2
        have hyes : Ix.ofOk num til l = true := by unfold Ix.ofOk; rw [← unhide HME, hio, Bool.and_true]; exact Ix.pkgs_of_metas (unhide HA) hmo
        have hD : Ix.ofD num til l = (num, til, ms) := by unfold Ix.ofD; rw [if_pos hyes, unhide HME]
        exact bodyPost_ret (v := .tuple #[.agg #[.int .i64 num, .int .i64 til, .slice ma ms.length mc], .bool true]) (by simp [results, Tryz.results10, go_sem, q0, q1, q2]) rfl ⟨.slice ma ms.length mc, by rw [hD, hyes], by rw [hD]; exact own_keepS (unhide HX5).own (fun g _ e _ hg => hfar g (fun e2 => own_ne (unhide HX5).own (unhide HX5).hR (by decide) (by rw [e, e2]))), hbel⟩
end Go.Proofs.YtjehpeojdcaklaaGreatDoor
