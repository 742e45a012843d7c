import Derived.Test.YtlnieobmhofkdaaGreatMix10
import Derived.Test.YtlnieobmhofkdaaGreatImplTextW
import Derived.Test.YtlnieobmhofkdaaGreatMix2
import Derived.Test.YtlnieobmhofkdaaGreatImplIndexOkW
/- What impl.metaOf and impl.IndexOf return: what is told of a package; an index of packages, its row the call's own; for every row of packages. -/
namespace Go.Proofs.YtlnieobmhofkdaaGreat
open Go.RowKit

attribute [local go_sem ↓] Go.wp_at_zero Go.wp_at_succ

set_option maxHeartbeats 4000000 in
set_option maxRecDepth 100000 in
theorem metaOf_any (w : World) (nm vr : Int) (fv dv : Value) (fs ds : List (Int × Int)) (hf : Prs w fv fs) (hd : Prs w dv ds) :
    Calls Tryz.prog 64 #[.agg #[.int .i64 nm, .int .i64 vr, fv, dv]] w fun e w' => e = .returned (.agg #[.int .i64 nm, .int .i64 vr, .int .i64 (Sm.sum (Pk.text nm vr fs ds))]) ∧ Below w.heap.size w w' := by
  obtain ⟨fa, fc, hfv⟩ := hf.slice
  obtain ⟨da, dc, hdv⟩ := hd.slice
  subst hfv hdv
  have B1 := below1 w (.cells #[.int .i64 nm, .int .i64 vr, .slice fa fs.length fc, .slice da ds.length dc] 67)
  have hx1 := heap_alloc_new w (.cells #[.int .i64 nm, .int .i64 vr, .slice fa fs.length fc, .slice da ds.length dc] 67)
  have z1 := sz1' w (.cells #[.int .i64 nm, .int .i64 vr, .slice fa fs.length fc, .slice da ds.length dc] 67)
  have b2 := below1 (w.alloc (.cells #[.int .i64 nm, .int .i64 vr, .slice fa fs.length fc, .slice da ds.length dc] 67)) (.cells #[.int .i64 0, .int .i64 0, .int .i64 0] 60)
  have hr2 := heap_alloc_new (w.alloc (.cells #[.int .i64 nm, .int .i64 vr, .slice fa fs.length fc, .slice da ds.length dc] 67)) (.cells #[.int .i64 0, .int .i64 0, .int .i64 0] 60)
  rw [z1] at hr2
  have B2 := B1.trans (b2.mono B1.size)
  have H2 := hide (And.intro B2 (And.intro ((b2.block _ (heapLt hx1)).trans hx1) hr2))
  have HF := hide (And.intro (hf.later B2) (hd.later B2))
  clear B1 hx1 z1 b2 hr2 B2 hf hd
  obtain ⟨s, hs⟩ : ∃ s : ByteArray, s = ⟨(Pk.text nm vr fs ds).toArray⟩ := ⟨_, rfl⟩
  have hsz : s.size ≤ maxLen := by rw [hs]; have := Pk.text_len nm vr fs ds; unfold maxLen; show (Pk.text nm vr fs ds).toArray.size ≤ _; simp; omega
  have hsum : Sm.sum s.data.toList = Sm.sum (Pk.text nm vr fs ds) := by rw [hs]
  have HSM := hide hsum
  have HS := hide hs
  clear hs hsum
  go_enter Tryz.func64, Tryz.ntmps64
  go_wp2_with fail
  generalize World.alloc _ _ = W2 at *
  have sOf : ∀ w', Below W2.heap.size W2 w' → (w'.cell? ⟨w.heap.size, 0, none⟩ = some (.int .i64 nm) ∧ w'.cell? ⟨w.heap.size, 1, none⟩ = some (.int .i64 vr) ∧ w'.cell? ⟨w.heap.size, 2, none⟩ = some (.slice fa fs.length fc) ∧ w'.cell? ⟨w.heap.size, 3, none⟩ = some (.slice da ds.length dc)) := fun w' hb => by
    have hx := (hb.block _ (heapLt (unhide H2).2.1)).trans (unhide H2).2.1
    exact ⟨cellOf hx 0, cellOf hx 1, cellOf hx 2, cellOf hx 3⟩
  have SOF := hide sOf
  clear sOf
  refine wl_region (S := fun w' => w'.cell? ⟨w.heap.size, 0, none⟩ = some (.int .i64 nm) ∧ w'.cell? ⟨w.heap.size, 1, none⟩ = some (.int .i64 vr) ∧ w'.cell? ⟨w.heap.size, 2, none⟩ = some (.slice fa fs.length fc) ∧ w'.cell? ⟨w.heap.size, 3, none⟩ = some (.slice da ds.length dc)) (s := 8) (by kernel_rfl) (unhide SOF _ (below_drew W2)) (fun hHeld => ?_)
  refine wl_take (i := 0) (d := some 3) rfl rfl (by kernel_rfl) (by kernel_rfl) (by kernel_rfl) (by kernel_rfl) (by kernel_rfl) (fun _ _ _ h => h) (by rfl) (v := ?_) ?_ (by assumption) ?_
  rotate_left
  · (intro w hSw; (try dsimp only at hSw); go_simp <;> with_reducible rfl)
  simp only [Act.put, List.setIfInBounds_toArray, List.set_cons_zero, List.set_cons_succ]
  refine wl_take (i := 1) (d := some 4) rfl rfl (by kernel_rfl) (by kernel_rfl) (by kernel_rfl) (by kernel_rfl) (by kernel_rfl) (fun _ _ _ h => h) (by rfl) (v := ?_) ?_ (by assumption) ?_
  rotate_left
  · (intro w hSw; (try dsimp only at hSw); go_simp <;> with_reducible rfl)
  simp only [Act.put, List.setIfInBounds_toArray, List.set_cons_zero, List.set_cons_succ]
  refine wl_take (i := 2) (d := some 5) rfl rfl (by kernel_rfl) (by kernel_rfl) (by kernel_rfl) (by kernel_rfl) (by kernel_rfl) (fun _ _ _ h => h) (by rfl) (v := ?_) ?_ (by assumption) ?_
  rotate_left
  · (intro w hSw; (try dsimp only at hSw); go_simp <;> with_reducible rfl)
  simp only [Act.put, List.setIfInBounds_toArray, List.set_cons_zero, List.set_cons_succ]
  refine wl_take (i := 3) (d := some 6) rfl rfl (by kernel_rfl) (by kernel_rfl) (by kernel_rfl) (by kernel_rfl) (by kernel_rfl) (fun _ _ _ h => h) (by rfl) (v := ?_) ?_ (by assumption) ?_
  rotate_left
  · (intro w hSw; (try dsimp only at hSw); go_simp <;> with_reducible rfl)
  simp only [Act.put, List.setIfInBounds_toArray, List.set_cons_zero, List.set_cons_succ]
  refine wl_take (i := 4) (d := some 7) rfl rfl (by kernel_rfl) (by kernel_rfl) (by kernel_rfl) (by kernel_rfl) (by kernel_rfl) (fun _ _ _ h => h) (by rfl) (v := ?_) ?_ (by assumption) ?_
  rotate_left
  · (intro w hSw; (try dsimp only at hSw); go_simp <;> with_reducible rfl)
  simp only [Act.put, List.setIfInBounds_toArray, List.set_cons_zero, List.set_cons_succ]
  refine wl_one (i := 5) (by kernel_rfl) rfl (by rfl) (fun K hK => ?_)
  go_simp
  clear hHeld
  have hd0 := below_drew W2
  refine (implText_any _ nm vr _ _ fs ds ((unhide HF).1.later hd0) ((unhide HF).2.later hd0)).mono ?_
  rw [← unhide HS]
  rintro e w3 ⟨rfl, b3⟩
  have hb3 : Below W2.heap.size W2 w3 := hd0.trans b3
  have hH3 := unhide SOF _ hb3
  have HB3 := hide hb3
  clear hb3 b3 hd0
  go_wp2_with fail
  refine hK.out _ _ (fun _ => (by assumption)) ?_
  clear hK K
  try simp only [Act.put, List.setIfInBounds_toArray, List.set_cons_zero, List.set_cons_succ]
  refine wl_one (i := 6) (by kernel_rfl) rfl (by rfl) (fun K hK => ?_)
  go_simp
  refine (implSum_any s _ hsz).mono ?_
  rintro e w4 ⟨rfl, rfl⟩
  rw [unhide HSM]
  have hr4 := ((unhide HB3).block _ (heapLt (unhide H2).2.2)).trans (unhide H2).2.2
  obtain ⟨r0, r1, r2⟩ : _ ∧ _ ∧ _ := ⟨cellOf hr4 0, cellOf hr4 1, cellOf hr4 2⟩
  obtain ⟨s0, s1, s2⟩ : _ ∧ _ ∧ _ := ⟨frozenOf hr4 0, frozenOf hr4 1, frozenOf hr4 2⟩
  have HR4 := hide hr4
  clear hr4
  go_wp2_with fail
  refine hK.out _ _ (fun _ => (by assumption)) ?_
  clear hK K
  try simp only [Act.put, List.setIfInBounds_toArray, List.set_cons_zero, List.set_cons_succ]
  refine wl_take (i := 7) (d := some 10) rfl rfl (by kernel_rfl) (by kernel_rfl) (by kernel_rfl) (by kernel_rfl) (by kernel_rfl) (fun _ _ _ h => h) (by rfl) (v := ?_) ?_ (by assumption) ?_
  rotate_left
  · (intro w hSw; (try dsimp only at hSw); go_simp <;> with_reducible rfl)
  simp only [Act.put, List.setIfInBounds_toArray, List.set_cons_zero, List.set_cons_succ]
  refine wl_one (i := 8) (by kernel_rfl) rfl (by rfl) (fun K hK => ?_)
  go_simp
  refine hK.out _ _ (fun h => absurd rfl h) ?_
  clear hK K
  refine wl_done (by kernel_rfl) ?_
  go_wp2
  have hBw := (unhide H2).1.trans ((unhide HB3).mono (unhide H2).1.size)
  obtain ⟨⟨q0, q1, q2⟩, hbel, _⟩ := fin3 (a := .int .i64 nm) (b := .int .i64 vr) (c := .int .i64 (Sm.sum (Pk.text nm vr fs ds))) (W := w) (unhide HR4) (by omega) hBw rfl
  exact bodyPost_ret (v := .agg #[.int .i64 nm, .int .i64 vr, .int .i64 (Sm.sum (Pk.text nm vr fs ds))]) (by simp [results, Tryz.results64, go_sem, q0, q1, q2]) rfl ⟨rfl, hbel⟩
theorem Ix.nm_map (l : List Ix.Pg) (i : Nat) (hi : i < l.length) : Ix.nm (l.map Ix.metaP) i = (Ix.pg l i).1 ∧ Ix.vr (l.map Ix.metaP) i = (Ix.pg l i).2.1 := by
  unfold Ix.nm Ix.vr Ix.pg
  rw [List.getD_eq_getElem?_getD, List.getD_eq_getElem?_getD, List.getElem?_map, List.getElem?_eq_getElem hi]
  exact ⟨rfl, rfl⟩
/-- Packages that are ok ascend just if what is told of them does. -/
theorem Ix.pkgs_of_metas {l : List Ix.Pg} (h1 : ∀ i, i < l.length → Ix.pOk (Ix.pg l i) = true) (h2 : Ix.metasOk (l.map Ix.metaP) = true) : Ix.pkgsOk l = true := by
  refine Ix.pkgsOk_good (fun i hi => ?_)
  unfold Ix.pkgGood
  rw [h1 i hi, Bool.true_and]
  have hg := Ix.metasOk_at h2 i (by rw [List.length_map]; exact hi)
  unfold Ix.good at hg
  rw [Bool.and_eq_true] at hg
  rw [(Ix.nm_map l i hi).1, (Ix.nm_map l i hi).2, (Ix.nm_map l (i - 1) (by omega)).1, (Ix.nm_map l (i - 1) (by omega)).2] at hg
  exact hg.2
theorem Xs.startI (w : World) (num til : Int) : Xs w ((w.alloc (.cells #[.int .i64 0, .int .i64 0, .slice none 0 0] 37)).alloc (.cells #[.int .i64 num, .int .i64 til, .slice none 0 0] 37)) (w.heap.size + 1) w.heap.size num til (.slice none 0 0) [] := by
  refine ⟨?_, ?_, by omega, Nat.le_refl _, by omega, World.ownsRow_nil _ _ _ _, (below1 w _).trans ((below1 _ _).mono (below1 w _).size)⟩
  · rw [at_new _ _ _ (by rw [sz1])]
  · rw [at_old _ _ _ (by rw [sz1]; omega), at_new _ _ _ rfl]

end Go.Proofs.YtlnieobmhofkdaaGreat
