import Derived.Test.YtlnieobmhofkdaaGreatShelfW
import Derived.Test.YtlnieobmhofkdaaGreatMix10
import Derived.Test.YtlnieobmhofkdaaGreatImplIdxOfW
import Derived.Laws.StructEq
/- What (impl.shelves).meets returns: whether among what is kept of a name there is a package of which a meta tells. -/
namespace Go.Proofs.YtlnieobmhofkdaaGreat
open Go.RowKit

theorem metaP_is (nm vr : Int) (fs ds : List (Int × Int)) (n v s : Int) : decide (Ix.metaP (nm, vr, fs, ds) = (n, v, s)) = (decide (nm = n) && (decide (vr = v) && decide (Sm.sum (Pk.text nm vr fs ds) = s))) := by
  have e : Ix.metaP (nm, vr, fs, ds) = (nm, vr, Sm.sum (Pk.text nm vr fs ds)) := rfl
  rw [e]
  simp only [Prod.mk.injEq]
  simp only [Bool.decide_and]

set_option maxHeartbeats 4000000 in
set_option maxRecDepth 100000 in
theorem meets1_any (w : World) (Bm : Nat) (n v s : Int) (nm vr : Int) (fv dv : Value) (fs ds : List (Int × Int)) (hm : w.heap[Bm]? = some (.cells #[.int .i64 n, .int .i64 v, .int .i64 s] 60 (0, 0))) (hf : Prs w fv fs) (hd : Prs w dv ds) :
    Calls Tryz.prog 63 #[.agg #[.int .i64 nm, .int .i64 vr, fv, dv], .pointer (some ⟨Bm, 0, none⟩)] w fun e w' => e = .returned (.bool (decide (Ix.metaP (nm, vr, fs, ds) = (n, v, s)))) ∧ Below w.heap.size w w' := by
  obtain ⟨fa, fc, hfv⟩ := hf.slice
  obtain ⟨da, dc, hdv⟩ := hd.slice
  subst hfv hdv
  rw [metaP_is]
  have CM := hide (fun W h1 h2 => metaOf_any W nm vr (.slice fa fs.length fc) (.slice da ds.length dc) fs ds h1 h2)
  obtain ⟨sm, hsm⟩ : ∃ sm, Sm.sum (Pk.text nm vr fs ds) = sm := ⟨_, rfl⟩
  rw [hsm] at CM ⊢
  clear hsm
  have b0 := below1 w (.cells #[.int .i64 nm, .int .i64 vr, .slice fa fs.length fc, .slice da ds.length dc] 67)
  have HX := hide (heap_alloc_new w (.cells #[.int .i64 nm, .int .i64 vr, .slice fa fs.length fc, .slice da ds.length dc] 67))
  have HM := hide ((b0.block _ (heapLt hm)).trans hm)
  have HF := hide (And.intro (hf.later b0) (hd.later b0))
  have BW := hide b0
  clear b0 hm hf hd
  go_enter Tryz.func63, Tryz.ntmps63
  go_wp2_with fail
  generalize w.alloc _ = W1 at *
  obtain ⟨x0, x1, x2, x3⟩ : _ ∧ _ ∧ _ ∧ _ := ⟨cellOf (unhide HX) 0, cellOf (unhide HX) 1, cellOf (unhide HX) 2, cellOf (unhide HX) 3⟩
  obtain ⟨m0, m1, m2⟩ : _ ∧ _ ∧ _ := ⟨cellOf (unhide HM) 0, cellOf (unhide HM) 1, cellOf (unhide HM) 2⟩
  refine wp_region_held_drew (S := fun w' => (w'.cell? ⟨w.heap.size, 0, none⟩ = some (.int .i64 nm) ∧ w'.cell? ⟨w.heap.size, 1, none⟩ = some (.int .i64 vr) ∧ w'.cell? ⟨w.heap.size, 2, none⟩ = some (.slice fa fs.length fc) ∧ w'.cell? ⟨w.heap.size, 3, none⟩ = some (.slice da ds.length dc)) ∧ (w'.cell? ⟨Bm, 0, none⟩ = some (.int .i64 n) ∧ w'.cell? ⟨Bm, 1, none⟩ = some (.int .i64 v) ∧ w'.cell? ⟨Bm, 2, none⟩ = some (.int .i64 s))) (by kernel_rfl) ⟨⟨x0, x1, x2, x3⟩, m0, m1, m2⟩ (fun hHeld => ?_)
  clear x0 x1 x2 x3 m0 m1 m2
  refine anyH_at (i := 0) (d := some 4) rfl rfl (by kernel_rfl) (by kernel_rfl) (by kernel_rfl) (fun _ _ _ h => h) (by rfl) (v := ?_) ?_ (by assumption) ?_
  rotate_left
  · (intro w hSw; (try dsimp only at hSw); go_simp <;> with_reducible rfl)
  simp only [Act.put, List.setIfInBounds_toArray, List.set_cons_zero, List.set_cons_succ]
  refine anyH_at (i := 2) (d := some 6) rfl rfl (by kernel_rfl) (by kernel_rfl) (by kernel_rfl) (fun _ _ _ h => h) (by rfl) (v := ?_) ?_ (by assumption) ?_
  rotate_left
  · (intro w hSw; (try dsimp only at hSw); go_simp <;> with_reducible rfl)
  simp only [Act.put, List.setIfInBounds_toArray, List.set_cons_zero, List.set_cons_succ]
  refine wpAnyH_ready (rs := [1]) (by kernel_rfl) (by simp) ?_
  refine AllReadyH.cons rfl (fun K hK => ?_) AllReadyH.nil
  go_simp
  have hd := below_drew W1
  replace HX := hide ((hd.block _ (heapLt (unhide HX))).trans (unhide HX))
  replace HM := hide ((hd.block _ (heapLt (unhide HM))).trans (unhide HM))
  replace HF := hide (And.intro ((unhide HF).1.later hd) ((unhide HF).2.later hd))
  replace BW := hide ((unhide BW).trans (hd.mono (unhide BW).size))
  clear hd
  refine (unhide CM _ (unhide HF).1 (unhide HF).2).mono ?_
  rintro e w2 ⟨rfl, b⟩
  replace HX := hide ((b.block _ (heapLt (unhide HX))).trans (unhide HX))
  replace HM := hide ((b.block _ (heapLt (unhide HM))).trans (unhide HM))
  replace BW := hide ((unhide BW).trans (b.mono (unhide BW).size))
  clear b HF
  try go_wp2_with fail
  refine hK.out _ _ ?_ (fun hHeldN => ?_)
  · exact ⟨⟨cellOf (unhide HX) 0, cellOf (unhide HX) 1, cellOf (unhide HX) 2, cellOf (unhide HX) 3⟩, cellOf (unhide HM) 0, cellOf (unhide HM) 1, cellOf (unhide HM) 2⟩
  clear hHeld
  have hHeld := hHeldN
  clear hHeldN
  clear hK K
  try simp only [Act.put, List.setIfInBounds_toArray, List.set_cons_zero, List.set_cons_succ]
  by_cases h1 : nm = n
  · by_cases h2 : vr = v
    · by_cases h3 : sm = s
      · subst h1 h2 h3
        refine anyH_at (i := 3) (d := some 7) rfl rfl (by kernel_rfl) (by kernel_rfl) (by kernel_rfl) (fun _ _ _ h => h) (by rfl) (v := ?_) ?_ (by assumption) ?_
        rotate_left
        · (intro w hSw; (try dsimp only at hSw); go_simp <;> with_reducible rfl)
        simp only [Act.put, List.setIfInBounds_toArray, List.set_cons_zero, List.set_cons_succ]
        refine anyH_at (i := 4) (d := some 3) rfl rfl (by kernel_rfl) (by kernel_rfl) (by kernel_rfl) (fun _ _ _ h => h) (by rfl) (v := ?_) ?_ (by assumption) ?_
        rotate_left
        · (intro w hSw; (try dsimp only at hSw); go_simp <;> with_reducible rfl)
        simp only [Act.put, List.setIfInBounds_toArray, List.set_cons_zero, List.set_cons_succ]
        refine wpAnyH_done (by kernel_rfl) ?_ _
        clear hHeld
        go_wp2
        go_ret
        exact ⟨by simp, unhide BW⟩
      · skip
        refine anyH_at (i := 3) (d := some 7) rfl rfl (by kernel_rfl) (by kernel_rfl) (by kernel_rfl) (fun _ _ _ h => h) (by rfl) (v := ?_) ?_ (by assumption) ?_
        rotate_left
        · (intro w hSw; (try dsimp only at hSw); go_simp <;> with_reducible rfl)
        simp only [Act.put, List.setIfInBounds_toArray, List.set_cons_zero, List.set_cons_succ]
        refine anyH_at (i := 4) (d := some 3) rfl rfl (by kernel_rfl) (by kernel_rfl) (by kernel_rfl) (fun _ _ _ h => h) (by rfl) (v := ?_) ?_ (by assumption) ?_
        rotate_left
        · (intro w hSw; (try dsimp only at hSw); go_simp <;> with_reducible rfl)
        simp only [Act.put, List.setIfInBounds_toArray, List.set_cons_zero, List.set_cons_succ]
        refine wpAnyH_done (by kernel_rfl) ?_ _
        clear hHeld
        go_wp2
        go_ret
        exact ⟨by simp [h3], unhide BW⟩
    · skip
      refine anyH_at (i := 3) (d := some 7) rfl rfl (by kernel_rfl) (by kernel_rfl) (by kernel_rfl) (fun _ _ _ h => h) (by rfl) (v := ?_) ?_ (by assumption) ?_
      rotate_left
      · (intro w hSw; (try dsimp only at hSw); go_simp <;> with_reducible rfl)
      simp only [Act.put, List.setIfInBounds_toArray, List.set_cons_zero, List.set_cons_succ]
      refine anyH_at (i := 4) (d := some 3) rfl rfl (by kernel_rfl) (by kernel_rfl) (by kernel_rfl) (fun _ _ _ h => h) (by rfl) (v := ?_) ?_ (by assumption) ?_
      rotate_left
      · (intro w hSw; (try dsimp only at hSw); go_simp <;> with_reducible rfl)
      simp only [Act.put, List.setIfInBounds_toArray, List.set_cons_zero, List.set_cons_succ]
      refine wpAnyH_done (by kernel_rfl) ?_ _
      clear hHeld
      go_wp2
      go_ret
      exact ⟨by simp [h2], unhide BW⟩
  · skip
    refine anyH_at (i := 3) (d := some 7) rfl rfl (by kernel_rfl) (by kernel_rfl) (by kernel_rfl) (fun _ _ _ h => h) (by rfl) (v := ?_) ?_ (by assumption) ?_
    rotate_left
    · (intro w hSw; (try dsimp only at hSw); go_simp <;> with_reducible rfl)
    simp only [Act.put, List.setIfInBounds_toArray, List.set_cons_zero, List.set_cons_succ]
    refine anyH_at (i := 4) (d := some 3) rfl rfl (by kernel_rfl) (by kernel_rfl) (by kernel_rfl) (fun _ _ _ h => h) (by rfl) (v := ?_) ?_ (by assumption) ?_
    rotate_left
    · (intro w hSw; (try dsimp only at hSw); go_simp <;> with_reducible rfl)
    simp only [Act.put, List.setIfInBounds_toArray, List.set_cons_zero, List.set_cons_succ]
    refine wpAnyH_done (by kernel_rfl) ?_ _
    clear hHeld
    go_wp2
    go_ret
    exact ⟨by simp [h1], unhide BW⟩


set_option maxHeartbeats 4000000 in
set_option maxRecDepth 100000 in
theorem indexMeets_any {N : Nat → Prop} (w : World) (v : Value) (l : List Ix.Pg) (Bm : Nat) (m0 m1 m2 : Int) (h : Pks N w v l) (hm : w.heap[Bm]? = some (.cells #[.int .i64 m0, .int .i64 m1, .int .i64 m2] 60 (0, 0))) :
    Calls Tryz.prog 84 #[v, .func (.func 63) #[] #[.pointer (some ⟨Bm, 0, none⟩)]] w fun e w' => ∃ r : Int, e = .returned (.int .i64 r) ∧ ((r = -1 ∧ metIn l (m0, m1, m2) = false) ∨ (0 ≤ r ∧ metIn l (m0, m1, m2) = true)) ∧ Below w.heap.size w w' := by
  obtain ⟨a, cap, rfl, hlen, hrow⟩ := h
  have HM := hide hm
  clear hm
  go_enter Tryz.func84, Tryz.ntmps84
  go_wp2
  go_loopw [8] (fun i wr => ∃ k : Nat, k ≤ l.length ∧ i = .int .i64 k ∧ (∀ j, j < k → Ix.metaP (Ix.pg l j) ≠ (m0, m1, m2)) ∧ Below w.heap.size w wr) (fun i _ => l.length - (intOf i).toNat)
  case atStart => exact ⟨0, Nat.zero_le _, rfl, fun j hj => absurd hj (Nat.not_lt_zero _), Below.refl _ _⟩
  case round =>
    obtain ⟨k, hk, rfl, hno, hw⟩ := hrel
    have HNO := hide hno
    have HW := hide hw
    clear hno hw
    by_cases hlt : k < l.length
    · obtain ⟨b, off, rfl, hb, _, hc⟩ := hrow (by omega)
      obtain ⟨fv, dv, hAt, hf, hd⟩ := hc k hlt
      have hpm := Ix.pg_mem hlt
      obtain ⟨nm, vr, fs, ds, hpk⟩ : ∃ nm vr fs ds, Ix.pg l k = (nm, vr, fs, ds) := ⟨_, _, _, _, rfl⟩
      rw [hpk] at hAt hf hd hpm
      dsimp only at hf hd
      obtain ⟨fa, fc, hfv⟩ := hf.slice
      obtain ⟨da, dc, hdv⟩ := hd.slice
      subst hfv hdv
      have CM := hide (meets1_any wr Bm m0 m1 m2 nm vr _ _ fs ds (((unhide HW).block _ (heapLt (unhide HM))).trans (unhide HM)) (hf.prs.later (unhide HW)) (hd.prs.later (unhide HW)))
      obtain ⟨c0, c1, c2, c3⟩ := hAt.keep ((unhide HW).block b hb)
      dsimp only at c0 c1 c2 c3
      have hi0 : (0 : Int) ≤ (k : Int) := Int.natCast_nonneg _
      have hi1 : (k : Int) < (l.length : Int) := by omega
      have HPK := hide hpk
      have HPM := hide hpm
      clear hAt hf hd hc hrow hpk hpm
      by_cases hq : Ix.metaP (nm, vr, fs, ds) = (m0, m1, m2)
      · rw [decide_eq_true hq] at CM
        have hany : metIn l (m0, m1, m2) = true := by unfold metIn; rw [List.any_eq_true]; exact ⟨_, unhide HPM, decide_eq_true hq⟩
        have HANY := hide hany
        clear hq hany
        go_wp2_with fail
        refine (unhide CM).mono ?_
        rintro e w2 ⟨rfl, b2⟩
        have HB2 := hide ((unhide HW).trans (b2.mono (unhide HW).size))
        clear b2 CM c0 c1 c2 c3
        go_wp2
        go_ret
        exact ⟨k, rfl, .inr ⟨hi0, unhide HANY⟩, unhide HB2⟩
      · rw [decide_eq_false hq] at CM
        have HQ := hide hq
        clear hq
        go_wp2_with fail
        refine (unhide CM).mono ?_
        rintro e w2 ⟨rfl, b2⟩
        have HB2 := hide ((unhide HW).trans (b2.mono (unhide HW).size))
        clear b2 CM c0 c1 c2 c3
        go_wp2
        go_roundw
        case rel => exact ⟨k + 1, by omega, by go_num, fun j hj => by
          rcases Nat.lt_or_ge j k with h1 | h1
          · exact unhide HNO j h1
          · obtain rfl : j = k := by omega
            rw [unhide HPK]; exact unhide HQ, unhide HB2⟩
        case measure => simp [intOf]; omega
    · obtain rfl : k = l.length := by omega
      have hany : metIn l (m0, m1, m2) = false := by
        unfold metIn
        rw [List.any_eq_false]
        intro p hp
        obtain ⟨i, hi, e⟩ := List.getElem_of_mem hp
        have := unhide HNO i hi
        rw [Ix.pg_get hi, e] at this
        simpa using this
      have HANY := hide hany
      clear hany hlt
      go_wp2
      go_ret
      exact ⟨-1, rfl, .inl ⟨rfl, unhide HANY⟩, unhide HW⟩

set_option maxHeartbeats 4000000 in
set_option maxRecDepth 100000 in
theorem containsMeets_any {N : Nat → Prop} (w : World) (v : Value) (l : List Ix.Pg) (Bm : Nat) (m0 m1 m2 : Int) (h : Pks N w v l) (hm : w.heap[Bm]? = some (.cells #[.int .i64 m0, .int .i64 m1, .int .i64 m2] 60 (0, 0))) :
    Calls Tryz.prog 62 #[v, .func (.func 63) #[] #[.pointer (some ⟨Bm, 0, none⟩)]] w fun e w' => e = .returned (.bool (metIn l (m0, m1, m2))) ∧ Below w.heap.size w w' := by
  have CI := hide (indexMeets_any w v l Bm m0 m1 m2 h hm)
  generalize metIn l (m0, m1, m2) = q at *
  clear h hm
  go_enter Tryz.func62, Tryz.ntmps62
  go_wp2_with fail
  refine (unhide CI).mono ?_
  rintro e w2 ⟨r, rfl, hr, b⟩
  have HB := hide b
  clear b CI
  rcases hr with ⟨rfl, rfl⟩ | ⟨hr0, rfl⟩
  · go_wp2
    go_ret
    exact ⟨rfl, unhide HB⟩
  · have hr1 : decide (0 ≤ r) = true := decide_eq_true hr0
    go_wp2
    go_ret
    exact ⟨rfl, unhide HB⟩

set_option maxHeartbeats 4000000 in
set_option maxRecDepth 100000 in
theorem meets_any {B : Nat} (w : World) (M cnt : Nat) (V : Int → Value) (E : Int → List El) (m0 m1 m2 : Int) (hM : MapV w M cnt V) (hS : Shv B w V E) (hn : 1 ≤ m0 ∧ m0 ≤ 4) (hl : (E m0).length ≤ 900) (hsm : ∀ e ∈ E m0, e.1.2.2.1.length ≤ 1000 ∧ e.1.2.2.2.length ≤ 1000) :
    Calls Tryz.prog 32 #[.map (some M), .agg #[.int .i64 m0, .int .i64 m1, .int .i64 m2]] w fun e w' => e = .returned (.bool (metIn ((E m0).map (·.1)) (m0, m1, m2))) ∧ Below w.heap.size w w' := by
  have hpk : Pks (fun b => B ≤ b) w (V m0) ((E m0).map (·.1)) := (PAns.mk (hS.own m0) (hS.el m0) (hS.far m0)).pks (by omega) hsm
  obtain ⟨sa, sc, hsv⟩ := hpk.slice
  rw [List.length_map] at hsv
  have HSV := hide hsv
  rw [hsv] at hpk
  have b0 := below1 w (.cells #[.int .i64 m0, .int .i64 m1, .int .i64 m2] 60)
  have hx := heap_alloc_new w (.cells #[.int .i64 m0, .int .i64 m1, .int .i64 m2] 60)
  have CC := hide (fun W v h1 h2 => containsMeets_any (N := fun b => B ≤ b) W v ((E m0).map (·.1)) w.heap.size m0 m1 m2 h1 h2)
  generalize metIn ((E m0).map (·.1)) (m0, m1, m2) = q at *
  have HX := hide hx
  have HM := hide (hM.later b0)
  have HP := hide (hpk.later b0)
  have BW := hide b0
  clear b0 hM hS hpk hsv hsm hl hx
  obtain ⟨hn0, hn1⟩ := hn
  obtain ⟨x0, x1, x2⟩ : _ ∧ _ ∧ _ := ⟨cellOf (unhide HX) 0, cellOf (unhide HX) 1, cellOf (unhide HX) 2⟩
  go_enter Tryz.func32, Tryz.ntmps32
  go_wp2_with (at_lookup; refine wpList_lookV _ rfl _ _ _ rfl 41 Tryz.underlying72 (zeroP _) M cnt V rfl (unhide HM) m0 rfl (by omega) (by omega) ?_; rw [unhide HSV])
  refine (unhide CC _ _ (unhide HP) (unhide HX)).mono ?_
  rintro e w2 ⟨rfl, b⟩
  have HB := hide ((unhide BW).trans (b.mono (unhide BW).size))
  clear b CC x0 x1 x2
  go_wp2
  go_ret
  exact ⟨rfl, unhide HB⟩
end Go.Proofs.YtlnieobmhofkdaaGreat
