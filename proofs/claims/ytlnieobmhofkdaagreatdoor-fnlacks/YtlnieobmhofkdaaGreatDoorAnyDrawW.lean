/- What spec's l71Any returns: a package in rows of its own, three files and three needs at most; the reader goes on. -/
import Derived.Test.YtlnieobmhofkdaaGreatDoorPkgDrawW
namespace Go.Proofs.YtlnieobmhofkdaaGreatDoor
open Go.RowKit

attribute [local go_sem ↓] Go.wp_at_zero Go.wp_at_succ

theorem own_baseA {w : World} {B B' : Nat} {t : TypeId} {v : Value} {n : Nat} {xs : List Value} (h : w.ownsRow B t 2 v n xs) (hB : B' ≤ B) : w.ownsRow B' t 2 v n xs := by
  refine ⟨h.1, ?_⟩
  rcases h.2 with hn | ⟨g, cap, cur, hv, hb, rest⟩
  · exact .inl hn
  · exact .inr ⟨g, cap, cur, hv, Nat.le_trans hB hb, rest⟩

/-- The state with which l71Any goes on behind l71Pkg. -/
theorem St.boxed {B : Nat} {w w3 : World} {blk p : Nat} {nm vr : Int} {fv dv : Value} {fs ds : List (Int × Int)} (hB : B ≤ w.heap.size) (hlt : blk < w.heap.size)
    (hk : Kp (w.heap.size + 1) blk (w.alloc (.cells #[.int .i64 0, .int .i64 0, .slice none 0 0, .slice none 0 0] 42)) w3) (hr : Rd B w3 blk p)
    (hf : w3.ownsRow w.heap.size 132 2 fv fs.length (flat fs)) (hd : w3.ownsRow w.heap.size 134 2 dv ds.length (flat ds)) :
    St B w blk w.heap.size w3.heap.size (w3.alloc (.cells #[.int .i64 nm, .int .i64 vr, fv, dv] 42)) nm vr fv dv fs ds p := by
  have hs := hk.size
  rw [sz1] at hs
  have hbel : Below w3.heap.size w3 (w3.alloc (.cells #[.int .i64 nm, .int .i64 vr, fv, dv] 42)) := (Below.refl _ _).alloc (Nat.le_refl _) _
  have hk0 : Kp w.heap.size blk w w3 := (Kp.of_below ((Below.refl _ _).alloc (Nat.le_refl _) _)).trans hk (by omega)
  refine ⟨hr.later (by omega) hbel, hB, hlt, hk0.trans (Kp.of_below hbel) (by omega), Nat.le_refl _, by omega, by omega, ?_, at_new _ _ _ rfl, hf.alloc _, hd.alloc _⟩
  rw [at_old _ _ _ (by omega), hk.block _ (by omega) (by omega), at_new _ _ _ rfl]

theorem St.set0 {B : Nat} {W w : World} {blk R Pb : Nat} {nm vr : Int} {fv dv : Value} {fs ds : List (Int × Int)} {p : Nat} (h : St B W blk R Pb w nm vr fv dv fs ds p) (x : Int) : St B W blk R Pb (w.setCell ⟨Pb, 0, none⟩ (.int .i64 x)) x vr fv dv fs ds p := by
  have hlt := h.lt
  have lP := h.lP
  have lB := h.lB
  have far : ∀ k, k ≠ Pb → (w.setCell ⟨Pb, 0, none⟩ (.int .i64 x)).heap[k]? = w.heap[k]? := fun k hk => Below.heap_setCell _ _ _ _ hk
  refine ⟨h.rd.keep (fun k hk _ => far k (by omega)) (far blk (by omega)), h.lB, h.lt, ⟨h.kp.os, h.kp.tape, h.kp.output, by simp only [World.setCell, Array.size_modify]; exact h.kp.size, fun k hk hne => by rw [far k (by omega)]; exact h.kp.block k hk hne⟩, h.lR, h.lP, h.ne, by rw [far R h.ne]; exact h.hR, by rw [heap_set h.hP]; rfl, ?_, ?_⟩
  · exact own_keep h.hf (fun k _ e _ hk => far k (fun e2 => h.row2 (by rw [e, e2])))
  · exact own_keep h.hd (fun k _ e _ hk => far k (fun e2 => h.row3 (by rw [e, e2])))
theorem St.set1 {B : Nat} {W w : World} {blk R Pb : Nat} {nm vr : Int} {fv dv : Value} {fs ds : List (Int × Int)} {p : Nat} (h : St B W blk R Pb w nm vr fv dv fs ds p) (x : Int) : St B W blk R Pb (w.setCell ⟨Pb, 1, none⟩ (.int .i64 x)) nm x fv dv fs ds p := by
  have hlt := h.lt
  have lP := h.lP
  have lB := h.lB
  have far : ∀ k, k ≠ Pb → (w.setCell ⟨Pb, 1, none⟩ (.int .i64 x)).heap[k]? = w.heap[k]? := fun k hk => Below.heap_setCell _ _ _ _ hk
  refine ⟨h.rd.keep (fun k hk _ => far k (by omega)) (far blk (by omega)), h.lB, h.lt, ⟨h.kp.os, h.kp.tape, h.kp.output, by simp only [World.setCell, Array.size_modify]; exact h.kp.size, fun k hk hne => by rw [far k (by omega)]; exact h.kp.block k hk hne⟩, h.lR, h.lP, h.ne, by rw [far R h.ne]; exact h.hR, by rw [heap_set h.hP]; rfl, ?_, ?_⟩
  · exact own_keep h.hf (fun k _ e _ hk => far k (fun e2 => h.row2 (by rw [e, e2])))
  · exact own_keep h.hd (fun k _ e _ hk => far k (fun e2 => h.row3 (by rw [e, e2])))

set_option maxHeartbeats 4000000 in
set_option maxRecDepth 100000 in
theorem l71Any_any {B : Nat} (w : World) (blk p : Nat) (h : Rd B w blk p) (hB : B ≤ w.heap.size) (hp : p ≤ 800000000) :
    Calls Tryz.prog 37 #[.pointer (some ⟨blk, 0, none⟩)] w fun e w' => ∃ nm vr fv dv fs ds p', e = .returned (.agg #[.int .i64 nm, .int .i64 vr, fv, dv]) ∧ fs.length ≤ 3 ∧ ds.length ≤ 3 ∧ p' ≤ p + 60 ∧ w'.ownsRow w.heap.size 132 2 fv fs.length (flat fs) ∧ w'.ownsRow w.heap.size 134 2 dv ds.length (flat ds) ∧ Rd B w' blk p' ∧ Kp w.heap.size blk w w' := by
  obtain ⟨i0, hi0, hz0, hz1, hz2⟩ := info_parts infoFile
  obtain ⟨i1, hj0, hy0, hy1, hy2⟩ := info_parts infoDep
  have hlt := h.lt
  have hr0 := h.later hB ((Below.refl _ _).alloc (Nat.le_refl _) (.cells #[.int .i64 0, .int .i64 0, .slice none 0 0, .slice none 0 0] 42))
  have HR0 : Hid (Rd _ _ _ _) := hr0
  clear hr0 h
  go_enter Tryz.func37, Tryz.ntmps37
  go_wp2_with fail
  refine (pick_any _ blk p 4 (unhide HR0) (by omega) (by omega) (by omega)).mono ?_
  rintro e w1 ⟨v1, rfl, v10, v11, hr1, hk1⟩
  have HR1 : Hid (Rd _ _ _ _) := hr1
  have HK1 : Hid (Kp _ _ _ _) := hk1.mono (Nat.le_of_eq (sz1 _ _).symm)
  clear hr1 hk1 HR0
  go_wp2_with fail
  refine (pick_any _ blk (p + 1) 3 (unhide HR1) (by omega) (by omega) (by omega)).mono ?_
  rintro e w2 ⟨v2, rfl, v20, v21, hr2, hk2⟩
  have HR2 : Hid (Rd _ _ _ _) := hr2
  have hz1' := (unhide HK1).size
  rw [sz1] at hz1'
  have HK2 : Hid (Kp _ _ _ _) := (unhide HK1).trans hk2 hz1'
  clear hr2 hk2 HR1 HK1 hz1'
  go_wp2_with fail
  have hz2' := (unhide HK2).size
  rw [sz1] at hz2'
  refine (l71Pkg_any _ blk (p + 1 + 1) (1 + v1) (1 + v2) (unhide HR2) (by omega) (by omega)).mono ?_
  rintro e w3 ⟨fv, dv, fs, ds, p3, rfl, fl, dl, hp3, of1, od1, hr3, hk3⟩
  have HS := hide (St.boxed (nm := 1 + v1) (vr := 1 + v2) hB hlt ((unhide HK2).trans hk3 hz2') hr3 (own_baseA of1 (by omega)) (own_baseA od1 (by omega)))
  clear HR2 HK2 of1 od1 hr3 hk3 hz2' hlt
  obtain ⟨fa, fc, rfl⟩ := own_form (unhide HS).hf
  obtain ⟨da, dc, rfl⟩ := own_form (unhide HS).hd
  go_wp2_with fail
  refine (pick_any _ blk p3 20 (unhide HS).rd (by omega) (by omega) (by omega)).mono ?_
  rintro e w4 ⟨v4, rfl, v40, v41, hr4, hk4⟩
  have HS4 := hide ((unhide HS).keep hk4 hr4)
  clear HS hr4 hk4
  generalize w3.heap.size = Pb at *
  have hne2 := (unhide HS4).row2
  have hne3 := (unhide HS4).row3
  by_cases e0 : v4 = 0
  · subst e0
    go_wp2_with fail
    have HS5 := hide ((unhide HS4).alloc (.cells #[.int .i64 0, .int .i64 5] 3))
    refine (pick_any _ blk (p3 + 1) 2 (unhide HS5).rd (by omega) (by omega) (by omega)).mono ?_
    rintro e w6 ⟨v6, rfl, v60, v61, hr6, hk6⟩
    have HS6 := hide ((unhide HS5).keep hk6 hr6)
    have d0 : w6.cell? ⟨w4.heap.size, 0, none⟩ = some (.int .i64 0) := by rw [hk6.cell (by simp) (by have := (unhide HS4).rd.lt; show w4.heap.size ≠ blk; omega), World.cell?_alloc_new]; rfl
    have d1 : w6.cell? ⟨w4.heap.size, 1, none⟩ = some (.int .i64 5) := by rw [hk6.cell (by simp) (by have := (unhide HS4).rd.lt; show w4.heap.size ≠ blk; omega), World.cell?_alloc_new]; rfl
    clear HS4 HS5 hr6 hk6
    obtain ⟨⟨c0, c1, c2, c3⟩, ⟨f0, f1, f2, f3⟩⟩ := (unhide HS6).cells
    obtain ⟨⟨r0, r1, r2, r3⟩, ⟨s0, s1, s2, s3⟩⟩ := (unhide HS6).cellsR
    have hRP := (unhide HS6).ne
    have hPR := Ne.symm hRP
    have hv6 : v6 = 0 ∨ v6 = 1 := by omega
    rcases hv6 with rfl | rfl
    · have HS7 := hide ((unhide HS6).set0 0)
      go_wp2
      obtain ⟨⟨q0, q1, q2, q3⟩, o1, o2, o3, o4⟩ := (unhide HS7).fin rfl
      exact bodyPost_ret (v := .agg #[.int .i64 0, .int .i64 (1 + v2), .slice fa fs.length fc, .slice da ds.length dc]) (by simp [results, Tryz.results37, go_sem, q0, q1, q2, q3]) rfl ⟨_, _, _, _, fs, ds, p3 + 1 + 1, rfl, by omega, by omega, by omega, o1, o2, o3, o4⟩
    · have HS7 := hide ((unhide HS6).set0 5)
      go_wp2
      obtain ⟨⟨q0, q1, q2, q3⟩, o1, o2, o3, o4⟩ := (unhide HS7).fin rfl
      exact bodyPost_ret (v := .agg #[.int .i64 5, .int .i64 (1 + v2), .slice fa fs.length fc, .slice da ds.length dc]) (by simp [results, Tryz.results37, go_sem, q0, q1, q2, q3]) rfl ⟨_, _, _, _, fs, ds, p3 + 1 + 1, rfl, by omega, by omega, by omega, o1, o2, o3, o4⟩
  by_cases e1 : v4 = 1
  · subst e1
    go_wp2_with fail
    have HS5 := hide ((unhide HS4).alloc (.cells #[.int .i64 0, .int .i64 6] 3))
    refine (pick_any _ blk (p3 + 1) 2 (unhide HS5).rd (by omega) (by omega) (by omega)).mono ?_
    rintro e w6 ⟨v6, rfl, v60, v61, hr6, hk6⟩
    have HS6 := hide ((unhide HS5).keep hk6 hr6)
    have d0 : w6.cell? ⟨w4.heap.size, 0, none⟩ = some (.int .i64 0) := by rw [hk6.cell (by simp) (by have := (unhide HS4).rd.lt; show w4.heap.size ≠ blk; omega), World.cell?_alloc_new]; rfl
    have d1 : w6.cell? ⟨w4.heap.size, 1, none⟩ = some (.int .i64 6) := by rw [hk6.cell (by simp) (by have := (unhide HS4).rd.lt; show w4.heap.size ≠ blk; omega), World.cell?_alloc_new]; rfl
    clear HS4 HS5 hr6 hk6
    obtain ⟨⟨c0, c1, c2, c3⟩, ⟨f0, f1, f2, f3⟩⟩ := (unhide HS6).cells
    obtain ⟨⟨r0, r1, r2, r3⟩, ⟨s0, s1, s2, s3⟩⟩ := (unhide HS6).cellsR
    have hRP := (unhide HS6).ne
    have hPR := Ne.symm hRP
    have hv6 : v6 = 0 ∨ v6 = 1 := by omega
    rcases hv6 with rfl | rfl
    · have HS7 := hide ((unhide HS6).set1 0)
      go_wp2
      obtain ⟨⟨q0, q1, q2, q3⟩, o1, o2, o3, o4⟩ := (unhide HS7).fin rfl
      exact bodyPost_ret (v := .agg #[.int .i64 (1 + v1), .int .i64 0, .slice fa fs.length fc, .slice da ds.length dc]) (by simp [results, Tryz.results37, go_sem, q0, q1, q2, q3]) rfl ⟨_, _, _, _, fs, ds, p3 + 1 + 1, rfl, by omega, by omega, by omega, o1, o2, o3, o4⟩
    · have HS7 := hide ((unhide HS6).set1 6)
      go_wp2
      obtain ⟨⟨q0, q1, q2, q3⟩, o1, o2, o3, o4⟩ := (unhide HS7).fin rfl
      exact bodyPost_ret (v := .agg #[.int .i64 (1 + v1), .int .i64 6, .slice fa fs.length fc, .slice da ds.length dc]) (by simp [results, Tryz.results37, go_sem, q0, q1, q2, q3]) rfl ⟨_, _, _, _, fs, ds, p3 + 1 + 1, rfl, by omega, by omega, by omega, o1, o2, o3, o4⟩
  by_cases e2 : v4 = 2
  · subst e2
    obtain ⟨⟨c0, c1, c2, c3⟩, ⟨f0, f1, f2, f3⟩⟩ := (unhide HS4).cells
    clear c0 c1 c3 f0 f1 f2 f3
    go_wp2_with fail
    go_region_law (first
      | (refine step_append_lies _ (by rfl) _ _ _ (by rfl) w.heap.size 132 i0 _ 2 16 Tryz.underlying39 hi0 hz0 hz1 hz2 rfl (by omega) (.slice fa fs.length fc) fs.length (flat fs) (by rfl) (by exact ((((unhide HS4).drew.keep hk6 hr6).keep hk7 hr7).alloc _).hf)
          ⟨w7.heap.size, 0, none⟩ 1 1 [.int .i64 v6, .int .i64 v7] (by rfl) (by rfl) (World.news_of_block (cs := #[.int .i64 v6, .int .i64 v7]) (t := 132) (fr := (0, 0)) (heap_alloc_new w7 _)) (by simp [Value.oneCell'])
          (by omega) (by unfold maxLen; omega) (by omega) (by have := (((unhide HS4).drew.keep hk6 hr6).keep hk7 hr7).kp.size; simp; omega) (w7.heap.size + 1) (by simp) ?_; intro gg cap w8 hown1 hgrow hat hlt; have c8 := (hgrow.cell_far ⟨Pb, 2, none⟩ (heap_lt ((((unhide HS4).drew.keep hk6 hr6).keep hk7 hr7).alloc _).hP) (Ne.symm hne2)).trans ((((unhide HS4).drew.keep hk6 hr6).keep hk7 hr7).alloc _).cells.1.2.2.1; have f8 := (hgrow.frozen_far ⟨Pb, 2, none⟩ (heap_lt ((((unhide HS4).drew.keep hk6 hr6).keep hk7 hr7).alloc _).hP) (Ne.symm hne2)).trans ((((unhide HS4).drew.keep hk6 hr6).keep hk7 hr7).alloc _).cells.2.2.2.1)
      | (go_simp; go_at_call_of 38 (Value.int IntKind.i64 7); refine (pick_any _ blk (p3 + 1) 7 (by exact (unhide HS4).drew.rd) (by omega) (by omega) (by omega)).mono ?_; rintro e w6 ⟨v6, rfl, v60, v61, hr6, hk6⟩; have c6 := ((unhide HS4).drew.keep hk6 hr6).cells.1.2.2.1; dsimp only)
      | (go_simp; go_at_call_of 38 (Value.int IntKind.i64 12); refine (pick_any _ blk (p3 + 1 + 1) 12 (by exact hr6) (by omega) (by omega) (by omega)).mono ?_; rintro e w7 ⟨v7, rfl, v70, v71, hr7, hk7⟩; have c7 := (((unhide HS4).drew.keep hk6 hr6).keep hk7 hr7).cells.1.2.2.1; have c7a := fun o => ((((unhide HS4).drew.keep hk6 hr6).keep hk7 hr7).alloc o).cells.1.2.2.1; dsimp only))
    all_goals
      have HS8 := hide (St.app2 ((((unhide HS4).drew.keep hk6 hr6).keep hk7 hr7).alloc _) hgrow hown1)
      generalize w8.setCell _ _ = w9 at *
      clear hgrow hown1 c8 f8 hat hlt hr6 hk6 hr7 hk7 HS4 c6 c7 c7a c2
      obtain ⟨⟨c0, c1, c2, c3⟩, ⟨f0, f1, f2, f3⟩⟩ := (unhide HS8).cells
      obtain ⟨⟨r0, r1, r2, r3⟩, ⟨s0, s1, s2, s3⟩⟩ := (unhide HS8).cellsR
      clear f0 f1 f2 f3
      go_wp2
      obtain ⟨⟨q0, q1, q2, q3⟩, o1, o2, o3, o4⟩ := (unhide HS8).fin rfl
      exact bodyPost_ret (v := .agg #[.int .i64 (1 + v1), .int .i64 (1 + v2), .slice (some ⟨gg, 0, none⟩) (fs.length + 1) cap, .slice da ds.length dc]) (by simp [results, Tryz.results37, go_sem, q0, q1, q2, q3]) rfl ⟨_, _, _, _, fs ++ [(v6, v7)], ds, p3 + 1 + 1 + 1, rfl, by rw [List.length_append]; simp only [List.length_cons, List.length_nil]; omega, by omega, by omega, o1, o2, o3, o4⟩
  by_cases e3 : v4 = 3
  · subst e3
    obtain ⟨⟨c0, c1, c2, c3⟩, ⟨f0, f1, f2, f3⟩⟩ := (unhide HS4).cells
    clear c0 c1 c2 f0 f1 f2 f3
    go_wp2_with fail
    go_region_law (first
      | (refine step_append_lies _ (by rfl) _ _ _ (by rfl) w.heap.size 134 i1 _ 2 16 Tryz.underlying40 hj0 hy0 hy1 hy2 rfl (by omega) (.slice da ds.length dc) ds.length (flat ds) (by rfl) (by exact ((((unhide HS4).drew.keep hk6 hr6).keep hk7 hr7).alloc _).hd)
          ⟨w7.heap.size, 0, none⟩ 1 1 [.int .i64 v6, .int .i64 v7] (by rfl) (by rfl) (World.news_of_block (cs := #[.int .i64 v6, .int .i64 v7]) (t := 134) (fr := (0, 0)) (heap_alloc_new w7 _)) (by simp [Value.oneCell'])
          (by omega) (by unfold maxLen; omega) (by omega) (by have := (((unhide HS4).drew.keep hk6 hr6).keep hk7 hr7).kp.size; simp; omega) (w7.heap.size + 1) (by simp) ?_; intro gg cap w8 hown1 hgrow hat hlt; have c8 := (hgrow.cell_far ⟨Pb, 3, none⟩ (heap_lt ((((unhide HS4).drew.keep hk6 hr6).keep hk7 hr7).alloc _).hP) (Ne.symm hne3)).trans ((((unhide HS4).drew.keep hk6 hr6).keep hk7 hr7).alloc _).cells.1.2.2.2; have f8 := (hgrow.frozen_far ⟨Pb, 3, none⟩ (heap_lt ((((unhide HS4).drew.keep hk6 hr6).keep hk7 hr7).alloc _).hP) (Ne.symm hne3)).trans ((((unhide HS4).drew.keep hk6 hr6).keep hk7 hr7).alloc _).cells.2.2.2.2)
      | (go_simp; go_at_call_of 38 (Value.int IntKind.i64 6); refine (pick_any _ blk (p3 + 1) 6 (by exact (unhide HS4).drew.rd) (by omega) (by omega) (by omega)).mono ?_; rintro e w6 ⟨v6, rfl, v60, v61, hr6, hk6⟩; have c6 := ((unhide HS4).drew.keep hk6 hr6).cells.1.2.2.2; dsimp only)
      | (go_simp; go_at_call_of 38 (Value.int IntKind.i64 7); refine (pick_any _ blk (p3 + 1 + 1) 7 (by exact hr6) (by omega) (by omega) (by omega)).mono ?_; rintro e w7 ⟨v7, rfl, v70, v71, hr7, hk7⟩; have c7 := (((unhide HS4).drew.keep hk6 hr6).keep hk7 hr7).cells.1.2.2.2; have c7a := fun o => ((((unhide HS4).drew.keep hk6 hr6).keep hk7 hr7).alloc o).cells.1.2.2.2; dsimp only))
    all_goals
      have HS8 := hide (St.app3 ((((unhide HS4).drew.keep hk6 hr6).keep hk7 hr7).alloc _) hgrow hown1)
      generalize w8.setCell _ _ = w9 at *
      clear hgrow hown1 c8 f8 hat hlt hr6 hk6 hr7 hk7 HS4 c6 c7 c7a c3
      obtain ⟨⟨c0, c1, c2, c3⟩, ⟨f0, f1, f2, f3⟩⟩ := (unhide HS8).cells
      obtain ⟨⟨r0, r1, r2, r3⟩, ⟨s0, s1, s2, s3⟩⟩ := (unhide HS8).cellsR
      clear f0 f1 f2 f3
      go_wp2
      obtain ⟨⟨q0, q1, q2, q3⟩, o1, o2, o3, o4⟩ := (unhide HS8).fin rfl
      exact bodyPost_ret (v := .agg #[.int .i64 (1 + v1), .int .i64 (1 + v2), .slice fa fs.length fc, .slice (some ⟨gg, 0, none⟩) (ds.length + 1) cap]) (by simp [results, Tryz.results37, go_sem, q0, q1, q2, q3]) rfl ⟨_, _, _, _, fs, ds ++ [(v6, v7)], p3 + 1 + 1 + 1, rfl, by omega, by rw [List.length_append]; simp only [List.length_cons, List.length_nil]; omega, by omega, o1, o2, o3, o4⟩
  obtain ⟨⟨c0, c1, c2, c3⟩, ⟨f0, f1, f2, f3⟩⟩ := (unhide HS4).cells
  obtain ⟨⟨r0, r1, r2, r3⟩, ⟨s0, s1, s2, s3⟩⟩ := (unhide HS4).cellsR
  have b0 : (v4 == 0) = false := by simp [e0]
  have b1 : (v4 == 1) = false := by simp [e1]
  have b2 : (v4 == 2) = false := by simp [e2]
  have b3 : (v4 == 3) = false := by simp [e3]
  clear f0 f1 f2 f3 e0 e1 e2 e3
  go_wp2
  obtain ⟨⟨q0, q1, q2, q3⟩, o1, o2, o3, o4⟩ := (unhide HS4).fin rfl
  exact bodyPost_ret (v := .agg #[.int .i64 (1 + v1), .int .i64 (1 + v2), .slice fa fs.length fc, .slice da ds.length dc]) (by simp [results, Tryz.results37, go_sem, q0, q1, q2, q3]) rfl ⟨_, _, _, _, fs, ds, p3 + 1, rfl, by omega, by omega, by omega, o1, o2, o3, o4⟩
end Go.Proofs.YtlnieobmhofkdaaGreatDoor
