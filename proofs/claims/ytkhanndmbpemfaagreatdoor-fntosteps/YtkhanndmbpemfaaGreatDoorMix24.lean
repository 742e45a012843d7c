import Derived.Test.YtkhanndmbpemfaaGreatDoorPkgDrawW
import Derived.Test.YtkhanndmbpemfaaGreatDoorMix31
import Derived.Deep.AppendLies
import Derived.Laws.OwnMore
/- What spec's l71Any returns: a package in rows of its own, three files and three needs at most; the reader goes on. -/
namespace Go.Proofs.YtkhanndmbpemfaaGreatDoor
open Go.RowKit

attribute [local go_sem ↓] Go.wp_at_zero Go.wp_at_succ

theorem own_baseA {w : World} {B B' : Nat} {t : TypeId} {v : Value} {n : Nat} {xs : List Value} (h : w.ownsRow B t 2 v n xs) (hB : B' ≤ B) : w.ownsRow B' t 2 v n xs := by
  refine ⟨h.1, ?_⟩
  rcases h.2 with hn | ⟨g, cap, cur, hv, hb, rest⟩
  · exact .inl hn
  · exact .inr ⟨g, cap, cur, hv, Nat.le_trans hB hb, rest⟩

/-- The state with which l71Any goes on behind l71Pkg. -/
theorem St.boxed {B : Nat} {w w3 : World} {blk p : Nat} {nm vr : Int} {fv dv : Value} {fs ds : List (Int × Int)} (hB : B ≤ w.heap.size) (hlt : blk < w.heap.size)
    (hk : Kp (w.heap.size + 1) blk (w.alloc (.cells #[.int .i64 0, .int .i64 0, .slice none 0 0, .slice none 0 0] 94)) w3) (hr : Rd B w3 blk p)
    (hf : w3.ownsRow w.heap.size 120 2 fv fs.length (flat fs)) (hd : w3.ownsRow w.heap.size 117 2 dv ds.length (flat ds)) :
    St B w blk w.heap.size w3.heap.size (w3.alloc (.cells #[.int .i64 nm, .int .i64 vr, fv, dv] 94)) nm vr fv dv fs ds p := by
  have hs := hk.size
  rw [sz1] at hs
  have hbel : Below w3.heap.size w3 (w3.alloc (.cells #[.int .i64 nm, .int .i64 vr, fv, dv] 94)) := (Below.refl _ _).alloc (Nat.le_refl _) _
  have hk0 : Kp w.heap.size blk w w3 := (Kp.of_below ((Below.refl _ _).alloc (Nat.le_refl _) _)).trans hk (by omega)
  refine ⟨hr.later (by omega) hbel, hB, hlt, hk0.trans (Kp.of_below hbel) (by omega), Nat.le_refl _, by omega, by omega, ?_, at_new _ _ _ rfl, hf.alloc _, hd.alloc _⟩
  rw [at_old _ _ _ (by omega), hk.block _ (by omega) (by omega), at_new _ _ _ rfl]

theorem St.set0 {B : Nat} {W w : World} {blk R Pb : Nat} {nm vr : Int} {fv dv : Value} {fs ds : List (Int × Int)} {p : Nat} (h : St B W blk R Pb w nm vr fv dv fs ds p) (x : Int) : St B W blk R Pb (w.setCell ⟨Pb, 0, none⟩ (.int .i64 x)) x vr fv dv fs ds p := by
  have hlt := h.lt
  have lP := h.lP
  have lB := h.lB
  have far : ∀ k, k ≠ Pb → (w.setCell ⟨Pb, 0, none⟩ (.int .i64 x)).heap[k]? = w.heap[k]? := fun k hk => Below.heap_setCell _ _ _ _ hk
  refine ⟨h.rd.keep (fun k hk _ => far k (by omega)) (far blk (by omega)), h.lB, h.lt, ⟨h.kp.os, h.kp.tape, h.kp.output, by simp only [World.setCell, Array.size_modify]; exact h.kp.size, fun k hk hne => by rw [far k (by omega)]; exact h.kp.block k hk hne⟩, h.lR, h.lP, h.ne, by rw [far R h.ne]; exact h.hR, by rw [heap_set h.hP]; rfl, ?_, ?_⟩
  · exact own_keep h.hf (fun k _ e _ hk => far k (fun e2 => h.row2 (by rw [e, e2])))
  · exact own_keep h.hd (fun k _ e _ hk => far k (fun e2 => h.row3 (by rw [e, e2])))
theorem St.set1 {B : Nat} {W w : World} {blk R Pb : Nat} {nm vr : Int} {fv dv : Value} {fs ds : List (Int × Int)} {p : Nat} (h : St B W blk R Pb w nm vr fv dv fs ds p) (x : Int) : St B W blk R Pb (w.setCell ⟨Pb, 1, none⟩ (.int .i64 x)) nm x fv dv fs ds p := by
  have hlt := h.lt
  have lP := h.lP
  have lB := h.lB
  have far : ∀ k, k ≠ Pb → (w.setCell ⟨Pb, 1, none⟩ (.int .i64 x)).heap[k]? = w.heap[k]? := fun k hk => Below.heap_setCell _ _ _ _ hk
  refine ⟨h.rd.keep (fun k hk _ => far k (by omega)) (far blk (by omega)), h.lB, h.lt, ⟨h.kp.os, h.kp.tape, h.kp.output, by simp only [World.setCell, Array.size_modify]; exact h.kp.size, fun k hk hne => by rw [far k (by omega)]; exact h.kp.block k hk hne⟩, h.lR, h.lP, h.ne, by rw [far R h.ne]; exact h.hR, by rw [heap_set h.hP]; rfl, ?_, ?_⟩
  · exact own_keep h.hf (fun k _ e _ hk => far k (fun e2 => h.row2 (by rw [e, e2])))
  · exact own_keep h.hd (fun k _ e _ hk => far k (fun e2 => h.row3 (by rw [e, e2])))

set_option maxHeartbeats 4000000 in
set_option maxRecDepth 100000 in
theorem l71Any_any {B : Nat} (w : World) (blk p : Nat) (h : Rd B w blk p) (hB : B ≤ w.heap.size) (hp : p ≤ 800000000) :
    Calls Tryz.prog 107 #[.pointer (some ⟨blk, 0, none⟩)] w fun e w' => ∃ nm vr fv dv fs ds p', e = .returned (.agg #[.int .i64 nm, .int .i64 vr, fv, dv]) ∧ fs.length ≤ 3 ∧ ds.length ≤ 3 ∧ p' ≤ p + 60 ∧ w'.ownsRow w.heap.size 120 2 fv fs.length (flat fs) ∧ w'.ownsRow w.heap.size 117 2 dv ds.length (flat ds) ∧ Rd B w' blk p' ∧ Kp w.heap.size blk w w' := by
  obtain ⟨i0, hi0, hz0, hz1, hz2⟩ := info_parts infoFile
  obtain ⟨i1, hj0, hy0, hy1, hy2⟩ := info_parts infoDep
  have hlt := h.lt
  have hr0 := h.later hB ((Below.refl _ _).alloc (Nat.le_refl _) (.cells #[.int .i64 0, .int .i64 0, .slice none 0 0, .slice none 0 0] 94))
  have HR0 : Hid (Rd _ _ _ _) := hr0
  clear hr0 h
  go_enter Tryz.func107, Tryz.ntmps107
  go_wp2_with fail
  refine (pick_any _ blk p 4 (unhide HR0) (by omega) (by omega) (by omega)).mono ?_
  rintro e w1 ⟨v1, rfl, v10, v11, hr1, hk1⟩
  have HR1 : Hid (Rd _ _ _ _) := hr1
  have HK1 : Hid (Kp _ _ _ _) := hk1.mono (Nat.le_of_eq (sz1 _ _).symm)
  clear hr1 hk1 HR0
  go_wp2_with fail
  refine (pick_any _ blk (p + 1) 3 (unhide HR1) (by omega) (by omega) (by omega)).mono ?_
  rintro e w2 ⟨v2, rfl, v20, v21, hr2, hk2⟩
  have HR2 : Hid (Rd _ _ _ _) := hr2
  have hz1' := (unhide HK1).size
  rw [sz1] at hz1'
  have HK2 : Hid (Kp _ _ _ _) := (unhide HK1).trans hk2 hz1'
  clear hr2 hk2 HR1 HK1 hz1'
  go_wp2_with fail
  have hz2' := (unhide HK2).size
  rw [sz1] at hz2'
  refine (l71Pkg_any _ blk (p + 1 + 1) (1 + v1) (1 + v2) (unhide HR2) (by omega) (by omega)).mono ?_
  rintro e w3 ⟨fv, dv, fs, ds, p3, rfl, fl, dl, hp3, of1, od1, hr3, hk3⟩
  have HS := hide (St.boxed (nm := 1 + v1) (vr := 1 + v2) hB hlt ((unhide HK2).trans hk3 hz2') hr3 (own_baseA of1 (by omega)) (own_baseA od1 (by omega)))
  clear HR2 HK2 of1 od1 hr3 hk3 hz2' hlt
  obtain ⟨fa, fc, rfl⟩ := own_form (unhide HS).hf
  obtain ⟨da, dc, rfl⟩ := own_form (unhide HS).hd
  go_wp2_with fail
  refine (pick_any _ blk p3 20 (unhide HS).rd (by omega) (by omega) (by omega)).mono ?_
  rintro e w4 ⟨v4, rfl, v40, v41, hr4, hk4⟩
  have HS4 := hide ((unhide HS).keep hk4 hr4)
  clear HS hr4 hk4
  generalize w3.heap.size = Pb at *
  have hne2 := (unhide HS4).row2
  have hne3 := (unhide HS4).row3
  by_cases e0 : v4 = 0
  · subst e0
    go_wp2_with fail
    have HS5 := hide ((unhide HS4).alloc (.cells #[.int .i64 0, .int .i64 5] 3))
    refine (pick_any _ blk (p3 + 1) 2 (unhide HS5).rd (by omega) (by omega) (by omega)).mono ?_
    rintro e w6 ⟨v6, rfl, v60, v61, hr6, hk6⟩
    have HS6 := hide ((unhide HS5).keep hk6 hr6)
    have d0 : w6.cell? ⟨w4.heap.size, 0, none⟩ = some (.int .i64 0) := by rw [hk6.cell (by simp) (by have := (unhide HS4).rd.lt; show w4.heap.size ≠ blk; omega), World.cell?_alloc_new]; rfl
    have d1 : w6.cell? ⟨w4.heap.size, 1, none⟩ = some (.int .i64 5) := by rw [hk6.cell (by simp) (by have := (unhide HS4).rd.lt; show w4.heap.size ≠ blk; omega), World.cell?_alloc_new]; rfl
    clear HS4 HS5 hr6 hk6
    obtain ⟨⟨c0, c1, c2, c3⟩, ⟨f0, f1, f2, f3⟩⟩ := (unhide HS6).cells
    obtain ⟨⟨r0, r1, r2, r3⟩, ⟨s0, s1, s2, s3⟩⟩ := (unhide HS6).cellsR
    have hRP := (unhide HS6).ne
    have hPR := Ne.symm hRP
    have hv6 : v6 = 0 ∨ v6 = 1 := by omega
    rcases hv6 with rfl | rfl
    · have HS7 := hide ((unhide HS6).set0 0)
      go_wp2
      obtain ⟨⟨q0, q1, q2, q3⟩, o1, o2, o3, o4⟩ := (unhide HS7).fin rfl
      exact bodyPost_ret (v := .agg #[.int .i64 0, .int .i64 (1 + v2), .slice fa fs.length fc, .slice da ds.length dc]) (by simp [results, Tryz.results107, go_sem, q0, q1, q2, q3]) rfl ⟨_, _, _, _, fs, ds, p3 + 1 + 1, rfl, by omega, by omega, by omega, o1, o2, o3, o4⟩
    · have HS7 := hide ((unhide HS6).set0 5)
      go_wp2
      obtain ⟨⟨q0, q1, q2, q3⟩, o1, o2, o3, o4⟩ := (unhide HS7).fin rfl
      exact bodyPost_ret (v := .agg #[.int .i64 5, .int .i64 (1 + v2), .slice fa fs.length fc, .slice da ds.length dc]) (by simp [results, Tryz.results107, go_sem, q0, q1, q2, q3]) rfl ⟨_, _, _, _, fs, ds, p3 + 1 + 1, rfl, by omega, by omega, by omega, o1, o2, o3, o4⟩
  by_cases e1 : v4 = 1
  · subst e1
    go_wp2_with fail
    have HS5 := hide ((unhide HS4).alloc (.cells #[.int .i64 0, .int .i64 6] 3))
    refine (pick_any _ blk (p3 + 1) 2 (unhide HS5).rd (by omega) (by omega) (by omega)).mono ?_
    rintro e w6 ⟨v6, rfl, v60, v61, hr6, hk6⟩
    have HS6 := hide ((unhide HS5).keep hk6 hr6)
    have d0 : w6.cell? ⟨w4.heap.size, 0, none⟩ = some (.int .i64 0) := by rw [hk6.cell (by simp) (by have := (unhide HS4).rd.lt; show w4.heap.size ≠ blk; omega), World.cell?_alloc_new]; rfl
    have d1 : w6.cell? ⟨w4.heap.size, 1, none⟩ = some (.int .i64 6) := by rw [hk6.cell (by simp) (by have := (unhide HS4).rd.lt; show w4.heap.size ≠ blk; omega), World.cell?_alloc_new]; rfl
    clear HS4 HS5 hr6 hk6
    obtain ⟨⟨c0, c1, c2, c3⟩, ⟨f0, f1, f2, f3⟩⟩ := (unhide HS6).cells
    obtain ⟨⟨r0, r1, r2, r3⟩, ⟨s0, s1, s2, s3⟩⟩ := (unhide HS6).cellsR
    have hRP := (unhide HS6).ne
    have hPR := Ne.symm hRP
    have hv6 : v6 = 0 ∨ v6 = 1 := by omega
    rcases hv6 with rfl | rfl
    · have HS7 := hide ((unhide HS6).set1 0)
      go_wp2
      obtain ⟨⟨q0, q1, q2, q3⟩, o1, o2, o3, o4⟩ := (unhide HS7).fin rfl
      exact bodyPost_ret (v := .agg #[.int .i64 (1 + v1), .int .i64 0, .slice fa fs.length fc, .slice da ds.length dc]) (by simp [results, Tryz.results107, go_sem, q0, q1, q2, q3]) rfl ⟨_, _, _, _, fs, ds, p3 + 1 + 1, rfl, by omega, by omega, by omega, o1, o2, o3, o4⟩
    · have HS7 := hide ((unhide HS6).set1 6)
      go_wp2
      obtain ⟨⟨q0, q1, q2, q3⟩, o1, o2, o3, o4⟩ := (unhide HS7).fin rfl
      exact bodyPost_ret (v := .agg #[.int .i64 (1 + v1), .int .i64 6, .slice fa fs.length fc, .slice da ds.length dc]) (by simp [results, Tryz.results107, go_sem, q0, q1, q2, q3]) rfl ⟨_, _, _, _, fs, ds, p3 + 1 + 1, rfl, by omega, by omega, by omega, o1, o2, o3, o4⟩
  by_cases e2 : v4 = 2
  · subst e2
    obtain ⟨⟨c0, c1, c2, c3⟩, ⟨f0, f1, f2, f3⟩⟩ := (unhide HS4).cells
    clear c0 c1 c3 f0 f1 f2 f3
    go_wp2_with fail
    go_region_law (first
      | (refine step_append_lies _ (by rfl) _ _ _ (by rfl) w.heap.size 120 i0 _ 2 16 Tryz.underlying91 hi0 hz0 hz1 hz2 rfl (by omega) (.slice fa fs.length fc) fs.length (flat fs) (by rfl) (by exact ((((unhide HS4).drew.keep hk6 hr6).keep hk7 hr7).alloc _).hf)
          ⟨w7.heap.size, 0, none⟩ 1 1 [.int .i64 v6, .int .i64 v7] (by rfl) (by rfl) (World.news_of_block (cs := #[.int .i64 v6, .int .i64 v7]) (t := 120) (fr := (0, 0)) (heap_alloc_new w7 _)) (by simp [Value.oneCell'])
          (by omega) (by unfold maxLen; omega) (by omega) (by have := (((unhide HS4).drew.keep hk6 hr6).keep hk7 hr7).kp.size; simp; omega) (w7.heap.size + 1) (by simp) ?_; intro gg cap w8 hown1 hgrow hat hlt; have c8 := (hgrow.cell_far ⟨Pb, 2, none⟩ (heap_lt ((((unhide HS4).drew.keep hk6 hr6).keep hk7 hr7).alloc _).hP) (Ne.symm hne2)).trans ((((unhide HS4).drew.keep hk6 hr6).keep hk7 hr7).alloc _).cells.1.2.2.1; have f8 := (hgrow.frozen_far ⟨Pb, 2, none⟩ (heap_lt ((((unhide HS4).drew.keep hk6 hr6).keep hk7 hr7).alloc _).hP) (Ne.symm hne2)).trans ((((unhide HS4).drew.keep hk6 hr6).keep hk7 hr7).alloc _).cells.2.2.2.1)
      | (go_simp; go_at_call_of 47 (Value.int IntKind.i64 7); refine (pick_any _ blk (p3 + 1) 7 (by exact (unhide HS4).drew.rd) (by omega) (by omega) (by omega)).mono ?_; rintro e w6 ⟨v6, rfl, v60, v61, hr6, hk6⟩; have c6 := ((unhide HS4).drew.keep hk6 hr6).cells.1.2.2.1; dsimp only)
      | (go_simp; go_at_call_of 47 (Value.int IntKind.i64 12); refine (pick_any _ blk (p3 + 1 + 1) 12 (by exact hr6) (by omega) (by omega) (by omega)).mono ?_; rintro e w7 ⟨v7, rfl, v70, v71, hr7, hk7⟩; have c7 := (((unhide HS4).drew.keep hk6 hr6).keep hk7 hr7).cells.1.2.2.1; have c7a := fun o => ((((unhide HS4).drew.keep hk6 hr6).keep hk7 hr7).alloc o).cells.1.2.2.1; dsimp only))
    all_goals
      have HS8 := hide (St.app2 ((((unhide HS4).drew.keep hk6 hr6).keep hk7 hr7).alloc _) hgrow hown1)
      generalize w8.setCell _ _ = w9 at *
      clear hgrow hown1 c8 f8 hat hlt hr6 hk6 hr7 hk7 HS4 c6 c7 c7a c2
      obtain ⟨⟨c0, c1, c2, c3⟩, ⟨f0, f1, f2, f3⟩⟩ := (unhide HS8).cells
      obtain ⟨⟨r0, r1, r2, r3⟩, ⟨s0, s1, s2, s3⟩⟩ := (unhide HS8).cellsR
      clear f0 f1 f2 f3
      go_wp2
      obtain ⟨⟨q0, q1, q2, q3⟩, o1, o2, o3, o4⟩ := (unhide HS8).fin rfl
      exact bodyPost_ret (v := .agg #[.int .i64 (1 + v1), .int .i64 (1 + v2), .slice (some ⟨gg, 0, none⟩) (fs.length + 1) cap, .slice da ds.length dc]) (by simp [results, Tryz.results107, go_sem, q0, q1, q2, q3]) rfl ⟨_, _, _, _, fs ++ [(v6, v7)], ds, p3 + 1 + 1 + 1, rfl, by rw [List.length_append]; simp only [List.length_cons, List.length_nil]; omega, by omega, by omega, o1, o2, o3, o4⟩
  by_cases e3 : v4 = 3
  · subst e3
    obtain ⟨⟨c0, c1, c2, c3⟩, ⟨f0, f1, f2, f3⟩⟩ := (unhide HS4).cells
    clear c0 c1 c2 f0 f1 f2 f3
    go_wp2_with fail
    go_region_law (first
      | (refine step_append_lies _ (by rfl) _ _ _ (by rfl) w.heap.size 117 i1 _ 2 16 Tryz.underlying92 hj0 hy0 hy1 hy2 rfl (by omega) (.slice da ds.length dc) ds.length (flat ds) (by rfl) (by exact ((((unhide HS4).drew.keep hk6 hr6).keep hk7 hr7).alloc _).hd)
          ⟨w7.heap.size, 0, none⟩ 1 1 [.int .i64 v6, .int .i64 v7] (by rfl) (by rfl) (World.news_of_block (cs := #[.int .i64 v6, .int .i64 v7]) (t := 117) (fr := (0, 0)) (heap_alloc_new w7 _)) (by simp [Value.oneCell'])
          (by omega) (by unfold maxLen; omega) (by omega) (by have := (((unhide HS4).drew.keep hk6 hr6).keep hk7 hr7).kp.size; simp; omega) (w7.heap.size + 1) (by simp) ?_; intro gg cap w8 hown1 hgrow hat hlt; have c8 := (hgrow.cell_far ⟨Pb, 3, none⟩ (heap_lt ((((unhide HS4).drew.keep hk6 hr6).keep hk7 hr7).alloc _).hP) (Ne.symm hne3)).trans ((((unhide HS4).drew.keep hk6 hr6).keep hk7 hr7).alloc _).cells.1.2.2.2; have f8 := (hgrow.frozen_far ⟨Pb, 3, none⟩ (heap_lt ((((unhide HS4).drew.keep hk6 hr6).keep hk7 hr7).alloc _).hP) (Ne.symm hne3)).trans ((((unhide HS4).drew.keep hk6 hr6).keep hk7 hr7).alloc _).cells.2.2.2.2)
      | (go_simp; go_at_call_of 47 (Value.int IntKind.i64 6); refine (pick_any _ blk (p3 + 1) 6 (by exact (unhide HS4).drew.rd) (by omega) (by omega) (by omega)).mono ?_; rintro e w6 ⟨v6, rfl, v60, v61, hr6, hk6⟩; have c6 := ((unhide HS4).drew.keep hk6 hr6).cells.1.2.2.2; dsimp only)
      | (go_simp; go_at_call_of 47 (Value.int IntKind.i64 7); refine (pick_any _ blk (p3 + 1 + 1) 7 (by exact hr6) (by omega) (by omega) (by omega)).mono ?_; rintro e w7 ⟨v7, rfl, v70, v71, hr7, hk7⟩; have c7 := (((unhide HS4).drew.keep hk6 hr6).keep hk7 hr7).cells.1.2.2.2; have c7a := fun o => ((((unhide HS4).drew.keep hk6 hr6).keep hk7 hr7).alloc o).cells.1.2.2.2; dsimp only))
    all_goals
      have HS8 := hide (St.app3 ((((unhide HS4).drew.keep hk6 hr6).keep hk7 hr7).alloc _) hgrow hown1)
      generalize w8.setCell _ _ = w9 at *
      clear hgrow hown1 c8 f8 hat hlt hr6 hk6 hr7 hk7 HS4 c6 c7 c7a c3
      obtain ⟨⟨c0, c1, c2, c3⟩, ⟨f0, f1, f2, f3⟩⟩ := (unhide HS8).cells
      obtain ⟨⟨r0, r1, r2, r3⟩, ⟨s0, s1, s2, s3⟩⟩ := (unhide HS8).cellsR
      clear f0 f1 f2 f3
      go_wp2
      obtain ⟨⟨q0, q1, q2, q3⟩, o1, o2, o3, o4⟩ := (unhide HS8).fin rfl
      exact bodyPost_ret (v := .agg #[.int .i64 (1 + v1), .int .i64 (1 + v2), .slice fa fs.length fc, .slice (some ⟨gg, 0, none⟩) (ds.length + 1) cap]) (by simp [results, Tryz.results107, go_sem, q0, q1, q2, q3]) rfl ⟨_, _, _, _, fs, ds ++ [(v6, v7)], p3 + 1 + 1 + 1, rfl, by omega, by rw [List.length_append]; simp only [List.length_cons, List.length_nil]; omega, by omega, o1, o2, o3, o4⟩
  obtain ⟨⟨c0, c1, c2, c3⟩, ⟨f0, f1, f2, f3⟩⟩ := (unhide HS4).cells
  obtain ⟨⟨r0, r1, r2, r3⟩, ⟨s0, s1, s2, s3⟩⟩ := (unhide HS4).cellsR
  have b0 : (v4 == 0) = false := by simp [e0]
  have b1 : (v4 == 1) = false := by simp [e1]
  have b2 : (v4 == 2) = false := by simp [e2]
  have b3 : (v4 == 3) = false := by simp [e3]
  clear f0 f1 f2 f3 e0 e1 e2 e3
  go_wp2
  obtain ⟨⟨q0, q1, q2, q3⟩, o1, o2, o3, o4⟩ := (unhide HS4).fin rfl
  exact bodyPost_ret (v := .agg #[.int .i64 (1 + v1), .int .i64 (1 + v2), .slice fa fs.length fc, .slice da ds.length dc]) (by simp [results, Tryz.results107, go_sem, q0, q1, q2, q3]) rfl ⟨_, _, _, _, fs, ds, p3 + 1, rfl, by omega, by omega, by omega, o1, o2, o3, o4⟩
end Go.Proofs.YtkhanndmbpemfaaGreatDoor

/- The state of a function that draws: the reader, and what stays of boxes and rows where it goes on, where a box is written, where a row grows. -/
namespace Go.Proofs.YtkhanndmbpemfaaGreatDoor
open Go.RowKit

structure Dr (B : Nat) (W : World) (blk : Nat) (w : World) (p : Nat) : Prop where
  rd : Rd B w blk p
  lB : B ≤ W.heap.size
  lt : blk < W.heap.size
  kp : Kp W.heap.size blk W w
section
variable {B : Nat} {W w w' : World} {blk p p' X o : Nat} {u : Value}
theorem Dr.keep (h : Dr B W blk w p) (hk : Kp w.heap.size blk w w') (hr : Rd B w' blk p') : Dr B W blk w' p' := ⟨hr, h.lB, h.lt, h.kp.trans hk h.kp.size⟩
theorem Dr.later (h : Dr B W blk w p) (hb : Below w.heap.size w w') : Dr B W blk w' p := h.keep (Kp.of_below hb) (h.rd.later (Nat.le_trans h.lB h.kp.size) hb)
theorem Dr.start (h : Rd B w blk p) (hB : B ≤ w.heap.size) : Dr B w blk w p := ⟨h, hB, h.lt, Kp.refl _ _ _⟩
theorem Dr.size (h : Dr B W blk w p) : W.heap.size ≤ w.heap.size := h.kp.size
theorem Dr.set (h : Dr B W blk w p) (hX : W.heap.size ≤ X) : Dr B W blk (w.setCell ⟨X, o, none⟩ u) p := by
  have far : ∀ k, k ≠ X → (w.setCell ⟨X, o, none⟩ u).heap[k]? = w.heap[k]? := fun k hk => Below.heap_setCell _ _ _ _ hk
  have hlt := h.lt
  have hlB := h.lB
  exact ⟨h.rd.keep (fun k hk _ => far k (by omega)) (far blk (by omega)), h.lB, h.lt, ⟨h.kp.os, h.kp.tape, h.kp.output, by simp only [World.setCell, Array.size_modify]; exact h.kp.size, fun k hk hne => (far k (by omega)).trans (h.kp.block k hk hne)⟩⟩
theorem Dr.grown {sz n : Nat} {t : TypeId} {v : Value} {xs : List Value} (h : Dr B W blk w p) (ho : w.ownsRow W.heap.size t sz v n xs) (hg : w.grownBy w' v.ownBlock) : Dr B W blk w' p := by
  have hlt := h.lt
  have hlB := h.lB
  have hsz := h.kp.size
  have old : ∀ k, k < W.heap.size → w'.heap[k]? = w.heap[k]? := fun k hk => hg.block k (by omega) (fun e => by have := (own_row ho k e.symm).1; omega)
  exact ⟨h.rd.keep (fun k hk _ => old k (by omega)) (old blk hlt), h.lB, h.lt, ⟨hg.os.trans h.kp.os, hg.tape.trans h.kp.tape, hg.output.trans h.kp.output, Nat.le_trans hsz hg.size, fun k hk hne => (old k hk).trans (h.kp.block k hk hne)⟩⟩
theorem Dr.box {ob : Obj} (h : Dr B W blk w p) (hk : Kp w.heap.size blk w w') (hX : W.heap.size ≤ X) (hx : w.heap[X]? = some ob) : w'.heap[X]? = some ob := by
  have := h.lt
  rw [hk.block X (heapLt hx) (by omega)]
  exact hx
theorem Dr.row {sz n : Nat} {t : TypeId} {v : Value} {xs : List Value} (h : Dr B W blk w p) (hk : Kp w.heap.size blk w w') (ho : w.ownsRow W.heap.size t sz v n xs) : w'.ownsRow W.heap.size t sz v n xs := by
  have := h.lt
  exact own_keepS ho (fun g _ _ hb hg => hk.block g (heapLt hg) (by omega))
theorem own_base {B' sz n : Nat} {t : TypeId} {v : Value} {xs : List Value} (h : w.ownsRow B t sz v n xs) (hB : B' ≤ B) : w.ownsRow B' t sz v n xs := by
  refine ⟨h.1, ?_⟩
  rcases h.2 with hn | ⟨g, cap, cur, rfl, hb1, rest⟩
  · exact .inl hn
  · exact .inr ⟨g, cap, cur, rfl, Nat.le_trans hB hb1, rest⟩
/-- A store into one box leaves another one. -/
theorem box_set {ob : Obj} {Y : Nat} (h : w.heap[Y]? = some ob) (hne : Y ≠ X) : (w.setCell ⟨X, o, none⟩ u).heap[Y]? = some ob := by rw [Below.heap_setCell _ _ _ _ hne]; exact h
theorem kp_dr (h : Dr B W blk w p) : Kp W.heap.size blk W w := h.kp
end
end Go.Proofs.YtkhanndmbpemfaaGreatDoor

/- What spec's l71Off returns: a row of packages that is owned; the reader goes on. -/
namespace Go.Proofs.YtkhanndmbpemfaaGreatDoor
open Go.RowKit

theorem POx.base {B B' : Nat} {w : World} {v : Value} {l : List El} (h : POx B w v l) (hB : B' ≤ B) : POx B' w v l :=
  POwn.weak ⟨own_baseP h.own hB, h.el⟩ (fun _ hb => ⟨Nat.le_trans hB hb.1, hb.2⟩)
/-- One more package. -/
theorem POx.app {B : Nat} {w w2 : World} {v : Value} {l : List El} {e : El} {g cap : Nat} (h : POx B w v l) (hg : w.grownBy w2 v.ownBlock)
    (ho : w2.ownsRow B 94 4 (.slice (some ⟨g, 0, none⟩) (l.length + 1) cap) (l.length + 1) (flat4 l ++ [.int .i64 e.1.1, .int .i64 e.1.2.1, e.2.1, e.2.2]))
    (hat : v.ownBlock = some g ∨ w.heap.size ≤ g) (h1 : PrsN (fun b => B ≤ b ∧ v.ownBlock ≠ some b) w e.2.1 e.1.2.2.1) (h2 : PrsN (fun b => B ≤ b ∧ v.ownBlock ≠ some b) w e.2.2 e.1.2.2.2) :
    POx B w2 (.slice (some ⟨g, 0, none⟩) (l.length + 1) cap) (l ++ [e]) := by
  have kp : ∀ {u : Value} {p : List (Int × Int)}, PrsN (fun b => B ≤ b ∧ v.ownBlock ≠ some b) w u p → PrsN (fun b => B ≤ b ∧ (Value.slice (some ⟨g, 0, none⟩) (l.length + 1) cap).ownBlock ≠ some b) w2 u p := fun {u p} hp => by
    have hp2 := hp.bound.keep hg.size (fun k hk hN => hg.block k hk (fun e => hN.1.2 e.symm))
    refine hp2.weak (fun b hb => ⟨hb.1.1, fun e => ?_⟩)
    have e2 : g = b := Option.some.inj e
    rcases hat with ha | ha
    · exact hb.1.2 (by rw [ha, e2])
    · have := hb.2; omega
  refine ⟨by rw [flat4_snoc, List.length_append]; exact ho, fun x hx => ?_⟩
  rcases List.mem_append.1 hx with hx | hx
  · exact ⟨kp (h.el x hx).1, kp (h.el x hx).2⟩
  · rw [List.mem_singleton] at hx
    subst hx
    exact ⟨kp h1, kp h2⟩
theorem flat4_len : ∀ l : List El, (flat4 l).length = l.length * 4
  | [] => rfl
  | x :: l => by
    have := flat4_len l
    show (Value.int .i64 x.1.1 :: Value.int .i64 x.1.2.1 :: x.2.1 :: x.2.2 :: flat4 l).length = _
    simp only [List.length_cons, this]
    omega
theorem flat4_app (a b : List El) : flat4 (a ++ b) = flat4 a ++ flat4 b := by unfold flat4; rw [List.flatMap_append]
theorem flat4_put (l : List El) (i : Nat) (e : El) (hi : i < l.length) : ((((flat4 l).set (i * 4) (.int .i64 e.1.1)).set (i * 4 + 1) (.int .i64 e.1.2.1)).set (i * 4 + 2) e.2.1).set (i * 4 + 3) e.2.2 = flat4 (l.take i ++ e :: l.drop (i + 1)) := by
  have hs : l = l.take i ++ l[i] :: l.drop (i + 1) := by rw [← List.drop_eq_getElem_cons hi, List.take_append_drop]
  have hlen : (flat4 (l.take i)).length = i * 4 := by rw [flat4_len, List.length_take]; omega
  conv => lhs; rw [hs]
  rw [flat4_app, List.set_append_right _ _ (by omega), List.set_append_right _ _ (by omega), List.set_append_right _ _ (by omega), List.set_append_right _ _ (by omega), hlen, Nat.sub_self, Nat.add_sub_cancel_left, Nat.add_sub_cancel_left, Nat.add_sub_cancel_left, flat4_app]
  rfl
/-- Another package at a place. -/
theorem POx.put {B : Nat} {w : World} {l : List El} {e : El} {g cap i : Nat} (h : POx B w (.slice (some ⟨g, 0, none⟩) l.length cap) l) (hi : i < l.length)
    (h1 : PrsN (fun b => B ≤ b ∧ (Value.slice (some ⟨g, 0, none⟩) l.length cap).ownBlock ≠ some b) w e.2.1 e.1.2.2.1) (h2 : PrsN (fun b => B ≤ b ∧ (Value.slice (some ⟨g, 0, none⟩) l.length cap).ownBlock ≠ some b) w e.2.2 e.1.2.2.2) :
    POx B ((((w.setCell ⟨g, i * 4, none⟩ (.int .i64 e.1.1)).setCell ⟨g, i * 4 + 1, none⟩ (.int .i64 e.1.2.1)).setCell ⟨g, i * 4 + 2, none⟩ e.2.1).setCell ⟨g, i * 4 + 3, none⟩ e.2.2) (.slice (some ⟨g, 0, none⟩) l.length cap) (l.take i ++ e :: l.drop (i + 1)) ∧ w.grownBy ((((w.setCell ⟨g, i * 4, none⟩ (.int .i64 e.1.1)).setCell ⟨g, i * 4 + 1, none⟩ (.int .i64 e.1.2.1)).setCell ⟨g, i * 4 + 2, none⟩ e.2.1).setCell ⟨g, i * 4 + 3, none⟩ e.2.2) (some g) := by
  have s1 := h.own.stored (i * 4) (.int .i64 e.1.1)
  have s2 := s1.1.stored (i * 4 + 1) (.int .i64 e.1.2.1)
  have s3 := s2.1.stored (i * 4 + 2) e.2.1
  have s4 := s3.1.stored (i * 4 + 3) e.2.2
  have hg := s1.2.trans (s2.2.trans (s3.2.trans s4.2))
  have hlen : (l.take i ++ e :: l.drop (i + 1)).length = l.length := by rw [List.length_append, List.length_cons, List.length_take, List.length_drop]; omega
  have kp : ∀ {u : Value} {p : List (Int × Int)}, PrsN (fun b => B ≤ b ∧ (Value.slice (some ⟨g, 0, none⟩) l.length cap).ownBlock ≠ some b) w u p → PrsN (fun b => B ≤ b ∧ (Value.slice (some ⟨g, 0, none⟩) l.length cap).ownBlock ≠ some b) ((((w.setCell ⟨g, i * 4, none⟩ (.int .i64 e.1.1)).setCell ⟨g, i * 4 + 1, none⟩ (.int .i64 e.1.2.1)).setCell ⟨g, i * 4 + 2, none⟩ e.2.1).setCell ⟨g, i * 4 + 3, none⟩ e.2.2) u p := fun {u p} hp => hp.keep hg.size (fun k hk hN => hg.block k hk (fun e => hN.2 e.symm))
  refine ⟨⟨?_, fun x hx => ?_⟩, hg⟩
  · rw [hlen, ← flat4_put l i e hi]
    exact s4.1
  · rcases List.mem_append.1 hx with hx | hx
    · have := h.el x (List.mem_of_mem_take hx)
      exact ⟨kp this.1, kp this.2⟩
    · rcases List.mem_cons.1 hx with rfl | hx
      · exact ⟨kp h1, kp h2⟩
      · have := h.el x (List.mem_of_mem_drop hx)
        exact ⟨kp this.1, kp this.2⟩

set_option maxHeartbeats 4000000 in
set_option maxRecDepth 100000 in
theorem l71Off_any {B : Nat} (w : World) (blk p : Nat) (h : Rd B w blk p) (hB : B ≤ w.heap.size) (hp : p ≤ 700000000) :
    Calls Tryz.prog 81 #[.pointer (some ⟨blk, 0, none⟩)] w fun e w' => ∃ v els p', e = .returned v ∧ POx w.heap.size w' v els ∧ els.length ≤ 8 ∧ p' ≤ p + 600 ∧ Rd B w' blk p' ∧ Kp w.heap.size blk w w' := by
  obtain ⟨i0, hI0, hz0, hz1, hz2⟩ := info_parts infoPkg
  have hlt := h.lt
  have H := hide h
  clear h
  go_enter Tryz.func81, Tryz.ntmps81
  go_wp2_with fail
  refine (l71Pkgs_own _ blk p (unhide H) hB (by omega)).mono ?_
  rintro e w1 ⟨v, els, p1, rfl, ho, hl, hp1, hr1, hk1⟩
  obtain ⟨va, vc, hv⟩ := own_formS ho.own
  subst hv
  have HO1 := hide ho
  have HR1 := hide hr1
  have HK1 := hide hk1
  have hs1 := hk1.size
  clear ho hr1 hk1 H
  go_wp2_with fail
  refine (pick_any _ blk p1 20 (unhide HR1) (by omega) (by omega) (by omega)).mono ?_
  rintro e w2 ⟨v2, rfl, v20, v21, hr2, hk2⟩
  have HO2 := hide ((unhide HO1).kp hk2 hlt)
  have HK2 := hide ((unhide HK1).trans hk2 (unhide HK1).size)
  have HR2 := hide hr2
  have hs2 := (unhide HK2).size
  clear HO1 HR1 HK1 hr2 hk2
  by_cases h0 : v2 = 0
  · subst h0
    go_wp2_with fail
    refine (l71Any_any _ blk (p1 + 1) (unhide HR2) (by omega) (by omega)).mono ?_
    rintro e w3 ⟨nm, vr, fv, dv, fs, ds, p3, rfl, hf2, hd2, hp3, of3, od3, hr3, hk3⟩
    have hN : ∀ b, w2.heap.size ≤ b → (w.heap.size ≤ b ∧ (Value.slice va els.length vc).ownBlock ≠ some b) := fun b hb => ⟨by omega, fun e => by
      obtain ⟨c, hc⟩ := (own_row (unhide HO2).own b e).2
      have := heapLt hc
      omega⟩
    have hf3 := PrsN.own of3 (by omega) hN
    have hd3 := PrsN.own od3 (by omega) hN
    obtain ⟨fa, fc, hfv⟩ := hf3.slice
    obtain ⟨da, dc, hdv⟩ := hd3.slice
    subst hfv hdv
    have HO3 := (unhide HO2).kp hk3 hlt
    have HK3 := hide ((unhide HK2).trans hk3 (unhide HK2).size)
    have b4 := below1 w3 (.cells #[.int .i64 nm, .int .i64 vr, .slice fa fs.length fc, .slice da ds.length dc] 94)
    have HO4 := hide (HO3.later b4)
    have HF4 := hide (And.intro (hf3.later b4) (hd3.later b4))
    have HR4 := hide (hr3.later (by have := (unhide HK3).size; omega) b4)
    have HK4 := hide ((unhide HK3).trans (Kp.of_below (blk := blk) b4) (unhide HK3).size)
    have HZ4 := hide (sz1 w3 (.cells #[.int .i64 nm, .int .i64 vr, .slice fa fs.length fc, .slice da ds.length dc] 94))
    have hs3 := (unhide HK3).size
    clear HO2 HO3 HK2 HK3 HR2 of3 od3 hf3 hd3 hr3 hk3 b4 hN
    go_wp2_with (at_builtin; refine wpList_append_lies _ rfl _ _ _ rfl w.heap.size 94 i0 _ 4 64 Tryz.underlying29 hI0 hz0 hz1 hz2 rfl (by omega) (.slice va els.length vc) els.length (flat4 els) rfl (unhide HO4).own ⟨w3.heap.size, 0, none⟩ 1 1 [.int .i64 nm, .int .i64 vr, .slice fa fs.length fc, .slice da ds.length dc] rfl rfl (World.news_of_block (cs := #[.int .i64 nm, .int .i64 vr, .slice fa fs.length fc, .slice da ds.length dc]) (t := 94) (fr := (0, 0)) (heap_alloc_new _ _)) (by simp [Value.oneCell']) (by omega) (by unfold maxLen; omega) (by omega) (by have := unhide HZ4; omega) (w3.heap.size + 1) (by rw [sz1]) ?_; intro gg gcap w5 hown hgrow hat hlt5)
    have D4 : Dr B w blk (w3.alloc (.cells #[.int .i64 nm, .int .i64 vr, .slice fa fs.length fc, .slice da ds.length dc] 94)) p3 := ⟨unhide HR4, hB, hlt, unhide HK4⟩
    have D5 := D4.grown (unhide HO4).own hgrow
    have hP5 := POx.app (unhide HO4) (e := ((nm, vr, fs, ds), .slice fa fs.length fc, .slice da ds.length dc)) hgrow hown (hat.imp id (fun e => by rw [unhide HZ4]; omega)) (unhide HF4).1 (unhide HF4).2
    have hl5 : (els ++ [((nm, vr, fs, ds), Value.slice fa fs.length fc, Value.slice da ds.length dc)]).length ≤ 8 := by rw [List.length_append]; simp only [List.length_cons, List.length_nil]; omega
    go_ret
    exact ⟨_, _, p3, rfl, hP5, hl5, by omega, D5.rd, D5.kp⟩
  have h0' : (v2 == 0) = false := by simpa using h0
  by_cases h1 : v2 = 1
  · subst h1
    by_cases hz : els.length = 0
    · have hz' : ¬ (0 : Int) < (els.length : Int) := by omega
      have HZ := hide hz
      clear hz
      go_wp2
      go_ret
      exact ⟨_, els, _, rfl, unhide HO2, by omega, by omega, unhide HR2, unhide HK2⟩
    have hz' : (0 : Int) < (els.length : Int) := by omega
    go_wp2_with fail
    refine (pick_any _ blk (p1 + 1) els.length (unhide HR2) (by omega) (by omega) (by omega)).mono ?_
    rintro e w3 ⟨v3, rfl, v30, v31, hr3, hk3⟩
    have HO3 := hide ((unhide HO2).kp hk3 hlt)
    have HK3 := hide ((unhide HK2).trans hk3 (unhide HK2).size)
    have HR3 := hide hr3
    have hs3 := (unhide HK3).size
    clear HO2 HR2 HK2 hr3 hk3
    go_wp2_with fail
    refine (l71Any_any _ blk (p1 + 1 + 1) (unhide HR3) (by omega) (by omega)).mono ?_
    rintro e w4 ⟨nm, vr, fv, dv, fs, ds, p4, rfl, hf2, hd2, hp4, of4, od4, hr4, hk4⟩
    have hN : ∀ b, w3.heap.size ≤ b → (w.heap.size ≤ b ∧ (Value.slice va els.length vc).ownBlock ≠ some b) := fun b hb => ⟨by omega, fun e => by
      obtain ⟨c, hc⟩ := (own_row (unhide HO3).own b e).2
      have := heapLt hc
      omega⟩
    have hf4 := PrsN.own of4 (by omega) hN
    have hd4 := PrsN.own od4 (by omega) hN
    obtain ⟨fa, fc, hfv⟩ := hf4.slice
    obtain ⟨da, dc, hdv⟩ := hd4.slice
    subst hfv hdv
    have hO4 := (unhide HO3).kp hk4 hlt
    obtain ⟨i, rfl⟩ : ∃ i : Nat, v3 = (i : Int) := ⟨v3.toNat, by omega⟩
    have hi : i < els.length := by omega
    obtain ⟨gb, cp, e1, _, hgl⟩ := hO4.own.form (by omega)
    injection e1 with e1 _ e3
    subst e1 e3
    have D4 : Dr B w blk w4 p4 := ⟨hr4, hB, hlt, (unhide HK3).trans hk4 (unhide HK3).size⟩
    have hput := POx.put hO4 (e := ((nm, vr, fs, ds), .slice fa fs.length fc, .slice da ds.length dc)) hi hf4 hd4
    have HPUT := hide (And.intro hput.1 (D4.grown hO4.own hput.2))
    have hat : ∀ j, j < 4 → ∃ y, w4.cell? ⟨gb, i * 4 + j, none⟩ = some y := fun j hj => by
      rw [hO4.own.cellAt _ (by omega)]
      exact ⟨_, List.getElem?_eq_getElem (by rw [flat4_len]; omega)⟩
    obtain ⟨y0, c0⟩ := hat 0 (by omega)
    obtain ⟨y1, c1⟩ := hat 1 (by omega)
    obtain ⟨y2, c2⟩ := hat 2 (by omega)
    obtain ⟨y3, c3⟩ := hat 3 (by omega)
    have f0 : w4.frozen? ⟨gb, i * 4, none⟩ = false := hO4.own.frozenAt _
    have f1 : w4.frozen? ⟨gb, i * 4 + 1, none⟩ = false := hO4.own.frozenAt _
    have f2 : w4.frozen? ⟨gb, i * 4 + 2, none⟩ = false := hO4.own.frozenAt _
    have f3 : w4.frozen? ⟨gb, i * 4 + 3, none⟩ = false := hO4.own.frozenAt _
    rw [Nat.add_zero] at c0
    have hl4 : (els.take i ++ ((nm, vr, fs, ds), Value.slice fa fs.length fc, Value.slice da ds.length dc) :: els.drop (i + 1)).length ≤ 8 := by rw [List.length_append, List.length_cons, List.length_take, List.length_drop]; omega
    have hi0 : (0 : Int) ≤ (i : Int) := by omega
    have hi1 : (i : Int) < (els.length : Int) := by omega
    clear hput hat hO4 D4 hf4 hd4 of4 od4 hr4 hk4 hN HO3 HK3 HR3 hgl
    go_wp2
    go_ret
    exact ⟨_, _, p4, rfl, (unhide HPUT).1, hl4, by omega, (unhide HPUT).2.rd, (unhide HPUT).2.kp⟩
  · have h1' : (v2 == 1) = false := by simpa using h1
    go_wp2
    go_ret
    exact ⟨_, els, _, rfl, unhide HO2, by omega, by omega, unhide HR2, unhide HK2⟩
end Go.Proofs.YtkhanndmbpemfaaGreatDoor
