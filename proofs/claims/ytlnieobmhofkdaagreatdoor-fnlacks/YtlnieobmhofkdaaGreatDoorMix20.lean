import Derived.Test.YtlnieobmhofkdaaGreatDoorMix19
import Derived.Test.YtlnieobmhofkdaaGreatDoorIndexOfW
import Derived.Test.YtlnieobmhofkdaaGreatDoorMix3
import Derived.Test.YtlnieobmhofkdaaGreatDoorMix10
import Derived.Laws.MakeOwn
import Derived.Maps.AppendAt
import Derived.Deep.RegionLaw
/- What spec's l71Index returns: an index, its row of metas made since; the reader goes on. -/
namespace Go.Proofs.YtlnieobmhofkdaaGreatDoor
open Go.RowKit

attribute [local go_sem ↓] Go.wp_at_zero Go.wp_at_succ

theorem Ix.ofD_len {num til : Int} {l : List Ix.Pg} (hl : l.length ≤ 8) : (Ix.ofD num til l).2.2.length ≤ 8 := by
  unfold Ix.ofD
  split
  · show (l.map Ix.metaP).length ≤ 8; rw [List.length_map]; exact hl
  · exact Nat.zero_le _
theorem Ix.ofD_num {num til : Int} {l : List Ix.Pg} (h0 : 0 ≤ num) (h1 : num ≤ 100) (t0 : 0 ≤ til) (t1 : til ≤ 100) : 0 ≤ (Ix.ofD num til l).1 ∧ (Ix.ofD num til l).1 ≤ 100 ∧ 0 ≤ (Ix.ofD num til l).2.1 ∧ (Ix.ofD num til l).2.1 ≤ 100 := by
  unfold Ix.ofD
  split
  · exact ⟨h0, h1, t0, t1⟩
  · exact ⟨by decide, by decide, by decide, by decide⟩

set_option maxHeartbeats 4000000 in
set_option maxRecDepth 100000 in
theorem l71Index_any {B : Nat} (w : World) (blk p : Nat) (h : Rd B w blk p) (hB : B ≤ w.heap.size) (hp : p ≤ 700000000) :
    Calls Tryz.prog 83 #[.pointer (some ⟨blk, 0, none⟩)] w fun e w' => ∃ (num til : Int) (mv : Value) (ms : List Ix.M) (p' : Nat), e = .returned (.agg #[.int .i64 num, .int .i64 til, mv]) ∧ -1 ≤ num ∧ num ≤ 100 ∧ -1 ≤ til ∧ til ≤ 100 ∧ ms.length ≤ 9 ∧ p' ≤ p + 500 ∧ Dr B w blk w' p' ∧ w'.ownsRow w.heap.size 55 3 mv ms.length (flat3 ms) := by
  obtain ⟨i0, hI0, hz0, hz1, hz2⟩ := info_parts infoMeta
  have hlt := h.lt
  have hR0 := heap_alloc_new w (.cells #[.int .i64 0, .int .i64 0, .slice none 0 0] 28)
  have HD0 := hide ((Dr.start h hB).later (below1 w (.cells #[.int .i64 0, .int .i64 0, .slice none 0 0] 28)))
  have HR0 := hide hR0
  clear h hR0
  go_enter Tryz.func83, Tryz.ntmps83
  go_wp2_with fail
  refine (pick_any _ blk p 6 (unhide HD0).rd (by omega) (by omega) (by omega)).mono ?_
  generalize w.alloc _ = W0 at *
  rintro e w1 ⟨v1, rfl, v10, v11, hr1, hk1⟩
  have HR1 := hide ((unhide HD0).box hk1 (Nat.le_refl _) (unhide HR0))
  have HD1 := hide ((unhide HD0).keep hk1 hr1)
  clear hr1 hk1 HR0 HD0
  have e1 : IntKind.i64.wrap (1 + v1) = 1 + v1 := wrap_small v10 (by omega)
  go_wp2_with fail
  refine (pick_any _ blk (p + 1) 12 (unhide HD1).rd (by omega) (by omega) (by omega)).mono ?_
  rintro e w2 ⟨v2, rfl, v20, v21, hr2, hk2⟩
  have HR2 := hide ((unhide HD1).box hk2 (Nat.le_refl _) (unhide HR1))
  have HD2 := hide ((unhide HD1).keep hk2 hr2)
  have hs2 := (unhide HD2).size
  clear hr2 hk2 HR1 HD1
  go_wp2_with fail
  refine (l71Pkgs_any _ blk (p + 1 + 1) (unhide HD2).rd (by omega) (by omega)).mono ?_
  rintro e w3 ⟨pv, l, q3, rfl, hpk, hl7, hq3, hr3, hk3⟩
  have HP3 := hide hpk
  have HR3 := hide ((unhide HD2).box hk3 (Nat.le_refl _) (unhide HR2))
  have HD3 := hide ((unhide HD2).keep hk3 hr3)
  have hs3 := (unhide HD3).size
  clear hr3 hk3 HR2 HD2 hpk
  go_wp2_with fail
  refine (indexOf_any _ (1 + v1) v2 pv l (unhide HP3)).mono ?_
  rintro e w4 ⟨mv, rfl, ho4, hb4⟩
  have hms := Ix.ofD_len (num := 1 + v1) (til := v2) (l := l) (by omega)
  obtain ⟨n0, n1, t0, t1⟩ := Ix.ofD_num (num := 1 + v1) (til := v2) (l := l) (by omega) (by omega) v20 (by omega)
  have HR4 := hide ((hb4.block _ (heapLt (unhide HR3))).trans (unhide HR3))
  have HD4 := hide ((unhide HD3).later hb4)
  have HO4 := hide (own_base ho4 hs3)
  obtain ⟨ma, mc, hmv⟩ := own_formS ho4
  generalize (Ix.ofD (1 + v1) v2 l).1 = num at *
  generalize (Ix.ofD (1 + v1) v2 l).2.1 = til at *
  generalize (Ix.ofD (1 + v1) v2 l).2.2 = ms at *
  generalize Ix.ofOk (1 + v1) v2 l = ok at *
  subst hmv
  have hs4 := (unhide HD4).size
  have HI5 : Hid (Is B w blk (w4.alloc (.cells #[.int .i64 num, .int .i64 til, .slice ma ms.length mc] 28)) q3 w.heap.size w4.heap.size num til (.slice ma ms.length mc) ms) :=
    ⟨(unhide HD4).later (below1 _ _), heap_alloc_new _ _, ((below1 _ _).block _ (heapLt (unhide HR4))).trans (unhide HR4), hs4, Nat.le_refl _, by have := heapLt (unhide HR4); omega, own_later (unhide HO4) (below1 _ _)⟩
  have hX := heapLt (unhide HR4)
  clear ho4 hb4 HP3 HD3 HR3 HD4 HR4 HO4
  go_wp2_with fail
  refine (pick_any _ blk q3 16 (unhide HI5).dr.rd (by omega) (by omega) (by omega)).mono ?_
  generalize w4.heap.size = X at *
  generalize w4.alloc _ = W5 at *
  rintro e w6 ⟨v6, rfl, v60, v61, hr6, hk6⟩
  have HI6 := hide ((unhide HI5).keep hk6 hr6)
  clear hr6 hk6 HI5
  obtain ⟨⟨x0, x1, x2⟩, ⟨f0, f1, f2⟩⟩ := (unhide HI6).cells
  obtain ⟨⟨r0, r1, r2⟩, ⟨s0, s1, s2⟩⟩ := (unhide HI6).cellsR
  by_cases h0 : v6 = 0
  · subst h0
    have HB7 := hide (below1 w6 (.cells #[.int .i64 (0), .int .i64 (30), .int .i64 (31)] 3))
    have hk7 := heap_alloc_new w6 (.cells #[.int .i64 (0), .int .i64 (30), .int .i64 (31)] 3)
    have HI7 := hide ((unhide HI6).later (unhide HB7))
    have hs6 := (unhide HI6).dr.size
    have HK7 := hide hk7
    clear x0 x1 x2 f0 f1 f2 r0 r1 r2 s0 s1 s2 hk7 HI6
    go_wp2_with fail
    refine (pick_any _ blk (q3 + 1) 3 (unhide HI7).dr.rd (by omega) (by omega) (by omega)).mono ?_
    generalize w6.alloc _ = W7 at *
    rintro e w8 ⟨v8, rfl, v80, v81, hr8, hk8⟩
    have hA := (unhide HI7).dr.box hk8 hs6 (unhide HK7)
    have HI8 := hide ((unhide HI7).keep hk8 hr8)
    have a0 := cellOf hA 0
    have a1 := cellOf hA 1
    have a2 := cellOf hA 2
    clear hr8 hk8 HI7 HK7 hA HB7
    obtain ⟨⟨x0, x1, x2⟩, ⟨f0, f1, f2⟩⟩ := (unhide HI8).cells
    obtain ⟨⟨r0, r1, r2⟩, ⟨s0, s1, s2⟩⟩ := (unhide HI8).cellsR
    have v8c : v8 = 0 ∨ v8 = 1 ∨ v8 = 2 := by omega
    have hXne : X ≠ w.heap.size := by omega
    rcases v8c with rfl | rfl | rfl
    · go_wp2
      obtain ⟨⟨q0, q1, q2⟩, hd, ho⟩ := ((unhide HI8).setNum (0)).fin rfl
      exact bodyPost_ret (v := .agg #[.int .i64 (0), .int .i64 (til), .slice ma ms.length mc]) (by simp [results, Tryz.results83, go_sem, q0, q1, q2]) rfl ⟨_, _, _, ms, q3 + 1 + 1, rfl, by omega, by omega, by omega, by omega, by omega, by omega, hd, ho⟩
    · go_wp2
      obtain ⟨⟨q0, q1, q2⟩, hd, ho⟩ := ((unhide HI8).setNum (30)).fin rfl
      exact bodyPost_ret (v := .agg #[.int .i64 (30), .int .i64 (til), .slice ma ms.length mc]) (by simp [results, Tryz.results83, go_sem, q0, q1, q2]) rfl ⟨_, _, _, ms, q3 + 1 + 1, rfl, by omega, by omega, by omega, by omega, by omega, by omega, hd, ho⟩
    · go_wp2
      obtain ⟨⟨q0, q1, q2⟩, hd, ho⟩ := ((unhide HI8).setNum (31)).fin rfl
      exact bodyPost_ret (v := .agg #[.int .i64 (31), .int .i64 (til), .slice ma ms.length mc]) (by simp [results, Tryz.results83, go_sem, q0, q1, q2]) rfl ⟨_, _, _, ms, q3 + 1 + 1, rfl, by omega, by omega, by omega, by omega, by omega, by omega, hd, ho⟩
  have h0' : (v6 == 0) = false := by simpa using h0
  by_cases h1 : v6 = 1
  · subst h1
    have HB7 := hide (below1 w6 (.cells #[.int .i64 (-1), .int .i64 (60), .int .i64 (61)] 3))
    have hk7 := heap_alloc_new w6 (.cells #[.int .i64 (-1), .int .i64 (60), .int .i64 (61)] 3)
    have HI7 := hide ((unhide HI6).later (unhide HB7))
    have hs6 := (unhide HI6).dr.size
    have HK7 := hide hk7
    clear x0 x1 x2 f0 f1 f2 r0 r1 r2 s0 s1 s2 hk7 HI6
    go_wp2_with fail
    refine (pick_any _ blk (q3 + 1) 3 (unhide HI7).dr.rd (by omega) (by omega) (by omega)).mono ?_
    generalize w6.alloc _ = W7 at *
    rintro e w8 ⟨v8, rfl, v80, v81, hr8, hk8⟩
    have hA := (unhide HI7).dr.box hk8 hs6 (unhide HK7)
    have HI8 := hide ((unhide HI7).keep hk8 hr8)
    have a0 := cellOf hA 0
    have a1 := cellOf hA 1
    have a2 := cellOf hA 2
    clear hr8 hk8 HI7 HK7 hA HB7
    obtain ⟨⟨x0, x1, x2⟩, ⟨f0, f1, f2⟩⟩ := (unhide HI8).cells
    obtain ⟨⟨r0, r1, r2⟩, ⟨s0, s1, s2⟩⟩ := (unhide HI8).cellsR
    have v8c : v8 = 0 ∨ v8 = 1 ∨ v8 = 2 := by omega
    have hXne : X ≠ w.heap.size := by omega
    rcases v8c with rfl | rfl | rfl
    · go_wp2
      obtain ⟨⟨q0, q1, q2⟩, hd, ho⟩ := ((unhide HI8).setTil (-1)).fin rfl
      exact bodyPost_ret (v := .agg #[.int .i64 (num), .int .i64 (-1), .slice ma ms.length mc]) (by simp [results, Tryz.results83, go_sem, q0, q1, q2]) rfl ⟨_, _, _, ms, q3 + 1 + 1, rfl, by omega, by omega, by omega, by omega, by omega, by omega, hd, ho⟩
    · go_wp2
      obtain ⟨⟨q0, q1, q2⟩, hd, ho⟩ := ((unhide HI8).setTil (60)).fin rfl
      exact bodyPost_ret (v := .agg #[.int .i64 (num), .int .i64 (60), .slice ma ms.length mc]) (by simp [results, Tryz.results83, go_sem, q0, q1, q2]) rfl ⟨_, _, _, ms, q3 + 1 + 1, rfl, by omega, by omega, by omega, by omega, by omega, by omega, hd, ho⟩
    · go_wp2
      obtain ⟨⟨q0, q1, q2⟩, hd, ho⟩ := ((unhide HI8).setTil (61)).fin rfl
      exact bodyPost_ret (v := .agg #[.int .i64 (num), .int .i64 (61), .slice ma ms.length mc]) (by simp [results, Tryz.results83, go_sem, q0, q1, q2]) rfl ⟨_, _, _, ms, q3 + 1 + 1, rfl, by omega, by omega, by omega, by omega, by omega, by omega, hd, ho⟩
  have h1' : (v6 == 1) = false := by simpa using h1
  by_cases h2 : v6 = 2
  · subst h2
    have hms9 : ms.length ≤ 8 := hms
    clear f0 f1 f2 r0 r1 r2 s0 s1 s2 x0 x1
    go_wp2_with fail
    refine wl_region (S := fun w' => w'.cell? ⟨X, 2, none⟩ = some (.slice ma ms.length mc)) (s := 14) (by kernel_rfl) x2 (fun hHeld => ?_)
    refine wl_take (i := 0) (d := some 36) rfl rfl (by kernel_rfl) (by kernel_rfl) (by kernel_rfl) (by kernel_rfl) (by kernel_rfl) (fun _ _ _ h => h) (by rfl) (v := ?_) ?_ (by assumption) ?_
    rotate_left
    · (intro w hSw; (try dsimp only at hSw); go_simp <;> with_reducible rfl)
    simp only [Act.put, List.setIfInBounds_toArray, List.set_cons_zero, List.set_cons_succ]
    refine wl_take (i := 1) (d := some 37) rfl rfl (by kernel_rfl) (by kernel_rfl) (by kernel_rfl) (by kernel_rfl) (by kernel_rfl) (fun _ _ _ h => h) (by rfl) (v := ?_) ?_ (by assumption) ?_
    rotate_left
    · (intro w hSw; (try dsimp only at hSw); go_simp <;> with_reducible rfl)
    simp only [Act.put, List.setIfInBounds_toArray, List.set_cons_zero, List.set_cons_succ]
    refine wl_take (i := 2) (d := some 38) rfl rfl (by kernel_rfl) (by kernel_rfl) (by kernel_rfl) (by kernel_rfl) (by kernel_rfl) (fun _ _ _ h => h) (by rfl) (fun w _ => run_move rfl rfl w) (by assumption) ?_
    simp only [Act.put, List.setIfInBounds_toArray, List.set_cons_zero, List.set_cons_succ, List.getElem_toArray, List.getElem_cons_zero]
    refine wl_take (i := 5) (d := some 41) rfl rfl (by kernel_rfl) (by kernel_rfl) (by kernel_rfl) (by kernel_rfl) (by kernel_rfl) (fun _ _ _ h => h) (by rfl) (fun w _ => run_move rfl rfl w) (by assumption) ?_
    simp only [Act.put, List.setIfInBounds_toArray, List.set_cons_zero, List.set_cons_succ, List.getElem_toArray, List.getElem_cons_zero]
    refine wl_take (i := 8) (d := some 44) rfl rfl (by kernel_rfl) (by kernel_rfl) (by kernel_rfl) (by kernel_rfl) (by kernel_rfl) (fun _ _ _ h => h) (by rfl) (fun w _ => run_move rfl rfl w) (by assumption) ?_
    simp only [Act.put, List.setIfInBounds_toArray, List.set_cons_zero, List.set_cons_succ, List.getElem_toArray, List.getElem_cons_zero]
    refine wl_one (i := 3) (by kernel_rfl) rfl (by rfl) (fun K hK => ?_)
    go_simp
    have HI6d := hide ((unhide HI6).later (below_drew w6))
    clear HI6 x2 hHeld
    refine (pick_any _ blk (q3 + 1) 4 (by exact (unhide HI6d).dr.rd) (by omega) (by omega) (by omega)).mono ?_
    rintro e w7 ⟨v7, rfl, v70, v71, hr7, hk7⟩
    have HI7 := hide ((unhide HI6d).keep hk7 hr7)
    have hH7 := (unhide HI7).cells.1.2.2
    have e7 : IntKind.i64.wrap (1 + v7) = 1 + v7 := wrap_small v70 (by omega)
    clear hr7 hk7 HI6d
    go_wp2_with fail
    refine hK.out _ _ (fun _ => (by assumption)) ?_
    clear hK K
    try simp only [Act.put, List.setIfInBounds_toArray, List.set_cons_zero, List.set_cons_succ]
    refine wl_take (i := 4) (d := some 40) rfl rfl (by kernel_rfl) (by kernel_rfl) (by kernel_rfl) (by kernel_rfl) (by kernel_rfl) (fun _ _ _ h => h) (by rfl) (v := ?_) ?_ (by assumption) ?_
    rotate_left
    · (intro w hSw; (try dsimp only at hSw); go_simp <;> with_reducible rfl)
    simp only [Act.put, List.setIfInBounds_toArray, List.set_cons_zero, List.set_cons_succ]
    refine wl_one (i := 6) (by kernel_rfl) rfl (by rfl) (fun K hK => ?_)
    go_simp
    refine (pick_any _ blk (q3 + 1 + 1) 4 (by exact (unhide HI7).dr.rd) (by omega) (by omega) (by omega)).mono ?_
    rintro e w8 ⟨v8, rfl, v80, v81, hr8, hk8⟩
    have HI8 := hide ((unhide HI7).keep hk8 hr8)
    have hH8 := (unhide HI8).cells.1.2.2
    have e8 : IntKind.i64.wrap (1 + v8) = 1 + v8 := wrap_small v80 (by omega)
    clear hr8 hk8 HI7 hH7
    go_wp2_with fail
    refine hK.out _ _ (fun _ => (by assumption)) ?_
    clear hK K
    try simp only [Act.put, List.setIfInBounds_toArray, List.set_cons_zero, List.set_cons_succ]
    refine wl_take (i := 7) (d := some 43) rfl rfl (by kernel_rfl) (by kernel_rfl) (by kernel_rfl) (by kernel_rfl) (by kernel_rfl) (fun _ _ _ h => h) (by rfl) (v := ?_) ?_ (by assumption) ?_
    rotate_left
    · (intro w hSw; (try dsimp only at hSw); go_simp <;> with_reducible rfl)
    simp only [Act.put, List.setIfInBounds_toArray, List.set_cons_zero, List.set_cons_succ]
    refine wl_one (i := 9) (by kernel_rfl) rfl (by rfl) (fun K hK => ?_)
    go_simp
    refine (pick_any _ blk (q3 + 1 + 1 + 1) 9973 (by exact (unhide HI8).dr.rd) (by omega) (by omega) (by omega)).mono ?_
    rintro e w9 ⟨v9, rfl, v90, v91, hr9, hk9⟩
    have HI9 := hide ((unhide HI8).keep hk9 hr9)
    have hH9 := (unhide HI9).cells.1.2.2
    clear hr9 hk9 HI8 hH8
    go_wp2_with fail
    refine hK.out _ _ (fun _ => (by assumption)) ?_
    clear hK K
    try simp only [Act.put, List.setIfInBounds_toArray, List.set_cons_zero, List.set_cons_succ]
    refine wl_take (i := 10) (d := some 46) rfl rfl (by kernel_rfl) (by kernel_rfl) (by kernel_rfl) (by kernel_rfl) (by kernel_rfl) (fun _ _ _ h => h) (by rfl) (v := ?_) ?_ (by assumption) ?_
    rotate_left
    · (intro w hSw; (try dsimp only at hSw); go_simp <;> with_reducible rfl)
    simp only [Act.put, List.setIfInBounds_toArray, List.set_cons_zero, List.set_cons_succ]
    refine wl_one (i := 11) (by kernel_rfl) rfl (by rfl) (fun K hK => ?_)
    go_simp
    have HI10 := hide ((unhide HI9).later (below1 w9 (.cells #[.int .i64 (1 + v7), .int .i64 (1 + v8), .int .i64 v9] 55)))
    have hH10 := (unhide HI10).cells.1.2.2
    have hnw := World.news_of_block (cs := #[.int .i64 (1 + v7), .int .i64 (1 + v8), .int .i64 v9]) (t := 55) (fr := (0, 0)) (heap_alloc_new w9 (.cells #[.int .i64 (1 + v7), .int .i64 (1 + v8), .int .i64 v9] 55))
    clear hH9 HI9
    refine hK.out _ _ (fun _ => (by assumption)) ?_
    clear hK K
    try simp only [Act.put, List.setIfInBounds_toArray, List.set_cons_zero, List.set_cons_succ]
    refine wl_one (i := 12) (by kernel_rfl) rfl (by rfl) (fun K hK => ?_)
    refine wp_append_lies _ _ _ _ (by rfl) w.heap.size 55 i0 _ 3 24 Tryz.underlying26 hI0 hz0 hz1 hz2 rfl (by omega) (.slice ma ms.length mc) ms.length (flat3 ms) (by rfl) (unhide HI10).own
      ⟨w9.heap.size, 0, none⟩ 1 1 [.int .i64 (1 + v7), .int .i64 (1 + v8), .int .i64 v9] (by rfl) (by rfl) hnw (by simp [Value.oneCell']) (by omega) (by unfold maxLen; omega) (by omega) (unhide HI10).dr.size (w9.heap.size + 1) (by simp) ?_
    intro gg gcap w11 hown hgrow hat hlt11
    have hX11 := (grown_other (unhide HI10).own hgrow (unhide HI10).hX (by decide)).trans (unhide HI10).hX
    have hH11 := cellOf hX11 2
    have fX := frozenOf hX11 2
    have HY := hide (Is.app (x := (1 + v7, 1 + v8, v9)) (unhide HI10) hgrow hown)
    have hlm : (ms ++ [(1 + v7, 1 + v8, v9)]).length ≤ 9 := by rw [List.length_append]; simp only [List.length_cons, List.length_nil]; omega
    clear hH10 HI10 hgrow hown hat hnw hX11
    change K (Act.put _ (some 48) _) _
    refine hK.out _ _ (fun _ => (by assumption)) ?_
    clear hK K
    try simp only [Act.put, List.setIfInBounds_toArray, List.set_cons_zero, List.set_cons_succ]
    refine wl_take (i := 13) (d := some 49) rfl rfl (by kernel_rfl) (by kernel_rfl) (by kernel_rfl) (by kernel_rfl) (by kernel_rfl) (fun _ _ _ h => h) (by rfl) (v := ?_) ?_ (by assumption) ?_
    rotate_left
    · (intro w hSw; (try dsimp only at hSw); go_simp <;> with_reducible rfl)
    simp only [Act.put, List.setIfInBounds_toArray, List.set_cons_zero, List.set_cons_succ]
    refine wl_one (i := 14) (by kernel_rfl) rfl (by rfl) (fun K hK => ?_)
    go_simp
    generalize w11.setCell _ _ = w12 at *
    refine hK.out _ _ (fun h => absurd rfl h) ?_
    clear hK K
    refine wl_done (by kernel_rfl) ?_
    clear hH11 fX
    obtain ⟨⟨x0, x1, x2⟩, ⟨f0, f1, f2⟩⟩ := (unhide HY).cells
    obtain ⟨⟨r0, r1, r2⟩, ⟨s0, s1, s2⟩⟩ := (unhide HY).cellsR
    go_wp2
    obtain ⟨⟨q0, q1, q2⟩, hd, ho⟩ := (unhide HY).fin rfl
    exact bodyPost_ret (v := .agg #[.int .i64 num, .int .i64 til, .slice (some ⟨gg, 0, none⟩) (ms.length + 1) gcap]) (by simp [results, Tryz.results83, go_sem, q0, q1, q2]) rfl ⟨_, _, _, _, _, rfl, by omega, by omega, by omega, by omega, hlm, by omega, hd, ho⟩
  have h2' : (v6 == 2) = false := by simpa using h2
  clear h0 h1 h2
  go_wp2
  obtain ⟨⟨q0, q1, q2⟩, hd, ho⟩ := (unhide HI6).fin rfl
  exact bodyPost_ret (v := .agg #[.int .i64 num, .int .i64 til, .slice ma ms.length mc]) (by simp [results, Tryz.results83, go_sem, q0, q1, q2]) rfl ⟨num, til, _, ms, q3 + 1, rfl, by omega, n1, by omega, t1, by omega, by omega, hd, ho⟩
end Go.Proofs.YtlnieobmhofkdaaGreatDoor

/- What spec's l71Keys returns: a row of its own of seven small numbers at most; the reader goes on. -/
namespace Go.Proofs.YtlnieobmhofkdaaGreatDoor
open Go.RowKit

/-- A row of numbers of one's own. -/
def OwnI (B : Nat) (w : World) (v : Value) (l : List Int) : Prop := w.ownsRow B 3 1 v l.length (l.map (Value.int .i64))

theorem OwnI.form {B : Nat} {w : World} {v : Value} {l : List Int} (h : OwnI B w v l) : ∃ a cap, v = .slice a l.length cap := by
  rcases h.2 with ⟨hv, hn⟩ | ⟨g, cap, cur, hv, _⟩
  · exact ⟨none, 0, by rw [hv, hn]⟩
  · exact ⟨_, cap, hv⟩
theorem OwnI.ins {B : Nat} {w : World} {v : Value} {l : List Int} (h : OwnI B w v l) (hl : l.length ≤ 1000000) : Ins w v l := by
  rcases h.2 with ⟨hv, hn⟩ | ⟨g, cap, cur, hv, hb, hg, hc, hm, hs, ht⟩
  · exact ⟨none, 0, by rw [hv, hn], by omega, fun hp => by omega⟩
  · refine ⟨some ⟨g, 0, none⟩, cap, hv, by omega, fun _ => ⟨g, 0, rfl, heapLt hg, fun i hi => ?_⟩⟩
    rw [Nat.zero_add, cellOf hg]
    have hu : (l.map (Value.int .i64))[i]? = some (.int .i64 (Ky.nth l i)) := by rw [List.getElem?_map, List.getElem?_eq_getElem hi, Ky.nth_get l i hi]; rfl
    rw [← ht, List.getElem?_take] at hu
    split at hu
    · simpa using hu
    · cases hu
theorem OwnI.keep {B : Nat} {w w' : World} {v : Value} {l : List Int} (h : OwnI B w v l) (hb : ∀ g cur, v.ownBlock = some g → B ≤ g → w.heap[g]? = some (.cells cur 3 (0, 0)) → w'.heap[g]? = w.heap[g]?) : OwnI B w' v l := by
  refine ⟨h.1, ?_⟩
  rcases h.2 with hn | ⟨g, cap, cur, rfl, hb1, hgg, rest⟩
  · exact .inl hn
  · exact .inr ⟨g, cap, cur, rfl, hb1, by rw [hb g cur rfl hb1 hgg]; exact hgg, rest⟩
theorem OwnI.later {B : Nat} {w w' : World} {v : Value} {l : List Int} (h : OwnI B w v l) (hb : Below w.heap.size w w') : OwnI B w' v l := h.keep (fun g _ _ _ hg => hb.block g (heapLt hg))
theorem OwnI.empty (w : World) : OwnI w.heap.size (w.alloc (.cells #[] 3)) (.slice (some ⟨w.heap.size, 0, none⟩) 0 0) [] :=
  ⟨rfl, .inr ⟨w.heap.size, 0, #[], rfl, Nat.le_refl _, heap_alloc_new w _, Nat.le_refl _, by unfold maxLen; omega, rfl, rfl⟩⟩
theorem OwnI.mono {B B' : Nat} {w : World} {v : Value} {l : List Int} (h : OwnI B w v l) (hB : B' ≤ B) : OwnI B' w v l := by
  refine ⟨h.1, ?_⟩
  rcases h.2 with hn | ⟨g, cap, cur, rfl, hb1, rest⟩
  · exact .inl hn
  · exact .inr ⟨g, cap, cur, rfl, Nat.le_trans hB hb1, rest⟩

/-- The state in which keys are drawn. -/
structure KSt (B : Nat) (W : World) (blk : Nat) (w : World) (v : Value) (l : List Int) (p : Nat) : Prop where
  rd : Rd B w blk p
  lB : B ≤ W.heap.size
  lt : blk < W.heap.size
  kp : Kp W.heap.size blk W w
  own : OwnI W.heap.size w v l

variable {B : Nat} {W w w' : World} {blk : Nat} {v : Value} {l : List Int} {p p' : Nat}
theorem KSt.keep (h : KSt B W blk w v l p) (hk : Kp w.heap.size blk w w') (hr : Rd B w' blk p') : KSt B W blk w' v l p' := by
  have hlt := h.lt
  exact ⟨hr, h.lB, h.lt, h.kp.trans hk h.kp.size, h.own.keep (fun g _ _ hB hg => hk.block g (heapLt hg) (by omega))⟩
theorem KSt.alloc (h : KSt B W blk w v l p) (o : Obj) : KSt B W blk (w.alloc o) v l p :=
  h.keep (Kp.of_below ((Below.refl _ _).alloc (Nat.le_refl _) o)) (h.rd.later (Nat.le_trans h.lB h.kp.size) ((Below.refl _ _).alloc (Nat.le_refl _) o))
theorem KSt.drew (h : KSt B W blk w v l p) : KSt B W blk w.drew v l p :=
  h.keep ⟨rfl, rfl, rfl, Nat.le_refl _, fun _ _ _ => rfl⟩ (h.rd.later (Nat.le_trans h.lB h.kp.size) ((Below.refl _ _).drew))
theorem KSt.app {x : Int} {v' : Value} (h : KSt B W blk w v l p) (hg : w.grownBy w' v.ownBlock) (ho : w'.ownsRow W.heap.size 3 1 v' (l.length + 1) (l.map (Value.int .i64) ++ [.int .i64 x])) : KSt B W blk w' v' (l ++ [x]) p := by
  have hlt := h.lt
  have lB := h.lB
  have row : ∀ k, v.ownBlock = some k → W.heap.size ≤ k := by
    intro k hk
    rcases h.own.2 with ⟨rfl, _⟩ | ⟨g', cap', cur, rfl, hb, hgg, _⟩
    · cases hk
    · simp only [Value.ownBlock, Option.some.injEq] at hk
      omega
  have old : ∀ k, k < W.heap.size → w'.heap[k]? = w.heap[k]? := fun k hk => hg.block k (Nat.lt_of_lt_of_le hk h.kp.size) (fun e => by
    have := row k e.symm
    omega)
  refine ⟨h.rd.keep (fun k hk _ => old k (by omega)) (old blk hlt), lB, hlt, ?_, ?_⟩
  · exact ⟨hg.os.trans h.kp.os, hg.tape.trans h.kp.tape, hg.output.trans h.kp.output, Nat.le_trans h.kp.size hg.size, fun k hk hne => (old k hk).trans (h.kp.block k hk hne)⟩
  · unfold OwnI
    rw [List.length_append, List.map_append]
    exact ho

set_option maxHeartbeats 2000000 in
set_option maxRecDepth 100000 in
theorem l71Keys_any {B : Nat} (w : World) (blk p : Nat) (h : Rd B w blk p) (hB : B ≤ w.heap.size) (hp : p ≤ 900000000) :
    Calls Tryz.prog 130 #[.pointer (some ⟨blk, 0, none⟩)] w fun e w' => ∃ v l p', e = .returned v ∧ l.length ≤ 7 ∧ (∀ x ∈ l, 0 ≤ x ∧ x ≤ 7) ∧ p' ≤ p + 8 ∧ KSt B w blk w' v l p' := by
  obtain ⟨i0, hi0, hz0, hz1, hz2⟩ := info_parts infoI
  have hst : KSt B w blk (w.alloc (.cells #[] 3)) (.slice (some ⟨w.heap.size, 0, none⟩) 0 0) [] p := ⟨h.later hB ((Below.refl _ _).alloc (Nat.le_refl _) _), hB, h.lt, Kp.of_below ((Below.refl _ _).alloc (Nat.le_refl _) _), OwnI.empty w⟩
  have HST := hide hst
  clear hst h
  go_enter Tryz.func130, Tryz.ntmps130
  go_wp2_with fail
  go_loopw [3, 4] (fun v i w' => ∃ (k : Nat) (l : List Int) (q : Nat), i = .int .i64 (k + 1) ∧ k ≤ 6 ∧ l.length ≤ k ∧ (∀ x ∈ l, 0 ≤ x ∧ x ≤ 7) ∧ q ≤ p + k ∧ KSt B w blk w' v l q) (fun _ i _ => (8 - intOf i).toNat)
  case atStart => exact ⟨0, [], p, rfl, by omega, by simp, by simp, by omega, unhide HST⟩
  case round =>
    clear HST
    obtain ⟨k, l, q, rfl, hk, hl, hx, hq, hs⟩ := hrel
    have HS := hide hs
    have HX := hide hx
    obtain ⟨va, vc, hv⟩ := hs.own.form
    subst hv
    clear hs hx
    by_cases hlt : k < 6
    · have hlt' : (k : Int) + 1 ≤ 6 := by omega
      go_wp2_with fail
      refine (pick_any _ blk q 2 (unhide HS).rd (by omega) (by omega) (by omega)).mono ?_
      rintro e w1 ⟨v1, rfl, v10, v11, hr1, hk1⟩
      have HS1 := hide ((unhide HS).keep hk1 hr1)
      clear HS hr1 hk1
      by_cases hv : v1 = 0
      · subst hv
        have hsz := (unhide HS1).kp.size
        go_wp2_with (first
          | (at_builtin; refine wpList_append_own _ rfl _ _ 23 rfl w.heap.size 3 i0 (.int .i64 0) 1 8 Tryz.underlying23 hi0 hz0 hz1 hz2 rfl (by decide) _ l.length (l.map (Value.int .i64)) rfl ((unhide HS1).alloc _).own ⟨w1.heap.size, 0, none⟩ 1 1 [.int .i64 ((k : Int) + 1)] rfl rfl (cell_one_new _ _ _) (ints_oneCell .i64 [(k : Int) + 1]) (by unfold maxLen; omega) (by omega) (by simp; omega) ?_; intro v' w2 hown' hgrow2 hnil2)
          | go_in)
        have HS2 := hide (((unhide HS1).alloc _).app hgrow2 hown')
        clear hown' hgrow2 hnil2 HS1
        go_roundw
        case rel => exact ⟨k + 1, l ++ [(k : Int) + 1], q + 1, by go_num, by omega, by rw [List.length_append]; simp only [List.length_cons, List.length_nil]; omega, fun x hx => by
          rcases List.mem_append.1 hx with h | h
          · exact unhide HX x h
          · simp only [List.mem_singleton] at h
            omega, by omega, unhide HS2⟩
        case measure => simp [intOf]; omega
      · have hvb : (v1 == 0) = false := by simp [hv]
        go_wp2
        go_roundw
        case rel => exact ⟨k + 1, l, q + 1, by go_num, by omega, by omega, unhide HX, by omega, unhide HS1⟩
        case measure => simp [intOf]; omega
    · obtain rfl : k = 6 := by omega
      go_wp2_with fail
      refine (pick_any _ blk q 16 (unhide HS).rd (by omega) (by omega) (by omega)).mono ?_
      rintro e w1 ⟨v1, rfl, v10, v11, hr1, hk1⟩
      have HS1 := hide ((unhide HS).keep hk1 hr1)
      clear HS hr1 hk1
      by_cases hv : v1 = 0
      · subst hv
        go_wp2_with fail
        refine (pick_any _ blk (q + 1) 3 ((unhide HS1).alloc _).rd (by omega) (by omega) (by omega)).mono ?_
        have n0 : (w1.alloc (.cells #[.int .i64 0, .int .i64 7, .int .i64 1] 3)).heap[w1.heap.size]? = some (.cells #[.int .i64 0, .int .i64 7, .int .i64 1] 3 (0, 0)) := heap_alloc_new _ _
        have hge := (unhide HS1).kp.size
        have hbl := (unhide HS1).lt
        have HS2 := hide ((unhide HS1).alloc (.cells #[.int .i64 0, .int .i64 7, .int .i64 1] 3))
        clear HS1
        generalize w1.alloc _ = W1 at *
        rintro e w2 ⟨v2, rfl, v20, v21, hr2, hk2⟩
        have n1 := hk2.block _ (heapLt n0) (by omega)
        rw [n0] at n1
        have HS3 := hide ((unhide HS2).keep hk2 hr2)
        have c0 : w2.cell? ⟨w1.heap.size, 0, none⟩ = _ := cellOf n1 0
        have c1 : w2.cell? ⟨w1.heap.size, 1, none⟩ = _ := cellOf n1 1
        have c2 : w2.cell? ⟨w1.heap.size, 2, none⟩ = _ := cellOf n1 2
        have hsz := (unhide HS3).kp.size
        clear HS2 hr2 hk2 n0 n1
        clear W1
        obtain ⟨x, hx0, hx7, hcase⟩ : ∃ x : Int, 0 ≤ x ∧ x ≤ 7 ∧ ((v2 = 0 ∧ x = 0) ∨ (v2 = 1 ∧ x = 7) ∨ (v2 = 2 ∧ x = 1)) := by
          have : v2 = 0 ∨ v2 = 1 ∨ v2 = 2 := by omega
          rcases this with h | h | h
          · exact ⟨0, by omega, by omega, .inl ⟨h, rfl⟩⟩
          · exact ⟨7, by omega, by omega, .inr (.inl ⟨h, rfl⟩)⟩
          · exact ⟨1, by omega, by omega, .inr (.inr ⟨h, rfl⟩)⟩
        rcases hcase with ⟨rfl, rfl⟩ | ⟨rfl, rfl⟩ | ⟨rfl, rfl⟩
        all_goals
          go_wp2_with (first
            | (at_builtin; refine wpList_append_own _ rfl _ _ 23 rfl w.heap.size 3 i0 (.int .i64 0) 1 8 Tryz.underlying23 hi0 hz0 hz1 hz2 rfl (by decide) _ l.length (l.map (Value.int .i64)) rfl ((unhide HS3).alloc _).own ⟨w2.heap.size, 0, none⟩ 1 1 [.int .i64 _] rfl rfl (cell_one_new _ _ _) (ints_oneCell .i64 [_]) (by unfold maxLen; omega) (by omega) (by simp; omega) ?_; intro v' w3 hown' hgrow3 hnil3)
            | go_in)
          have HS4 := hide (((unhide HS3).alloc _).app hgrow3 hown')
          clear hown' hgrow3 hnil3 HS3
          go_ret
          exact ⟨_, l ++ [_], q + 1 + 1, rfl, by rw [List.length_append]; simp only [List.length_cons, List.length_nil]; omega, fun x hx => by
            rcases List.mem_append.1 hx with h | h
            · exact unhide HX x h
            · simp only [List.mem_singleton] at h
              omega, by omega, unhide HS4⟩
      · have hvb : (v1 == 0) = false := by simp [hv]
        go_wp2
        go_ret
        exact ⟨_, l, q + 1, rfl, by omega, unhide HX, by omega, unhide HS1⟩
end Go.Proofs.YtlnieobmhofkdaaGreatDoor
