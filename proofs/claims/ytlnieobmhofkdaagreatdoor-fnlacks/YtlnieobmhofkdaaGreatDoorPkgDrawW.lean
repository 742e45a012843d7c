import Derived.Test.YtlnieobmhofkdaaGreatDoorMix4
import Derived.Deep.RegionLaw
/- What spec's l71Pkg and l71Any return: a package in rows of its own, two files and two needs at most (three behind l71Any); the reader goes on. -/
namespace Go.Proofs.YtlnieobmhofkdaaGreatDoor
open Go.RowKit

attribute [local go_sem ↓] Go.wp_at_zero Go.wp_at_succ
theorem wrap_small {v : Int} (h0 : 0 ≤ v) (h1 : v ≤ 1000000000) : IntKind.i64.wrap (1 + v) = 1 + v := by simp [IntKind.wrap, IntKind.bits, IntKind.signed]; omega

/-- The state with which l71Pkg begins. -/
theorem St.start {B : Nat} {w : World} {blk p : Nat} (nm vr : Int) (h : Rd B w blk p) (hB : B ≤ w.heap.size) :
    St B w blk w.heap.size (w.heap.size + 1 + 1 + 1) ((((w.alloc (.cells #[.int .i64 0, .int .i64 0, .slice none 0 0, .slice none 0 0] 42)).alloc (.cells #[] 132)).alloc (.cells #[] 134)).alloc (.cells #[.int .i64 nm, .int .i64 vr, .slice (some ⟨w.heap.size + 1, 0, none⟩) 0 0, .slice (some ⟨w.heap.size + 1 + 1, 0, none⟩) 0 0] 42)) nm vr (.slice (some ⟨w.heap.size + 1, 0, none⟩) 0 0) (.slice (some ⟨w.heap.size + 1 + 1, 0, none⟩) 0 0) [] [] p := by
  have b4 : ∀ o1 o2 o3 o4 : Obj, Below w.heap.size w ((((w.alloc o1).alloc o2).alloc o3).alloc o4) := fun o1 o2 o3 o4 =>
    ((((Below.refl _ _).alloc (Nat.le_refl _) _).alloc (by rw [sz1]; omega) _).alloc (by rw [sz1, sz1]; omega) _).alloc (by rw [sz1, sz1, sz1]; omega) _
  refine ⟨h.later hB (b4 _ _ _ _), hB, h.lt, Kp.of_below (b4 _ _ _ _), Nat.le_refl _, by omega, by omega, ?_, ?_, ⟨rfl, .inr ⟨w.heap.size + 1, 0, #[], rfl, by omega, ?_, by exact Nat.le_refl _, by unfold maxLen; omega, rfl, rfl⟩⟩, ⟨rfl, .inr ⟨w.heap.size + 1 + 1, 0, #[], rfl, by omega, ?_, by exact Nat.le_refl _, by unfold maxLen; omega, rfl, rfl⟩⟩⟩
  · rw [at_old _ _ _ (by rw [sz1, sz1, sz1]; omega), at_old _ _ _ (by rw [sz1, sz1]; omega), at_old _ _ _ (by rw [sz1]; omega), at_new _ _ _ rfl]
  · rw [at_new _ _ _ (by rw [sz1, sz1, sz1])]
  · rw [at_old _ _ _ (by rw [sz1, sz1, sz1]; omega), at_old _ _ _ (by rw [sz1, sz1]; omega), at_new _ _ _ (by rw [sz1])]
  · rw [at_old _ _ _ (by rw [sz1, sz1, sz1]; omega), at_new _ _ _ (by rw [sz1, sz1])]

namespace Pk
/-- Files that were drawn, the next one at k or behind it. -/
def fD (l : List (Int × Int)) (k : Int) : Prop := ∀ i, i < l.length → (0 ≤ fst l i ∧ fst l i ≤ 5 ∧ fst l i < k) ∧ (0 ≤ snd l i ∧ snd l i ≤ 9) ∧ (i = 0 ∨ fst l (i - 1) < fst l i)
def dD (nm : Int) (l : List (Int × Int)) (k : Int) : Prop := ∀ i, i < l.length → (1 ≤ fst l i ∧ fst l i ≤ 4 ∧ fst l i < k ∧ fst l i ≠ nm) ∧ (1 ≤ snd l i ∧ snd l i ≤ 5) ∧ (i = 0 ∨ fst l (i - 1) < fst l i)
theorem get_left {l : List (Int × Int)} {x : Int × Int} {i : Nat} (h : i < l.length) : fst (l ++ [x]) i = fst l i ∧ snd (l ++ [x]) i = snd l i := by
  unfold fst snd
  rw [List.getD_eq_getElem?_getD, List.getD_eq_getElem?_getD, List.getElem?_append_left h]
  exact ⟨rfl, rfl⟩
theorem get_last (l : List (Int × Int)) (x : Int × Int) : fst (l ++ [x]) l.length = x.1 ∧ snd (l ++ [x]) l.length = x.2 := by
  unfold fst snd
  rw [List.getD_eq_getElem?_getD, List.getElem?_append_right (Nat.le_refl _), Nat.sub_self]
  exact ⟨rfl, rfl⟩
theorem fD.nil (k : Int) : fD [] k := fun i hi => by cases hi
theorem dD.nil (nm k : Int) : dD nm [] k := fun i hi => by cases hi
theorem fD.snoc {l : List (Int × Int)} {k k' v : Int} (h : fD l k) (k0 : 0 ≤ k) (k1 : k ≤ 5) (v0 : 0 ≤ v) (v1 : v ≤ 9) (hk : k < k') : fD (l ++ [(k, v)]) k' := by
  intro i hi
  rw [List.length_append, List.length_singleton] at hi
  rcases Nat.lt_or_ge i l.length with h1 | h1
  · obtain ⟨a, b⟩ := get_left (x := (k, v)) h1
    obtain ⟨a', _⟩ := get_left (l := l) (x := (k, v)) (i := i - 1) (by omega)
    rw [a, b, a']
    obtain ⟨p, q, r⟩ := h i h1
    exact ⟨⟨p.1, p.2.1, by omega⟩, q, r⟩
  · obtain rfl : i = l.length := by omega
    obtain ⟨a, b⟩ := get_last l (k, v)
    rw [a, b]
    refine ⟨⟨k0, k1, hk⟩, ⟨v0, v1⟩, ?_⟩
    rcases Nat.eq_zero_or_pos l.length with h0 | h0
    · exact .inl h0
    · rw [(get_left (l := l) (x := (k, v)) (i := l.length - 1) (by omega)).1]
      exact .inr (h _ (by omega)).1.2.2
theorem dD.snoc {nm : Int} {l : List (Int × Int)} {k k' v : Int} (h : dD nm l k) (k0 : 1 ≤ k) (k1 : k ≤ 4) (hn : k ≠ nm) (v0 : 1 ≤ v) (v1 : v ≤ 5) (hk : k < k') : dD nm (l ++ [(k, v)]) k' := by
  intro i hi
  rw [List.length_append, List.length_singleton] at hi
  rcases Nat.lt_or_ge i l.length with h1 | h1
  · obtain ⟨a, b⟩ := get_left (x := (k, v)) h1
    obtain ⟨a', _⟩ := get_left (l := l) (x := (k, v)) (i := i - 1) (by omega)
    rw [a, b, a']
    obtain ⟨p, q, r⟩ := h i h1
    exact ⟨⟨p.1, p.2.1, by omega, p.2.2.2⟩, q, r⟩
  · obtain rfl : i = l.length := by omega
    obtain ⟨a, b⟩ := get_last l (k, v)
    rw [a, b]
    refine ⟨⟨k0, k1, hk, hn⟩, ⟨v0, v1⟩, ?_⟩
    rcases Nat.eq_zero_or_pos l.length with h0 | h0
    · exact .inl h0
    · rw [(get_left (l := l) (x := (k, v)) (i := l.length - 1) (by omega)).1]
      exact .inr (h _ (by omega)).1.2.2.1
theorem dD.up {nm : Int} {l : List (Int × Int)} {k : Int} (h : dD nm l k) : dD nm l (k + 1) := fun i hi => ⟨⟨(h i hi).1.1, (h i hi).1.2.1, by have := (h i hi).1.2.2.1; omega, (h i hi).1.2.2.2⟩, (h i hi).2⟩
theorem fD.ok {l : List (Int × Int)} {k : Int} (h : fD l k) (hl : l.length ≤ 2) : filesOk l = true := by
  unfold filesOk
  rw [decide_eq_true hl, Bool.true_and]
  refine all_good (fun i hi => ?_)
  obtain ⟨p, q, r⟩ := h i hi
  unfold fileGood
  rw [inB_true.2 ⟨p.1, p.2.1⟩, inB_true.2 q]
  simpa using r
theorem dD.ok {nm : Int} {l : List (Int × Int)} {k : Int} (h : dD nm l k) (hl : l.length ≤ 2) : depsOk nm l = true := by
  unfold depsOk
  rw [decide_eq_true hl, Bool.true_and]
  refine all_good (fun i hi => ?_)
  obtain ⟨p, q, r⟩ := h i hi
  unfold depGood
  rw [inB_true.2 ⟨p.1, p.2.1⟩, inB_true.2 q, decide_eq_false p.2.2.2]
  simpa using r
end Pk

set_option maxHeartbeats 4000000 in
set_option maxRecDepth 100000 in
theorem l71Pkg_ok {B : Nat} (w : World) (blk p : Nat) (nm vr : Int) (h : Rd B w blk p) (hB : B ≤ w.heap.size) (hp : p ≤ 900000000) :
    Calls Tryz.prog 87 #[.pointer (some ⟨blk, 0, none⟩), .int .i64 nm, .int .i64 vr] w fun e w' => ∃ fv dv fs ds p', e = .returned (.agg #[.int .i64 nm, .int .i64 vr, fv, dv]) ∧ fs.length ≤ 2 ∧ ds.length ≤ 2 ∧ (Pk.filesOk fs = true ∧ Pk.depsOk nm ds = true) ∧ p' ≤ p + 40 ∧ w'.ownsRow w.heap.size 132 2 fv fs.length (flat fs) ∧ w'.ownsRow w.heap.size 134 2 dv ds.length (flat ds) ∧ Rd B w' blk p' ∧ Kp w.heap.size blk w w' := by
  obtain ⟨i0, hi0, hz0, hz1, hz2⟩ := info_parts infoFile
  obtain ⟨i1, hj0, hy0, hy1, hy2⟩ := info_parts infoDep
  have hst := St.start nm vr h hB
  have HST := hide hst
  clear hst h
  go_enter Tryz.func87, Tryz.ntmps87
  go_wp2_with fail
  refine (pick_any _ blk p 4 (unhide HST).rd (by omega) (by omega) (by omega)).mono ?_
  rintro e w1 ⟨v1, rfl, v10, v11, hr1, hk1⟩
  have HS1 := hide ((unhide HST).keep hk1 hr1)
  clear HST hr1 hk1
  go_wp2_with fail
  refine (pick_any _ blk (p + 1) 3 (unhide HS1).rd (by omega) (by omega) (by omega)).mono ?_
  rintro e w2 ⟨v2, rfl, v20, v21, hr2, hk2⟩
  have HS2 := hide ((unhide HS1).keep hk2 hr2)
  clear HS1 hr2 hk2
  go_wp2_with fail
  go_loopw [8, 9] (fun at' n w' => ∃ (k j : Int) (fv dv : Value) (fs : List (Int × Int)) (q : Nat), at' = .int .i64 k ∧ n = .int .i64 j ∧ 0 ≤ k ∧ k ≤ 8 ∧ 0 ≤ j ∧ (fs.length : Int) + j ≤ 2 ∧ (q : Int) + 2 * j ≤ p + 6 ∧ Pk.fD fs k ∧ St B w blk w.heap.size (w.heap.size + 1 + 1 + 1) w' nm vr fv dv fs [] q) (fun _ n _ => (intOf n).toNat)
  case atStart => exact ⟨v1, v2, _, _, [], p + 1 + 1, rfl, rfl, v10, by omega, v20, by simp; omega, by omega, Pk.fD.nil _, unhide HS2⟩
  case round =>
    obtain ⟨k, j, fv, dv, fs, q, rfl, rfl, k0, k1, j0, hlen, hq, hfd, hs⟩ := hrel
    have HFDx := hide hfd
    clear hfd
    obtain ⟨⟨c0, c1, c2, c3⟩, ⟨f0, f1, f2, f3⟩⟩ := hs.cells
    have HS := hide hs
    have hne := hs.row2
    have hPlt := heap_lt hs.hP
    have hblk : w.heap.size + 1 + 1 + 1 ≠ blk := by have := hs.lt; omega
    clear hs HS2 v10 v11 v20 v21
    by_cases hgo : 0 < j ∧ k < 6
    · obtain ⟨g0, g1⟩ := hgo
      clear c0 c1 c3 f0 f1 f3
      go_wp2_with fail
      go_region_law (first
          | (refine step_append_lies _ (by rfl) _ _ _ (by rfl) w.heap.size 132 i0 _ 2 16 Tryz.underlying39 hi0 hz0 hz1 hz2 rfl (by omega) fv fs.length (flat fs) (by rfl) (by exact (((unhide HS).drew.keep hk3 hr3).alloc _).hf)
              ⟨w3.heap.size, 0, none⟩ 1 1 [.int .i64 k, .int .i64 v3] (by rfl) (by rfl) (World.news_of_block (cs := #[.int .i64 k, .int .i64 v3]) (t := 132) (fr := (0, 0)) (heap_alloc_new w3 _)) (by simp [Value.oneCell'])
              (by omega) (by unfold maxLen; omega) (by omega) (by have := ((unhide HS).drew.keep hk3 hr3).kp.size; simp; omega) (w3.heap.size + 1) (by simp) ?_; intro gg cap w4 hown1 hgrow hat hlt; have c4 := (hgrow.cell_far ⟨w.heap.size + 1 + 1 + 1, 2, none⟩ (heap_lt (((unhide HS).drew.keep hk3 hr3).alloc _).hP) (Ne.symm hne)).trans (((unhide HS).drew.keep hk3 hr3).alloc _).cells.1.2.2.1; have f4 := (hgrow.frozen_far ⟨w.heap.size + 1 + 1 + 1, 2, none⟩ (heap_lt (((unhide HS).drew.keep hk3 hr3).alloc _).hP) (Ne.symm hne)).trans (((unhide HS).drew.keep hk3 hr3).alloc _).cells.2.2.2.1)
          | (go_simp; go_at_call 38; refine (pick_any _ blk q 10 (by exact (unhide HS).drew.rd) (by omega) (by omega) (by omega)).mono ?_; rintro e w3 ⟨v3, rfl, v30, v31, hr3, hk3⟩; have c2' := ((unhide HS).drew.keep hk3 hr3).cells.1.2.2.1; have c2a := fun o => (((unhide HS).drew.keep hk3 hr3).alloc o).cells.1.2.2.1; dsimp only))
      all_goals
        have HS4 := hide (St.app2 (((unhide HS).drew.keep hk3 hr3).alloc _) hgrow hown1)
        generalize w4.setCell _ _ = w5 at *
        clear hgrow hown1 c4 f4 hat hlt hr3 hk3 HS
        go_wp2_with fail
        refine (pick_any _ blk (q + 1) 3 (unhide HS4).rd (by omega) (by omega) (by omega)).mono ?_
        rintro e w6 ⟨v6, rfl, v60, v61, hr6, hk6⟩
        have HS6 := hide ((unhide HS4).keep hk6 hr6)
        clear HS4 hr6 hk6
        go_wp2
        go_roundw
        case rel => exact ⟨k + 1 + v6, j - 1, _, _, fs ++ [(k, v3)], q + 1 + 1, by go_num, by go_num, by omega, by omega, by omega, by rw [List.length_append]; simp only [List.length_cons, List.length_nil]; omega, by omega, (unhide HFDx).snoc (by omega) (by omega) (by omega) (by omega) (by omega), unhide HS6⟩
        case measure => simp [intOf]; omega
    · have hq' : q ≤ p + 6 := by omega
      have hfl : fs.length ≤ 2 := by omega
      have hcase : j = 0 ∨ (0 < j ∧ 6 ≤ k) := by omega
      clear hgo hlen hq c0 c1 c2 c3 f0 f1 f2 f3 hne
      obtain ⟨fa, fc, rfl⟩ := own_form (unhide HS).hf
      rcases hcase with rfl | ⟨g0, g1⟩
      all_goals
        go_wp2_with fail
        go_loopw [10] (fun d w' => ∃ (k : Int) (dv : Value) (ds : List (Int × Int)) (q : Nat), d = .int .i64 k ∧ 1 ≤ k ∧ k ≤ 5 ∧ ds.length ≤ 2 ∧ (q : Int) + 2 * (5 - k) ≤ p + 14 ∧ Pk.dD nm ds k ∧ St B w blk w.heap.size (w.heap.size + 1 + 1 + 1) w' nm vr (.slice fa fs.length fc) dv fs ds q) (fun d _ => (6 - intOf d).toNat)
        case atStart => exact ⟨1, dv, [], q, rfl, by omega, by omega, by simp, by omega, Pk.dD.nil _ _, unhide HS⟩
        case round =>
          clear HS hq'
          obtain ⟨d, dv, ds, q, rfl, d0, d1, hdl, hq, hdd, hs⟩ := hrel
          have HDDx := hide hdd
          clear hdd
          obtain ⟨da, dc, rfl⟩ := own_form hs.hd
          obtain ⟨⟨c0, c1, c2, c3⟩, ⟨f0, f1, f2, f3⟩⟩ := hs.cells
          have HS := hide hs
          have hne := hs.row3
          have hPlt := heap_lt hs.hP
          clear hs
          by_cases hgo : d ≤ 4 ∧ ds.length < 2
          · obtain ⟨e0, e1⟩ := hgo
            have e1' : (ds.length : Int) < 2 := by omega
            by_cases hdn : d = nm
            · have hb : (d != nm) = false := by simp [hdn]
              have HDN := hide hdn
              clear hdn
              go_wp2
              go_roundw
              case rel => exact ⟨d + 1, _, ds, q, by go_num, by omega, by omega, hdl, by omega, (unhide HDDx).up, unhide HS⟩
              case measure => simp [intOf]; omega
            · have hb : (d != nm) = true := by simp [hdn]
              have HDN := hide hdn
              clear hdn
              go_wp2_with fail
              refine (pick_any _ blk q 6 (unhide HS).rd (by omega) (by omega) (by omega)).mono ?_
              rintro e w3 ⟨v3, rfl, v30, v31, hr3, hk3⟩
              have HS3 := hide ((unhide HS).keep hk3 hr3)
              clear HS c0 c1 c2 c3 f0 f1 f2 f3 hr3 hk3
              by_cases hv : v3 = 0
              · subst hv
                obtain ⟨⟨c0, c1, c2, c3⟩, ⟨f0, f1, f2, f3⟩⟩ := (unhide HS3).cells
                clear c0 c1 c2 f0 f1 f2
                go_wp2_with fail
                go_region_law (first
                  | (refine step_append_lies _ (by rfl) _ _ _ (by rfl) w.heap.size 134 i1 _ 2 16 Tryz.underlying40 hj0 hy0 hy1 hy2 rfl (by omega) (.slice da ds.length dc) ds.length (flat ds) (by rfl) (by exact (((unhide HS3).drew.keep hk4 hr4).alloc _).hd)
                      ⟨w4.heap.size, 0, none⟩ 1 1 [.int .i64 d, .int .i64 (1 + v4)] (by rfl) (by rfl) (World.news_of_block (cs := #[.int .i64 d, .int .i64 (1 + v4)]) (t := 134) (fr := (0, 0)) (heap_alloc_new w4 _)) (by simp [Value.oneCell'])
                      (by omega) (by unfold maxLen; omega) (by omega) (by have := ((unhide HS3).drew.keep hk4 hr4).kp.size; simp; omega) (w4.heap.size + 1) (by simp) ?_; intro gg cap w5 hown1 hgrow hat hlt; have c5 := (hgrow.cell_far ⟨w.heap.size + 1 + 1 + 1, 3, none⟩ (heap_lt (((unhide HS3).drew.keep hk4 hr4).alloc _).hP) (Ne.symm hne)).trans (((unhide HS3).drew.keep hk4 hr4).alloc _).cells.1.2.2.2; have f5 := (hgrow.frozen_far ⟨w.heap.size + 1 + 1 + 1, 3, none⟩ (heap_lt (((unhide HS3).drew.keep hk4 hr4).alloc _).hP) (Ne.symm hne)).trans (((unhide HS3).drew.keep hk4 hr4).alloc _).cells.2.2.2.2)
                  | (go_simp; go_at_call 38; refine (pick_any _ blk (q + 1) 2 (by exact (unhide HS3).drew.rd) (by omega) (by omega) (by omega)).mono ?_; rintro e w4 ⟨v4, rfl, v40, v41, hr4, hk4⟩; have c3' := ((unhide HS3).drew.keep hk4 hr4).cells.1.2.2.2; have c3a := fun o => (((unhide HS3).drew.keep hk4 hr4).alloc o).cells.1.2.2.2; have ew : IntKind.i64.wrap (1 + v4) = 1 + v4 := wrap_small v40 (by omega); dsimp only))
                all_goals
                  have HS5 := hide (St.app3 (((unhide HS3).drew.keep hk4 hr4).alloc _) hgrow hown1)
                  generalize w5.setCell _ _ = w6 at *
                  clear hgrow hown1 c5 f5 hat hlt hr4 hk4 HS3 c3 c3' c3a f3 ew
                  go_wp2
                  go_roundw
                  case rel => exact ⟨d + 1, _, ds ++ [(d, 1 + v4)], q + 1 + 1, by go_num, by omega, by omega, by rw [List.length_append]; simp only [List.length_cons, List.length_nil]; omega, by omega, (unhide HDDx).snoc (by omega) (by omega) (unhide HDN) (by omega) (by omega) (by omega), unhide HS5⟩
                  case measure => simp [intOf]; omega
              · have hvb : (v3 == 0) = false := by simp [hv]
                go_wp2
                go_roundw
                case rel => exact ⟨d + 1, _, ds, q + 1, by go_num, by omega, by omega, hdl, by omega, (unhide HDDx).up, unhide HS3⟩
                case measure => simp [intOf]; omega
          · have hcase : d = 5 ∨ (d ≤ 4 ∧ (2 : Int) ≤ (ds.length : Int)) := by omega
            obtain ⟨⟨r0, r1, r2, r3⟩, ⟨s0, s1, s2, s3⟩⟩ := (unhide HS).cellsR
            clear hgo f0 f1 f2 f3
            rcases hcase with rfl | ⟨g0, g1⟩
            all_goals
              go_wp2
              obtain ⟨⟨q0, q1, q2, q3⟩, o1, o2, o3, o4⟩ := (unhide HS).fin rfl
              exact bodyPost_ret (v := .agg #[.int .i64 nm, .int .i64 vr, .slice fa fs.length fc, .slice da ds.length dc]) (by simp [results, Tryz.results87, go_sem, q0, q1, q2, q3]) rfl ⟨_, _, fs, ds, q, rfl, hfl, hdl, ⟨(unhide HFDx).ok hfl, (unhide HDDx).ok hdl⟩, by omega, o1, o2, o3, o4⟩
theorem l71Pkg_any {B : Nat} (w : World) (blk p : Nat) (nm vr : Int) (h : Rd B w blk p) (hB : B ≤ w.heap.size) (hp : p ≤ 900000000) :
    Calls Tryz.prog 87 #[.pointer (some ⟨blk, 0, none⟩), .int .i64 nm, .int .i64 vr] w fun e w' => ∃ fv dv fs ds p', e = .returned (.agg #[.int .i64 nm, .int .i64 vr, fv, dv]) ∧ fs.length ≤ 2 ∧ ds.length ≤ 2 ∧ p' ≤ p + 40 ∧ w'.ownsRow w.heap.size 132 2 fv fs.length (flat fs) ∧ w'.ownsRow w.heap.size 134 2 dv ds.length (flat ds) ∧ Rd B w' blk p' ∧ Kp w.heap.size blk w w' :=
  (l71Pkg_ok w blk p nm vr h hB hp).mono (by
    rintro e w' ⟨fv, dv, fs, ds, p', he, h1, h2, _, h3, h4, h5, h6, h7⟩
    exact ⟨fv, dv, fs, ds, p', he, h1, h2, h3, h4, h5, h6, h7⟩)
end Go.Proofs.YtlnieobmhofkdaaGreatDoor
