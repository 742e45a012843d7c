import Derived.Test.YtkhanndmbpemfaaGreatDoorPkgDrawW
import Derived.Test.YtkhanndmbpemfaaGreatDoorWithW
import Derived.Test.YtkhanndmbpemfaaGreatDoorMix12
import Derived.Test.YtkhanndmbpemfaaGreatDoorMix15
/- What spec's l71Pkgs returns: a row of packages that can be read, seven at most, in blocks made since; the reader goes on. -/
namespace Go.Proofs.YtkhanndmbpemfaaGreatDoor
open Go.RowKit

theorem Pks.nil {N : Nat → Prop} (w : World) (a : Option Addr) (c : Nat) : Pks N w (.slice a 0 c) [] := ⟨a, c, rfl, by simp, fun h => absurd h (by simp)⟩
theorem Pks.kpR {W w w' : World} {v : Value} {l : List Ix.Pg} {blk R : Nat} (h : Pks (fun b => W.heap.size ≤ b ∧ b ≠ R) w v l) (hk : Kp w.heap.size blk w w') (hb : blk < W.heap.size) : Pks (fun b => W.heap.size ≤ b ∧ b ≠ R) w' v l :=
  h.keep hk.size (fun k hk1 hN => hk.block k hk1 (by omega))
theorem Pks.kp {W w w' : World} {v : Value} {l : List Ix.Pg} {blk : Nat} (h : Pks (fun b => W.heap.size ≤ b) w v l) (hk : Kp w.heap.size blk w w') (hb : blk < W.heap.size) : Pks (fun b => W.heap.size ≤ b) w' v l :=
  h.keep hk.size (fun k hk1 hN => hk.block k hk1 (by omega))

theorem box4i' (w : World) (a b c d : Value) (t : TypeId) : (w.alloc (.cells #[a, b, c, d] t)).heap.size = w.heap.size + 1 ∧ (w.alloc (.cells #[a, b, c, d] t)).cell? ⟨w.heap.size, 0, none⟩ = some a ∧ (w.alloc (.cells #[a, b, c, d] t)).cell? ⟨w.heap.size, 1, none⟩ = some b ∧ (w.alloc (.cells #[a, b, c, d] t)).cell? ⟨w.heap.size, 2, none⟩ = some c ∧ (w.alloc (.cells #[a, b, c, d] t)).cell? ⟨w.heap.size, 3, none⟩ = some d :=
  ⟨by simp, by rw [World.cell?_alloc_new]; rfl, by rw [World.cell?_alloc_new]; rfl, by rw [World.cell?_alloc_new]; rfl, by rw [World.cell?_alloc_new]; rfl⟩
theorem wthlen {els : List El} {l : List Ix.Pg} {n : Nat} (h : els.map (·.1) = l) (hl : l.length ≤ n) : els.length ≤ n := by rw [← List.length_map (f := fun x : El => x.1), h]; exact hl

set_option maxHeartbeats 4000000 in
set_option maxRecDepth 100000 in
theorem l71Pkgs_any {B : Nat} (w : World) (blk p : Nat) (h : Rd B w blk p) (hB : B ≤ w.heap.size) (hp : p ≤ 800000000) :
    Calls Tryz.prog 78 #[.pointer (some ⟨blk, 0, none⟩)] w fun e w' => ∃ v l p', e = .returned v ∧ Pks (fun b => w.heap.size ≤ b) w' v l ∧ l.length ≤ 7 ∧ p' ≤ p + 400 ∧ Rd B w' blk p' ∧ Kp w.heap.size blk w w' := by
  have hlt := h.lt
  have HR0 := hide (h.later hB (below1 w (.cells #[] 94)))
  have HK0 : Hid (Kp w.heap.size blk w (w.alloc (.cells #[] 94))) := Kp.of_below (below1 w _)
  have hz0 := sz1 w (.cells #[] 94)
  have HZ0 := hide hz0
  clear h hz0
  go_enter Tryz.func78, Tryz.ntmps78
  go_wp2_with fail
  refine (pick_any _ blk p 8 (unhide HR0) (by have := unhide HZ0; omega) (by omega) (by omega)).mono ?_
  generalize w.alloc _ = W0 at *
  rintro e w1 ⟨v1, rfl, v10, v11, hr1, hk1⟩
  have HR1 := hide hr1
  have HK1 : Hid (Kp w.heap.size blk w w1) := (unhide HK0).trans hk1 (unhide HK0).size
  clear hr1 hk1 HR0 HK0
  go_wp2_with fail
  go_loopw [3, 4] (fun o n w' => ∃ (l : List Ix.Pg) (j : Int) (q : Nat), n = .int .i64 j ∧ 0 ≤ j ∧ (l.length : Int) + j ≤ 7 ∧ (q : Int) + 42 * j ≤ p + 300 ∧ Pks (fun b => w.heap.size ≤ b) w' o l ∧ Rd B w' blk q ∧ Kp w.heap.size blk w w') (fun _ n _ => (intOf n).toNat)
  case atStart => exact ⟨[], v1, p + 1, rfl, v10, by simp; omega, by omega, Pks.nil _ _ _, unhide HR1, unhide HK1⟩
  case round =>
    clear HR1 HK1 HZ0
    clear W0
    obtain ⟨l, j, q, rfl, j0, hlen, hq, hpk, hr, hkp⟩ := hrel
    have HP := hide hpk
    have HR := hide hr
    have HK := hide hkp
    have hsz := hkp.size
    clear hpk hr hkp v10 v11
    obtain ⟨a, c, hv⟩ := (unhide HP).slice
    subst hv
    by_cases hgo : 0 < j
    · go_wp2_with fail
      refine (pick_any _ blk q 4 (unhide HR) (by omega) (by omega) (by omega)).mono ?_
      rintro e w2 ⟨v2, rfl, v20, v21, hr2, hk2⟩
      have HP2 := hide ((unhide HP).kp hk2 hlt)
      have HK2 := hide ((unhide HK).trans hk2 (unhide HK).size)
      have HR2 := hide hr2
      have hsz2 := (unhide HK2).size
      clear HP HR HK hr2 hk2
      have e2 : IntKind.i64.wrap (1 + v2) = 1 + v2 := wrap_small v20 (by omega)
      go_wp2_with fail
      refine (pick_any _ blk (q + 1) 3 (unhide HR2) (by omega) (by omega) (by omega)).mono ?_
      rintro e w3 ⟨v3, rfl, v30, v31, hr3, hk3⟩
      have HP3 := hide ((unhide HP2).kp hk3 hlt)
      have HK3 := hide ((unhide HK2).trans hk3 (unhide HK2).size)
      have HR3 := hide hr3
      have hsz3 := (unhide HK3).size
      clear HP2 HR2 HK2 hr3 hk3
      have e3 : IntKind.i64.wrap (1 + v3) = 1 + v3 := wrap_small v30 (by omega)
      go_wp2_with fail
      refine (l71Pkg_any _ blk (q + 1 + 1) (1 + v2) (1 + v3) (unhide HR3) (by omega) (by omega)).mono ?_
      rintro e w4 ⟨fv, dv, fs, ds, q4, rfl, hf2, hd2, hq4, of4, od4, hr4, hk4⟩
      have hN : ∀ b, w3.heap.size ≤ b → w.heap.size ≤ b := fun b hb => Nat.le_trans hsz3 hb
      have HF4 := hide (PrsN.own of4 (by omega) hN)
      have HD4 := hide (PrsN.own od4 (by omega) hN)
      have HP4 := hide ((unhide HP3).kp hk4 hlt)
      have HK4 := hide ((unhide HK3).trans hk4 (unhide HK3).size)
      have HR4 := hide hr4
      have hsz4 := (unhide HK4).size
      obtain ⟨fa, fc, hfv⟩ := (unhide HF4).slice
      obtain ⟨da, dc, hdv⟩ := (unhide HD4).slice
      subst hfv hdv
      clear HP3 HR3 HK3 of4 od4 hr4 hk4
      have HB5 := hide (below1 w4 (.cells #[.int .i64 (1 + v2), .int .i64 (1 + v3), .slice fa fs.length fc, .slice da ds.length dc] 94))
      have HP5 := hide ((unhide HP4).later (unhide HB5))
      have HF5 := hide ((unhide HF4).later (unhide HB5))
      have HD5 := hide ((unhide HD4).later (unhide HB5))
      have HR5 := hide ((unhide HR4).later (by omega) (unhide HB5))
      have HK5 := hide ((unhide HK4).trans (Kp.of_below (blk := blk) (unhide HB5)) (unhide HK4).size)
      have hsz5 := (unhide HK5).size
      obtain ⟨z5, y0, y1, y2, y3⟩ := box4i' w4 (.int .i64 (1 + v2)) (.int .i64 (1 + v3)) (.slice fa fs.length fc) (.slice da ds.length dc) 94
      have HZ5 := hide z5
      clear HP4 HF4 HD4 HR4 HK4 z5
      go_wp2_with fail
      refine (l12Find_any _ _ l (1 + v2) (1 + v3) (unhide HP5)).mono ?_
      generalize w4.alloc _ = W5 at *
      rintro e w6 ⟨rfl, r, rfl, hfind⟩
      rcases hfind with ⟨rfl, hno⟩ | ⟨r0, r1, _⟩
      · clear hno
        go_wp2_with fail
        refine (l12With_any _ _ l (1 + v2, 1 + v3, fs, ds) _ _ (unhide HP5) (unhide HF5) (unhide HD5) (by omega)).mono ?_
        rintro e w7 ⟨ov, els, rfl, hpo, hmap, hb7⟩
        have HP7 : Hid (Pks (fun b => w.heap.size ≤ b) w7 ov (Ix.wth l (1 + v2, 1 + v3, fs, ds))) := by
          have h1 := wthlen hmap (Ix.wth_len1 l (1 + v2, 1 + v3, fs, ds))
          have h2 := hpo.pks (fun b hb => Nat.le_trans hsz5 hb) (by omega)
          rw [hmap] at h2
          exact h2
        have hwl := Ix.wth_len1 l (1 + v2, 1 + v3, fs, ds)
        have HR7 := hide ((unhide HR5).later (by omega) hb7)
        have HK7 := hide ((unhide HK5).trans (Kp.of_below (blk := blk) hb7) (unhide HK5).size)
        generalize Ix.wth l (1 + v2, 1 + v3, fs, ds) = l7 at *
        clear hpo hmap hb7 HP5 HF5 HD5 HR5 HK5
        go_wp2
        go_roundw
        case rel => exact ⟨l7, j - 1, q4, by go_num, by omega, by omega, by omega, unhide HP7, unhide HR7, unhide HK7⟩
        case measure => simp [intOf]; omega
      · have r0' : ¬ r < 0 := by omega
        go_wp2
        go_roundw
        case rel => exact ⟨l, j - 1, q4, by go_num, by omega, by omega, by omega, unhide HP5, unhide HR5, unhide HK5⟩
        case measure => simp [intOf]; omega
    · obtain rfl : j = 0 := by omega
      go_wp2
      go_ret
      exact ⟨.slice a l.length c, rfl, l, unhide HP, by omega, q, by omega, unhide HR, unhide HK⟩
end Go.Proofs.YtkhanndmbpemfaaGreatDoor

/- What spec's l71Pkgs returns, said further: the row of packages is owned. -/
namespace Go.Proofs.YtkhanndmbpemfaaGreatDoor
open Go.RowKit

theorem own_baseP {w : World} {B B' sz n : Nat} {t : TypeId} {v : Value} {xs : List Value} (h : w.ownsRow B t sz v n xs) (hB : B' ≤ B) : w.ownsRow B' t sz v n xs := by
  refine ⟨h.1, ?_⟩
  rcases h.2 with hn | ⟨g, cap, cur, rfl, hb1, rest⟩
  · exact .inl hn
  · exact .inr ⟨g, cap, cur, rfl, Nat.le_trans hB hb1, rest⟩
/-- A row of packages of one's own, the packages' rows in other blocks. -/
abbrev POx (B : Nat) (w : World) (v : Value) (l : List El) : Prop := POwn (fun b => B ≤ b ∧ v.ownBlock ≠ some b) B w v l
theorem POwn.kp {W w w' : World} {v : Value} {l : List El} {blk : Nat} (h : POx W.heap.size w v l) (hk : Kp w.heap.size blk w w') (hb : blk < W.heap.size) : POx W.heap.size w' v l :=
  ⟨own_keepS h.own (fun g _ _ hg hx => hk.block g (heapLt hx) (by omega)), fun e he => ⟨(h.el e he).1.keep hk.size (fun k hk1 hN => hk.block k hk1 (by omega)), (h.el e he).2.keep hk.size (fun k hk1 hN => hk.block k hk1 (by omega))⟩⟩
theorem POwn.empty (w : World) : POx w.heap.size (w.alloc (.cells #[] 94)) (.slice (some ⟨w.heap.size, 0, none⟩) 0 0) [] :=
  ⟨⟨by simp [flat4], .inr ⟨w.heap.size, 0, #[], rfl, Nat.le_refl _, heap_alloc_new _ _, Nat.le_refl _, by unfold maxLen; omega, by simp, by simp [flat4]⟩⟩, fun e he => by cases he⟩

set_option maxHeartbeats 4000000 in
set_option maxRecDepth 100000 in
theorem l71Pkgs_ok {B : Nat} (w : World) (blk p : Nat) (h : Rd B w blk p) (hB : B ≤ w.heap.size) (hp : p ≤ 800000000) :
    Calls Tryz.prog 78 #[.pointer (some ⟨blk, 0, none⟩)] w fun e w' => ∃ v els p', e = .returned v ∧ POx w.heap.size w' v els ∧ Ix.pkgsOk (els.map (·.1)) = true ∧ els.length ≤ 7 ∧ p' ≤ p + 400 ∧ Rd B w' blk p' ∧ Kp w.heap.size blk w w' := by
  have hlt := h.lt
  have HR0 := hide (h.later hB (below1 w (.cells #[] 94)))
  have HK0 : Hid (Kp w.heap.size blk w (w.alloc (.cells #[] 94))) := Kp.of_below (below1 w _)
  have hz0 := sz1 w (.cells #[] 94)
  have HZ0 := hide hz0
  have HE0 := hide (POwn.empty w)
  clear h hz0
  go_enter Tryz.func78, Tryz.ntmps78
  go_wp2_with fail
  refine (pick_any _ blk p 8 (unhide HR0) (by have := unhide HZ0; omega) (by omega) (by omega)).mono ?_
  generalize w.alloc _ = W0 at *
  rintro e w1 ⟨v1, rfl, v10, v11, hr1, hk1⟩
  have HR1 := hide hr1
  have HE1 := hide ((unhide HE0).kp hk1 hlt)
  have HK1 : Hid (Kp w.heap.size blk w w1) := (unhide HK0).trans hk1 (unhide HK0).size
  clear hr1 hk1 HR0 HK0 HE0
  go_wp2_with fail
  go_loopw [3, 4] (fun o n w' => ∃ (els : List El) (j : Int) (q : Nat), n = .int .i64 j ∧ 0 ≤ j ∧ (els.length : Int) + j ≤ 7 ∧ (q : Int) + 42 * j ≤ p + 300 ∧ Ix.pkgsOk (els.map (·.1)) = true ∧ POx w.heap.size w' o els ∧ Rd B w' blk q ∧ Kp w.heap.size blk w w') (fun _ n _ => (intOf n).toNat)
  case atStart => exact ⟨[], v1, p + 1, rfl, v10, by simp; omega, by omega, rfl, unhide HE1, unhide HR1, unhide HK1⟩
  case round =>
    clear HR1 HK1 HZ0 HE1
    clear W0
    obtain ⟨els, j, q, rfl, j0, hlen, hq, hko, hpk, hr, hkp⟩ := hrel
    have HO := hide hpk
    have HP := hide ((hpk.weak (M := fun b => w.heap.size ≤ b) (fun b hb => hb.1)).pks (fun b hb => hb) (by omega))
    have hll : (els.map (·.1)).length = els.length := List.length_map _
    have HLL := hide hll
    obtain ⟨l, hl⟩ : ∃ l, l = els.map (·.1) := ⟨_, rfl⟩
    rw [← hl] at HP HLL hko
    have HKO := hide hko
    have HLX := hide hl
    clear hko
    have hlen2 : l.length = els.length := unhide HLL
    clear hll hl HLL
    have HLE := hide hlen2
    have hle7 : (l.length : Int) + j ≤ 7 := by omega
    clear hlen2
    have HR := hide hr
    have HK := hide hkp
    have hsz := hkp.size
    clear hpk hr hkp v10 v11
    obtain ⟨a, c, hv⟩ := (unhide HP).slice
    subst hv
    by_cases hgo : 0 < j
    · go_wp2_with fail
      refine (pick_any _ blk q 4 (unhide HR) (by omega) (by omega) (by omega)).mono ?_
      rintro e w2 ⟨v2, rfl, v20, v21, hr2, hk2⟩
      have HP2 := hide ((unhide HP).kp hk2 hlt)
      have HO2 := hide ((unhide HO).kp hk2 hlt)
      have HK2 := hide ((unhide HK).trans hk2 (unhide HK).size)
      have HR2 := hide hr2
      have hsz2 := (unhide HK2).size
      clear HP HO HR HK hr2 hk2
      have e2 : IntKind.i64.wrap (1 + v2) = 1 + v2 := wrap_small v20 (by omega)
      go_wp2_with fail
      refine (pick_any _ blk (q + 1) 3 (unhide HR2) (by omega) (by omega) (by omega)).mono ?_
      rintro e w3 ⟨v3, rfl, v30, v31, hr3, hk3⟩
      have HP3 := hide ((unhide HP2).kp hk3 hlt)
      have HO3 := hide ((unhide HO2).kp hk3 hlt)
      have HK3 := hide ((unhide HK2).trans hk3 (unhide HK2).size)
      have HR3 := hide hr3
      have hsz3 := (unhide HK3).size
      clear HP2 HO2 HR2 HK2 hr3 hk3
      have e3 : IntKind.i64.wrap (1 + v3) = 1 + v3 := wrap_small v30 (by omega)
      go_wp2_with fail
      refine (l71Pkg_ok _ blk (q + 1 + 1) (1 + v2) (1 + v3) (unhide HR3) (by omega) (by omega)).mono ?_
      rintro e w4 ⟨fv, dv, fs, ds, q4, rfl, hf2, hd2, ⟨hfo, hdo⟩, hq4, of4, od4, hr4, hk4⟩
      have HPO : Hid (Ix.pOk (1 + v2, 1 + v3, fs, ds) = true) := by
        show Pk.pkgOk (1 + v2) (1 + v3) fs ds = true
        unfold Pk.pkgOk
        rw [hfo, hdo, Pk.inB_true.2 ⟨by omega, by omega⟩, Pk.inB_true.2 ⟨by omega, by omega⟩]
        rfl
      clear hfo hdo
      have hN : ∀ b, w3.heap.size ≤ b → w.heap.size ≤ b := fun b hb => Nat.le_trans hsz3 hb
      have HF4 := hide (PrsN.own of4 (by omega) hN)
      have HD4 := hide (PrsN.own od4 (by omega) hN)
      have HP4 := hide ((unhide HP3).kp hk4 hlt)
      have HO4 := hide ((unhide HO3).kp hk4 hlt)
      have HK4 := hide ((unhide HK3).trans hk4 (unhide HK3).size)
      have HR4 := hide hr4
      have hsz4 := (unhide HK4).size
      obtain ⟨fa, fc, hfv⟩ := (unhide HF4).slice
      obtain ⟨da, dc, hdv⟩ := (unhide HD4).slice
      subst hfv hdv
      clear HP3 HO3 HR3 HK3 of4 od4 hr4 hk4
      have HB5 := hide (below1 w4 (.cells #[.int .i64 (1 + v2), .int .i64 (1 + v3), .slice fa fs.length fc, .slice da ds.length dc] 94))
      have HP5 := hide ((unhide HP4).later (unhide HB5))
      have HO5 := hide ((unhide HO4).later (unhide HB5))
      have HF5 := hide ((unhide HF4).later (unhide HB5))
      have HD5 := hide ((unhide HD4).later (unhide HB5))
      have HR5 := hide ((unhide HR4).later (by omega) (unhide HB5))
      have HK5 := hide ((unhide HK4).trans (Kp.of_below (blk := blk) (unhide HB5)) (unhide HK4).size)
      have hsz5 := (unhide HK5).size
      obtain ⟨z5, y0, y1, y2, y3⟩ := box4i' w4 (.int .i64 (1 + v2)) (.int .i64 (1 + v3)) (.slice fa fs.length fc) (.slice da ds.length dc) 94
      have HZ5 := hide z5
      clear HP4 HO4 HF4 HD4 HR4 HK4 z5
      go_wp2_with fail
      refine (l12Find_any _ _ l (1 + v2) (1 + v3) (unhide HP5)).mono ?_
      generalize w4.alloc _ = W5 at *
      rintro e w6 ⟨rfl, r, rfl, hfind⟩
      rcases hfind with ⟨rfl, hno⟩ | ⟨r0, r1, _⟩
      · clear hno
        go_wp2_with fail
        refine (l12With_any _ _ l (1 + v2, 1 + v3, fs, ds) _ _ (unhide HP5).bound (unhide HF5).bound (unhide HD5).bound (by omega)).mono ?_
        rintro e w7 ⟨ov, els7, rfl, hpo, hmap, hb7⟩
        have hwl := wthlen hmap (Ix.wth_len1 l (1 + v2, 1 + v3, fs, ds))
        have HP7 : Hid (POx w.heap.size w7 ov els7) := POwn.weak ⟨own_baseP hpo.own hsz5, hpo.el⟩ (fun b hb => ⟨hb.1, fun e => by have := (own_row hpo.own b e).1; have := hb.2; omega⟩)
        have HR7 := hide ((unhide HR5).later (by omega) hb7)
        have HK7 := hide ((unhide HK5).trans (Kp.of_below (blk := blk) hb7) (unhide HK5).size)
        have HKO7 : Hid (Ix.pkgsOk (els7.map (·.1)) = true) := by
          show Ix.pkgsOk (els7.map (·.1)) = true
          rw [hmap]
          exact Ix.wth_ok (unhide HKO) (unhide HPO)
        clear hpo hmap hb7 HP5 HO5 HF5 HD5 HR5 HK5
        obtain ⟨oa, oc, hov⟩ := own_formS (unhide HP7).own
        subst hov
        go_wp2
        go_roundw
        case rel => exact ⟨els7, j - 1, q4, by go_num, by omega, by have := unhide HLE; omega, by omega, unhide HKO7, unhide HP7, unhide HR7, unhide HK7⟩
        case measure => simp [intOf]; omega
      · have r0' : ¬ r < 0 := by omega
        go_wp2
        go_roundw
        case rel => exact ⟨els, j - 1, q4, by go_num, by omega, by omega, by omega, (by rw [← unhide HLX]; exact unhide HKO), unhide HO5, unhide HR5, unhide HK5⟩
        case measure => simp [intOf]; omega
    · obtain rfl : j = 0 := by omega
      go_wp2
      go_ret
      exact ⟨.slice a l.length c, rfl, els, unhide HO, (by rw [← unhide HLX]; exact unhide HKO), by omega, q, by omega, unhide HR, unhide HK⟩
theorem l71Pkgs_own {B : Nat} (w : World) (blk p : Nat) (h : Rd B w blk p) (hB : B ≤ w.heap.size) (hp : p ≤ 800000000) :
    Calls Tryz.prog 78 #[.pointer (some ⟨blk, 0, none⟩)] w fun e w' => ∃ v els p', e = .returned v ∧ POx w.heap.size w' v els ∧ els.length ≤ 7 ∧ p' ≤ p + 400 ∧ Rd B w' blk p' ∧ Kp w.heap.size blk w w' :=
  (l71Pkgs_ok w blk p h hB hp).mono (by
    rintro e w' ⟨v, els, p', he, h1, _, h2, h3, h4, h5⟩
    exact ⟨v, els, p', he, h1, h2, h3, h4, h5⟩)
end Go.Proofs.YtkhanndmbpemfaaGreatDoor
