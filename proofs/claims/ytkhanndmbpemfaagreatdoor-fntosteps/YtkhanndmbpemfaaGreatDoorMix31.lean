import Derived.Test.YtkhanndmbpemfaaGreatDoorPkgDrawW
import Derived.Test.YtkhanndmbpemfaaGreatDoorWithW
import Derived.Test.YtkhanndmbpemfaaGreatDoorMix12
import Derived.Test.YtkhanndmbpemfaaGreatDoorMix15
import Derived.Test.YtkhanndmbpemfaaGreatDoorMix21
import Derived.Test.YtkhanndmbpemfaaGreatDoorMix8
import Derived.Laws.OwnMore
/- What spec's l71Pkgs returns: a row of packages that can be read, seven at most, in blocks made since; the reader goes on. -/
namespace Go.Proofs.YtkhanndmbpemfaaGreatDoor
open Go.RowKit

theorem Pks.nil {N : Nat → Prop} (w : World) (a : Option Addr) (c : Nat) : Pks N w (.slice a 0 c) [] := ⟨a, c, rfl, by simp, fun h => absurd h (by simp)⟩
theorem Pks.kpR {W w w' : World} {v : Value} {l : List Ix.Pg} {blk R : Nat} (h : Pks (fun b => W.heap.size ≤ b ∧ b ≠ R) w v l) (hk : Kp w.heap.size blk w w') (hb : blk < W.heap.size) : Pks (fun b => W.heap.size ≤ b ∧ b ≠ R) w' v l :=
  h.keep hk.size (fun k hk1 hN => hk.block k hk1 (by omega))
theorem Pks.kp {W w w' : World} {v : Value} {l : List Ix.Pg} {blk : Nat} (h : Pks (fun b => W.heap.size ≤ b) w v l) (hk : Kp w.heap.size blk w w') (hb : blk < W.heap.size) : Pks (fun b => W.heap.size ≤ b) w' v l :=
  h.keep hk.size (fun k hk1 hN => hk.block k hk1 (by omega))

theorem box4i' (w : World) (a b c d : Value) (t : TypeId) : (w.alloc (.cells #[a, b, c, d] t)).heap.size = w.heap.size + 1 ∧ (w.alloc (.cells #[a, b, c, d] t)).cell? ⟨w.heap.size, 0, none⟩ = some a ∧ (w.alloc (.cells #[a, b, c, d] t)).cell? ⟨w.heap.size, 1, none⟩ = some b ∧ (w.alloc (.cells #[a, b, c, d] t)).cell? ⟨w.heap.size, 2, none⟩ = some c ∧ (w.alloc (.cells #[a, b, c, d] t)).cell? ⟨w.heap.size, 3, none⟩ = some d :=
  ⟨by simp, by rw [World.cell?_alloc_new]; rfl, by rw [World.cell?_alloc_new]; rfl, by rw [World.cell?_alloc_new]; rfl, by rw [World.cell?_alloc_new]; rfl⟩
theorem wthlen {els : List El} {l : List Ix.Pg} {n : Nat} (h : els.map (·.1) = l) (hl : l.length ≤ n) : els.length ≤ n := by rw [← List.length_map (f := fun x : El => x.1), h]; exact hl

set_option maxHeartbeats 4000000 in
set_option maxRecDepth 100000 in
theorem l71Pkgs_any {B : Nat} (w : World) (blk p : Nat) (h : Rd B w blk p) (hB : B ≤ w.heap.size) (hp : p ≤ 800000000) :
    Calls Tryz.prog 78 #[.pointer (some ⟨blk, 0, none⟩)] w fun e w' => ∃ v l p', e = .returned v ∧ Pks (fun b => w.heap.size ≤ b) w' v l ∧ l.length ≤ 7 ∧ p' ≤ p + 400 ∧ Rd B w' blk p' ∧ Kp w.heap.size blk w w' := by
  have hlt := h.lt
  have HR0 := hide (h.later hB (below1 w (.cells #[] 94)))
  have HK0 : Hid (Kp w.heap.size blk w (w.alloc (.cells #[] 94))) := Kp.of_below (below1 w _)
  have hz0 := sz1 w (.cells #[] 94)
  have HZ0 := hide hz0
  clear h hz0
  go_enter Tryz.func78, Tryz.ntmps78
  go_wp2_with fail
  refine (pick_any _ blk p 8 (unhide HR0) (by have := unhide HZ0; omega) (by omega) (by omega)).mono ?_
  generalize w.alloc _ = W0 at *
  rintro e w1 ⟨v1, rfl, v10, v11, hr1, hk1⟩
  have HR1 := hide hr1
  have HK1 : Hid (Kp w.heap.size blk w w1) := (unhide HK0).trans hk1 (unhide HK0).size
  clear hr1 hk1 HR0 HK0
  go_wp2_with fail
  go_loopw [3, 4] (fun o n w' => ∃ (l : List Ix.Pg) (j : Int) (q : Nat), n = .int .i64 j ∧ 0 ≤ j ∧ (l.length : Int) + j ≤ 7 ∧ (q : Int) + 42 * j ≤ p + 300 ∧ Pks (fun b => w.heap.size ≤ b) w' o l ∧ Rd B w' blk q ∧ Kp w.heap.size blk w w') (fun _ n _ => (intOf n).toNat)
  case atStart => exact ⟨[], v1, p + 1, rfl, v10, by simp; omega, by omega, Pks.nil _ _ _, unhide HR1, unhide HK1⟩
  case round =>
    clear HR1 HK1 HZ0
    clear W0
    obtain ⟨l, j, q, rfl, j0, hlen, hq, hpk, hr, hkp⟩ := hrel
    have HP := hide hpk
    have HR := hide hr
    have HK := hide hkp
    have hsz := hkp.size
    clear hpk hr hkp v10 v11
    obtain ⟨a, c, hv⟩ := (unhide HP).slice
    subst hv
    by_cases hgo : 0 < j
    · go_wp2_with fail
      refine (pick_any _ blk q 4 (unhide HR) (by omega) (by omega) (by omega)).mono ?_
      rintro e w2 ⟨v2, rfl, v20, v21, hr2, hk2⟩
      have HP2 := hide ((unhide HP).kp hk2 hlt)
      have HK2 := hide ((unhide HK).trans hk2 (unhide HK).size)
      have HR2 := hide hr2
      have hsz2 := (unhide HK2).size
      clear HP HR HK hr2 hk2
      have e2 : IntKind.i64.wrap (1 + v2) = 1 + v2 := wrap_small v20 (by omega)
      go_wp2_with fail
      refine (pick_any _ blk (q + 1) 3 (unhide HR2) (by omega) (by omega) (by omega)).mono ?_
      rintro e w3 ⟨v3, rfl, v30, v31, hr3, hk3⟩
      have HP3 := hide ((unhide HP2).kp hk3 hlt)
      have HK3 := hide ((unhide HK2).trans hk3 (unhide HK2).size)
      have HR3 := hide hr3
      have hsz3 := (unhide HK3).size
      clear HP2 HR2 HK2 hr3 hk3
      have e3 : IntKind.i64.wrap (1 + v3) = 1 + v3 := wrap_small v30 (by omega)
      go_wp2_with fail
      refine (l71Pkg_any _ blk (q + 1 + 1) (1 + v2) (1 + v3) (unhide HR3) (by omega) (by omega)).mono ?_
      rintro e w4 ⟨fv, dv, fs, ds, q4, rfl, hf2, hd2, hq4, of4, od4, hr4, hk4⟩
      have hN : ∀ b, w3.heap.size ≤ b → w.heap.size ≤ b := fun b hb => Nat.le_trans hsz3 hb
      have HF4 := hide (PrsN.own of4 (by omega) hN)
      have HD4 := hide (PrsN.own od4 (by omega) hN)
      have HP4 := hide ((unhide HP3).kp hk4 hlt)
      have HK4 := hide ((unhide HK3).trans hk4 (unhide HK3).size)
      have HR4 := hide hr4
      have hsz4 := (unhide HK4).size
      obtain ⟨fa, fc, hfv⟩ := (unhide HF4).slice
      obtain ⟨da, dc, hdv⟩ := (unhide HD4).slice
      subst hfv hdv
      clear HP3 HR3 HK3 of4 od4 hr4 hk4
      have HB5 := hide (below1 w4 (.cells #[.int .i64 (1 + v2), .int .i64 (1 + v3), .slice fa fs.length fc, .slice da ds.length dc] 94))
      have HP5 := hide ((unhide HP4).later (unhide HB5))
      have HF5 := hide ((unhide HF4).later (unhide HB5))
      have HD5 := hide ((unhide HD4).later (unhide HB5))
      have HR5 := hide ((unhide HR4).later (by omega) (unhide HB5))
      have HK5 := hide ((unhide HK4).trans (Kp.of_below (blk := blk) (unhide HB5)) (unhide HK4).size)
      have hsz5 := (unhide HK5).size
      obtain ⟨z5, y0, y1, y2, y3⟩ := box4i' w4 (.int .i64 (1 + v2)) (.int .i64 (1 + v3)) (.slice fa fs.length fc) (.slice da ds.length dc) 94
      have HZ5 := hide z5
      clear HP4 HF4 HD4 HR4 HK4 z5
      go_wp2_with fail
      refine (l12Find_any _ _ l (1 + v2) (1 + v3) (unhide HP5)).mono ?_
      generalize w4.alloc _ = W5 at *
      rintro e w6 ⟨rfl, r, rfl, hfind⟩
      rcases hfind with ⟨rfl, hno⟩ | ⟨r0, r1, _⟩
      · clear hno
        go_wp2_with fail
        refine (l12With_any _ _ l (1 + v2, 1 + v3, fs, ds) _ _ (unhide HP5) (unhide HF5) (unhide HD5) (by omega)).mono ?_
        rintro e w7 ⟨ov, els, rfl, hpo, hmap, hb7⟩
        have HP7 : Hid (Pks (fun b => w.heap.size ≤ b) w7 ov (Ix.wth l (1 + v2, 1 + v3, fs, ds))) := by
          have h1 := wthlen hmap (Ix.wth_len1 l (1 + v2, 1 + v3, fs, ds))
          have h2 := hpo.pks (fun b hb => Nat.le_trans hsz5 hb) (by omega)
          rw [hmap] at h2
          exact h2
        have hwl := Ix.wth_len1 l (1 + v2, 1 + v3, fs, ds)
        have HR7 := hide ((unhide HR5).later (by omega) hb7)
        have HK7 := hide ((unhide HK5).trans (Kp.of_below (blk := blk) hb7) (unhide HK5).size)
        generalize Ix.wth l (1 + v2, 1 + v3, fs, ds) = l7 at *
        clear hpo hmap hb7 HP5 HF5 HD5 HR5 HK5
        go_wp2
        go_roundw
        case rel => exact ⟨l7, j - 1, q4, by go_num, by omega, by omega, by omega, unhide HP7, unhide HR7, unhide HK7⟩
        case measure => simp [intOf]; omega
      · have r0' : ¬ r < 0 := by omega
        go_wp2
        go_roundw
        case rel => exact ⟨l, j - 1, q4, by go_num, by omega, by omega, by omega, unhide HP5, unhide HR5, unhide HK5⟩
        case measure => simp [intOf]; omega
    · obtain rfl : j = 0 := by omega
      go_wp2
      go_ret
      exact ⟨.slice a l.length c, rfl, l, unhide HP, by omega, q, by omega, unhide HR, unhide HK⟩
end Go.Proofs.YtkhanndmbpemfaaGreatDoor

/- What spec's l71Pkgs returns, said further: the row of packages is owned. -/
namespace Go.Proofs.YtkhanndmbpemfaaGreatDoor
open Go.RowKit

theorem own_baseP {w : World} {B B' sz n : Nat} {t : TypeId} {v : Value} {xs : List Value} (h : w.ownsRow B t sz v n xs) (hB : B' ≤ B) : w.ownsRow B' t sz v n xs := by
  refine ⟨h.1, ?_⟩
  rcases h.2 with hn | ⟨g, cap, cur, rfl, hb1, rest⟩
  · exact .inl hn
  · exact .inr ⟨g, cap, cur, rfl, Nat.le_trans hB hb1, rest⟩
/-- A row of packages of one's own, the packages' rows in other blocks. -/
abbrev POx (B : Nat) (w : World) (v : Value) (l : List El) : Prop := POwn (fun b => B ≤ b ∧ v.ownBlock ≠ some b) B w v l
theorem POwn.kp {W w w' : World} {v : Value} {l : List El} {blk : Nat} (h : POx W.heap.size w v l) (hk : Kp w.heap.size blk w w') (hb : blk < W.heap.size) : POx W.heap.size w' v l :=
  ⟨own_keepS h.own (fun g _ _ hg hx => hk.block g (heapLt hx) (by omega)), fun e he => ⟨(h.el e he).1.keep hk.size (fun k hk1 hN => hk.block k hk1 (by omega)), (h.el e he).2.keep hk.size (fun k hk1 hN => hk.block k hk1 (by omega))⟩⟩
theorem POwn.empty (w : World) : POx w.heap.size (w.alloc (.cells #[] 94)) (.slice (some ⟨w.heap.size, 0, none⟩) 0 0) [] :=
  ⟨⟨by simp [flat4], .inr ⟨w.heap.size, 0, #[], rfl, Nat.le_refl _, heap_alloc_new _ _, Nat.le_refl _, by unfold maxLen; omega, by simp, by simp [flat4]⟩⟩, fun e he => by cases he⟩

set_option maxHeartbeats 4000000 in
set_option maxRecDepth 100000 in
theorem l71Pkgs_ok {B : Nat} (w : World) (blk p : Nat) (h : Rd B w blk p) (hB : B ≤ w.heap.size) (hp : p ≤ 800000000) :
    Calls Tryz.prog 78 #[.pointer (some ⟨blk, 0, none⟩)] w fun e w' => ∃ v els p', e = .returned v ∧ POx w.heap.size w' v els ∧ Ix.pkgsOk (els.map (·.1)) = true ∧ els.length ≤ 7 ∧ p' ≤ p + 400 ∧ Rd B w' blk p' ∧ Kp w.heap.size blk w w' := by
  have hlt := h.lt
  have HR0 := hide (h.later hB (below1 w (.cells #[] 94)))
  have HK0 : Hid (Kp w.heap.size blk w (w.alloc (.cells #[] 94))) := Kp.of_below (below1 w _)
  have hz0 := sz1 w (.cells #[] 94)
  have HZ0 := hide hz0
  have HE0 := hide (POwn.empty w)
  clear h hz0
  go_enter Tryz.func78, Tryz.ntmps78
  go_wp2_with fail
  refine (pick_any _ blk p 8 (unhide HR0) (by have := unhide HZ0; omega) (by omega) (by omega)).mono ?_
  generalize w.alloc _ = W0 at *
  rintro e w1 ⟨v1, rfl, v10, v11, hr1, hk1⟩
  have HR1 := hide hr1
  have HE1 := hide ((unhide HE0).kp hk1 hlt)
  have HK1 : Hid (Kp w.heap.size blk w w1) := (unhide HK0).trans hk1 (unhide HK0).size
  clear hr1 hk1 HR0 HK0 HE0
  go_wp2_with fail
  go_loopw [3, 4] (fun o n w' => ∃ (els : List El) (j : Int) (q : Nat), n = .int .i64 j ∧ 0 ≤ j ∧ (els.length : Int) + j ≤ 7 ∧ (q : Int) + 42 * j ≤ p + 300 ∧ Ix.pkgsOk (els.map (·.1)) = true ∧ POx w.heap.size w' o els ∧ Rd B w' blk q ∧ Kp w.heap.size blk w w') (fun _ n _ => (intOf n).toNat)
  case atStart => exact ⟨[], v1, p + 1, rfl, v10, by simp; omega, by omega, rfl, unhide HE1, unhide HR1, unhide HK1⟩
  case round =>
    clear HR1 HK1 HZ0 HE1
    clear W0
    obtain ⟨els, j, q, rfl, j0, hlen, hq, hko, hpk, hr, hkp⟩ := hrel
    have HO := hide hpk
    have HP := hide ((hpk.weak (M := fun b => w.heap.size ≤ b) (fun b hb => hb.1)).pks (fun b hb => hb) (by omega))
    have hll : (els.map (·.1)).length = els.length := List.length_map _
    have HLL := hide hll
    obtain ⟨l, hl⟩ : ∃ l, l = els.map (·.1) := ⟨_, rfl⟩
    rw [← hl] at HP HLL hko
    have HKO := hide hko
    have HLX := hide hl
    clear hko
    have hlen2 : l.length = els.length := unhide HLL
    clear hll hl HLL
    have HLE := hide hlen2
    have hle7 : (l.length : Int) + j ≤ 7 := by omega
    clear hlen2
    have HR := hide hr
    have HK := hide hkp
    have hsz := hkp.size
    clear hpk hr hkp v10 v11
    obtain ⟨a, c, hv⟩ := (unhide HP).slice
    subst hv
    by_cases hgo : 0 < j
    · go_wp2_with fail
      refine (pick_any _ blk q 4 (unhide HR) (by omega) (by omega) (by omega)).mono ?_
      rintro e w2 ⟨v2, rfl, v20, v21, hr2, hk2⟩
      have HP2 := hide ((unhide HP).kp hk2 hlt)
      have HO2 := hide ((unhide HO).kp hk2 hlt)
      have HK2 := hide ((unhide HK).trans hk2 (unhide HK).size)
      have HR2 := hide hr2
      have hsz2 := (unhide HK2).size
      clear HP HO HR HK hr2 hk2
      have e2 : IntKind.i64.wrap (1 + v2) = 1 + v2 := wrap_small v20 (by omega)
      go_wp2_with fail
      refine (pick_any _ blk (q + 1) 3 (unhide HR2) (by omega) (by omega) (by omega)).mono ?_
      rintro e w3 ⟨v3, rfl, v30, v31, hr3, hk3⟩
      have HP3 := hide ((unhide HP2).kp hk3 hlt)
      have HO3 := hide ((unhide HO2).kp hk3 hlt)
      have HK3 := hide ((unhide HK2).trans hk3 (unhide HK2).size)
      have HR3 := hide hr3
      have hsz3 := (unhide HK3).size
      clear HP2 HO2 HR2 HK2 hr3 hk3
      have e3 : IntKind.i64.wrap (1 + v3) = 1 + v3 := wrap_small v30 (by omega)
      go_wp2_with fail
      refine (l71Pkg_ok _ blk (q + 1 + 1) (1 + v2) (1 + v3) (unhide HR3) (by omega) (by omega)).mono ?_
      rintro e w4 ⟨fv, dv, fs, ds, q4, rfl, hf2, hd2, ⟨hfo, hdo⟩, hq4, of4, od4, hr4, hk4⟩
      have HPO : Hid (Ix.pOk (1 + v2, 1 + v3, fs, ds) = true) := by
        show Pk.pkgOk (1 + v2) (1 + v3) fs ds = true
        unfold Pk.pkgOk
        rw [hfo, hdo, Pk.inB_true.2 ⟨by omega, by omega⟩, Pk.inB_true.2 ⟨by omega, by omega⟩]
        rfl
      clear hfo hdo
      have hN : ∀ b, w3.heap.size ≤ b → w.heap.size ≤ b := fun b hb => Nat.le_trans hsz3 hb
      have HF4 := hide (PrsN.own of4 (by omega) hN)
      have HD4 := hide (PrsN.own od4 (by omega) hN)
      have HP4 := hide ((unhide HP3).kp hk4 hlt)
      have HO4 := hide ((unhide HO3).kp hk4 hlt)
      have HK4 := hide ((unhide HK3).trans hk4 (unhide HK3).size)
      have HR4 := hide hr4
      have hsz4 := (unhide HK4).size
      obtain ⟨fa, fc, hfv⟩ := (unhide HF4).slice
      obtain ⟨da, dc, hdv⟩ := (unhide HD4).slice
      subst hfv hdv
      clear HP3 HO3 HR3 HK3 of4 od4 hr4 hk4
      have HB5 := hide (below1 w4 (.cells #[.int .i64 (1 + v2), .int .i64 (1 + v3), .slice fa fs.length fc, .slice da ds.length dc] 94))
      have HP5 := hide ((unhide HP4).later (unhide HB5))
      have HO5 := hide ((unhide HO4).later (unhide HB5))
      have HF5 := hide ((unhide HF4).later (unhide HB5))
      have HD5 := hide ((unhide HD4).later (unhide HB5))
      have HR5 := hide ((unhide HR4).later (by omega) (unhide HB5))
      have HK5 := hide ((unhide HK4).trans (Kp.of_below (blk := blk) (unhide HB5)) (unhide HK4).size)
      have hsz5 := (unhide HK5).size
      obtain ⟨z5, y0, y1, y2, y3⟩ := box4i' w4 (.int .i64 (1 + v2)) (.int .i64 (1 + v3)) (.slice fa fs.length fc) (.slice da ds.length dc) 94
      have HZ5 := hide z5
      clear HP4 HO4 HF4 HD4 HR4 HK4 z5
      go_wp2_with fail
      refine (l12Find_any _ _ l (1 + v2) (1 + v3) (unhide HP5)).mono ?_
      generalize w4.alloc _ = W5 at *
      rintro e w6 ⟨rfl, r, rfl, hfind⟩
      rcases hfind with ⟨rfl, hno⟩ | ⟨r0, r1, _⟩
      · clear hno
        go_wp2_with fail
        refine (l12With_any _ _ l (1 + v2, 1 + v3, fs, ds) _ _ (unhide HP5).bound (unhide HF5).bound (unhide HD5).bound (by omega)).mono ?_
        rintro e w7 ⟨ov, els7, rfl, hpo, hmap, hb7⟩
        have hwl := wthlen hmap (Ix.wth_len1 l (1 + v2, 1 + v3, fs, ds))
        have HP7 : Hid (POx w.heap.size w7 ov els7) := POwn.weak ⟨own_baseP hpo.own hsz5, hpo.el⟩ (fun b hb => ⟨hb.1, fun e => by have := (own_row hpo.own b e).1; have := hb.2; omega⟩)
        have HR7 := hide ((unhide HR5).later (by omega) hb7)
        have HK7 := hide ((unhide HK5).trans (Kp.of_below (blk := blk) hb7) (unhide HK5).size)
        have HKO7 : Hid (Ix.pkgsOk (els7.map (·.1)) = true) := by
          show Ix.pkgsOk (els7.map (·.1)) = true
          rw [hmap]
          exact Ix.wth_ok (unhide HKO) (unhide HPO)
        clear hpo hmap hb7 HP5 HO5 HF5 HD5 HR5 HK5
        obtain ⟨oa, oc, hov⟩ := own_formS (unhide HP7).own
        subst hov
        go_wp2
        go_roundw
        case rel => exact ⟨els7, j - 1, q4, by go_num, by omega, by have := unhide HLE; omega, by omega, unhide HKO7, unhide HP7, unhide HR7, unhide HK7⟩
        case measure => simp [intOf]; omega
      · have r0' : ¬ r < 0 := by omega
        go_wp2
        go_roundw
        case rel => exact ⟨els, j - 1, q4, by go_num, by omega, by omega, by omega, (by rw [← unhide HLX]; exact unhide HKO), unhide HO5, unhide HR5, unhide HK5⟩
        case measure => simp [intOf]; omega
    · obtain rfl : j = 0 := by omega
      go_wp2
      go_ret
      exact ⟨.slice a l.length c, rfl, els, unhide HO, (by rw [← unhide HLX]; exact unhide HKO), by omega, q, by omega, unhide HR, unhide HK⟩
theorem l71Pkgs_own {B : Nat} (w : World) (blk p : Nat) (h : Rd B w blk p) (hB : B ≤ w.heap.size) (hp : p ≤ 800000000) :
    Calls Tryz.prog 78 #[.pointer (some ⟨blk, 0, none⟩)] w fun e w' => ∃ v els p', e = .returned v ∧ POx w.heap.size w' v els ∧ els.length ≤ 7 ∧ p' ≤ p + 400 ∧ Rd B w' blk p' ∧ Kp w.heap.size blk w w' :=
  (l71Pkgs_ok w blk p h hB hp).mono (by
    rintro e w' ⟨v, els, p', he, h1, _, h2, h3, h4, h5⟩
    exact ⟨v, els, p', he, h1, h2, h3, h4, h5⟩)
end Go.Proofs.YtkhanndmbpemfaaGreatDoor

/- What spec's l13For returns: what is to be in, in memory of its own; for all rows of packages that can be read, if each package is ok. -/
namespace Go.Proofs.YtkhanndmbpemfaaGreatDoor
open Go.RowKit

/-- A block of truth values. -/
def BoolB (w : World) (g : Nat) (a : List Bool) : Prop := w.heap[g]? = some (.cells (a.map Value.bool).toArray 4 (0, 0))
theorem BoolB.keep {w w' : World} {g : Nat} {a : List Bool} (h : BoolB w g a) (hb : w'.heap[g]? = w.heap[g]?) : BoolB w' g a := hb.trans h
theorem BoolB.lt {w : World} {g : Nat} {a : List Bool} (h : BoolB w g a) : g < w.heap.size := heapLt h
theorem BoolB.later {w w' : World} {g : Nat} {a : List Bool} (h : BoolB w g a) (hb : Below w.heap.size w w') : BoolB w' g a := h.keep (hb.block g h.lt)
theorem BoolB.set {w : World} {g i : Nat} {a : List Bool} {x : Bool} (h : BoolB w g a) : BoolB (w.setCell ⟨g, i, none⟩ (.bool x)) g (a.set i x) := by
  unfold BoolB at *
  rw [heapSet h]
  congr 2
  apply Array.ext'
  rw [Array.toList_setIfInBounds, List.toList_toArray, List.map_set]
theorem BoolB.cell {w : World} {g i : Nat} {a : List Bool} (h : BoolB w g a) (hi : i < a.length) : w.cell? ⟨g, i, none⟩ = some (.bool (a.getD i false)) ∧ w.frozen? ⟨g, i, none⟩ = false := by
  refine ⟨?_, frozenOf h i⟩
  rw [cellOf h, List.getElem?_toArray, List.getElem?_map, List.getElem?_eq_getElem hi, List.getD_eq_getElem?_getD, List.getElem?_eq_getElem hi]
  rfl
theorem infoB : (Tryz.prog.info? 4).map (fun i => (i.zero, i.size, i.bytes)) = some (some (.bool false), 1, 1) := by kernel_rfl
theorem mk_bools (w : World) :
    ∃ WA, (Instr.makeSlice 150 (.int .i64 5) (.int .i64 5)).run Tryz.prog w = .ok (.slice (some ⟨w.heap.size, 0, none⟩) 5 5) WA ∧ BoolB WA w.heap.size (List.replicate 5 false) ∧ Below w.heap.size w WA := by
  obtain ⟨i, hi0, hz0, hz1, hz2⟩ := info_parts infoB
  have h := run_make (P := Tryz.prog) w 150 4 i (.bool false) Tryz.underlying150 hi0 hz0 .i64 .i64 (5 : Int) (5 : Int) (by omega) (Int.le_refl _) (by rw [hz2]; omega) (by omega)
  rw [hz1] at h
  refine ⟨_, h, ?_, below1 w _⟩
  unfold BoolB
  rw [heap_alloc_new]
  have e : madeCells (Value.bool false).cells (Int.toNat 5 * 1) = ((List.replicate 5 false).map Value.bool).toArray := by
    apply Array.ext'
    exact toList_madeCells_one (Value.bool false) 5
  rw [e]
theorem POx.base2 {B B' : Nat} {w : World} {v : Value} {l : List El} (h : POx B w v l) (hB : B' ≤ B) : POx B' w v l :=
  POwn.weak ⟨own_baseP h.own hB, h.el⟩ (fun _ hb => ⟨Nat.le_trans hB hb.1, hb.2⟩)
theorem PrsN.setOut {B G o : Nat} {u : Value} {w : World} {v : Value} {l : List (Int × Int)} (h : PrsN (fun b => B ≤ b) w v l) (hG : G < B) : PrsN (fun b => B ≤ b) (w.setCell ⟨G, o, none⟩ u) v l :=
  h.keep (by simp only [World.setCell, Array.size_modify]; exact Nat.le_refl _) (fun k _ hN => Below.heap_setCell _ _ _ _ (by show k ≠ G; omega))
theorem POx.setOut {B G o : Nat} {u : Value} {w : World} {v : Value} {l : List El} (h : POx B w v l) (hG : G < B) : POx B (w.setCell ⟨G, o, none⟩ u) v l :=
  ⟨own_keepS h.own (fun g _ _ hB _ => Below.heap_setCell _ _ _ _ (by show g ≠ G; omega)), fun e he =>
    ⟨(h.el e he).1.keep (by simp only [World.setCell, Array.size_modify]; exact Nat.le_refl _) (fun k _ hN => Below.heap_setCell _ _ _ _ (by show k ≠ G; omega)),
     (h.el e he).2.keep (by simp only [World.setCell, Array.size_modify]; exact Nat.le_refl _) (fun k _ hN => Below.heap_setCell _ _ _ _ (by show k ≠ G; omega))⟩⟩
def lenOf : Value → Nat
  | .slice _ n _ => n
  | _ => 0
theorem Ix.map_fst_succ {ds : List (Int × Int)} {m : Nat} (hm : m < ds.length) : (ds.take (m + 1)).map (·.1) = (ds.take m).map (·.1) ++ [Pk.fst ds m] := by
  rw [List.take_add_one, (Ix.pair_mem hm).2, List.map_append]
  rfl
theorem Ix.map_name_succ {l : List Ix.Pg} {k : Nat} (hk : k < l.length) : (l.take (k + 1)).map (·.1) = (l.take k).map (·.1) ++ [(Ix.pg l k).1] := by
  rw [Ix.take_pgs hk, List.map_append]
  rfl

set_option maxHeartbeats 8000000 in
set_option maxRecDepth 100000 in
theorem l13For_any {N : Nat → Prop} (w : World) (v u : Value) (st ha : List Ix.Pg) (x : Int) (h : Pks N w v st) (h' : Pks N w u ha) (hst : ∀ p ∈ st, Ix.pOk p = true) (hha : ∀ p ∈ ha, Ix.pOk p = true) (x0 : 1 ≤ x) (x1 : x ≤ 4) :
    Calls Tryz.prog 106 #[v, u, .int .i64 x] w fun e w' => ∃ ov els, e = .returned (.tuple #[ov, .bool (Ix.forD st ha x).isSome]) ∧ POx w.heap.size w' ov els ∧ els.map (·.1) = (Ix.forD st ha x).getD [] ∧ Below w.heap.size w w' := by
  have HS := hide h
  have HH := hide h'
  have HST := hide hst
  have HHA := hide hha
  obtain ⟨va, vc, hv⟩ := h.slice
  subst hv
  obtain ⟨ua, uc, rfl, hulen, hurow⟩ := h'
  clear h hst hha
  obtain ⟨xn, rfl⟩ : ∃ xn : Nat, x = (xn : Int) := ⟨x.toNat, by omega⟩
  have hxn : xn < 5 := by omega
  have hx0 : (0 : Int) ≤ (xn : Int) := by omega
  have hx1 : (xn : Int) < 5 := by omega
  have hFD : Ix.forD st ha xn = Ix.forO (Ix.forF st ha 5 (Ix.forW ha xn) []) := rfl
  have HFD := hide hFD
  obtain ⟨WA, hmk, hG0, b0⟩ := mk_bools w
  obtain ⟨q0, q1⟩ := hG0.cell (i := xn) (by simp; omega)
  have HG1 := hide (hG0.set (i := xn) (x := true))
  have HB1 := hide (below_set (o := xn) (u := .bool true) b0 (Nat.le_refl _))
  have hlt0 := hG0.lt
  clear hFD hG0 b0
  go_enter Tryz.func106, Tryz.ntmps106
  go_wp2_with fail
  go_loopw [9] (fun i w' => ∃ k : Nat, k ≤ ha.length ∧ i = .int .i64 k ∧ BoolB w' w.heap.size (Ix.wAll (List.replicate 5 false) ((xn : Int) :: (ha.take k).map (·.1))) ∧ Below w.heap.size w w') (fun i _ => ha.length - (intOf i).toNat)
  case atStart => exact ⟨0, Nat.zero_le _, rfl, unhide HG1, unhide HB1⟩
  case round =>
    clear HG1 HB1 q0 q1 hmk hlt0
    clear WA
    obtain ⟨k, hk, rfl, hI, hw⟩ := hrel
    have HI := hide hI
    have HW := hide hw
    clear hI hw
    by_cases hlt : k < ha.length
    · obtain ⟨b, off, rfl, hb, _, hc⟩ := hurow (by omega)
      obtain ⟨fv, dv, hAt, hf, hd⟩ := hc k hlt
      have hnm := Ix.pOk_name (unhide HHA _ (Ix.pg_mem hlt))
      have hsu := Ix.map_name_succ hlt
      have hsn := Ix.wAll_snoc (List.replicate 5 false) ((xn : Int) :: (ha.take k).map (·.1)) (Ix.pg ha k).1
      have hwl := Ix.wAll_len ((xn : Int) :: (ha.take k).map (·.1)) (List.replicate 5 false)
      rw [List.cons_append, ← hsu] at hsn
      obtain ⟨c0, c1, c2, c3⟩ := hAt.keep ((unhide HW).block b hb)
      obtain ⟨nn, hnn⟩ : ∃ nn : Nat, (Ix.pg ha k).1 = (nn : Int) := ⟨(Ix.pg ha k).1.toNat, by omega⟩
      rw [hnn] at c0 hnm hsn
      rw [Int.toNat_natCast] at hsn
      have HSN := hide hsn
      generalize Ix.wAll (List.replicate 5 false) ((xn : Int) :: (ha.take k).map (·.1)) = A at *
      have hA5 : A.length = 5 := by rw [hwl]; rfl
      obtain ⟨p0, p1⟩ := (unhide HI).cell (i := nn) (by omega)
      have HI2 := hide ((unhide HI).set (i := nn) (x := true))
      have HW2 := hide (below_set (o := nn) (u := .bool true) (unhide HW) (Nat.le_refl _))
      have hn0 : (0 : Int) ≤ (nn : Int) := by omega
      have hn1 : (nn : Int) < 5 := by omega
      have hi0 : (0 : Int) ≤ (k : Int) := Int.natCast_nonneg _
      have hi1 : (k : Int) < (ha.length : Int) := by omega
      have er : IntKind.i64.wrap ((k : Int) + 1) = (k : Int) + 1 := by simp [IntKind.wrap, IntKind.bits, IntKind.signed]; omega
      clear hAt hf hd hc hurow hsu hsn hwl hnn c1 c2 c3 HI hA5
      go_wp2
      go_roundw
      case rel => exact ⟨k + 1, by omega, by go_num, by rw [unhide HSN]; exact unhide HI2, unhide HW2⟩
      case measure => simp [intOf]; omega
    · obtain rfl : k = ha.length := by omega
      rw [List.take_length] at HI
      have hwl := Ix.wAll_len ((xn : Int) :: ha.map (·.1)) (List.replicate 5 false)
      have HFW : Hid (Ix.forW ha xn = Ix.wAll (List.replicate 5 false) ((xn : Int) :: ha.map (·.1))) := rfl
      generalize Ix.wAll (List.replicate 5 false) ((xn : Int) :: ha.map (·.1)) = W0 at *
      rw [List.length_replicate] at hwl
      have bE := below1 wr (.cells #[] 94)
      have HE := hide (POwn.empty wr)
      have HIE := hide ((unhide HI).later bE)
      have HWE := hide ((unhide HW).trans (bE.mono (unhide HW).size))
      have hGlt := (unhide HI).lt
      clear hlt hurow bE HI HW hk
      go_wp2_with fail
      generalize hwe : wr.heap.size = hs at *
      clear hwe
      generalize wr.alloc _ = W1 at *
      clear wr
      go_loopw [10, 11] (fun o n w' => ∃ (els : List El) (W : List Bool) (k : Nat), n = .int .i64 k ∧ 1 ≤ k ∧ k ≤ 5 ∧ (∀ m, m < k → Ix.miss W (els.map (·.1)) m = false) ∧ W.length = 5 ∧ BoolB w' w.heap.size W ∧ POx (w.heap.size + 1) w' o els ∧ els.length + Ix.lackN (els.map (·.1)) = 4 ∧ Ix.forF st ha (5 - els.length) W (els.map (·.1)) = Ix.forF st ha 5 (Ix.forW ha xn) [] ∧ Below w.heap.size w w') (fun o n _ => (4 - lenOf o) * 6 + (5 - (intOf n).toNat))
      case atStart =>
        exact ⟨[], W0, 1, rfl, by omega, by omega, fun m hm => by obtain rfl : m = 0 := by omega
                                                                  rfl, hwl, unhide HIE, POx.base2 (unhide HE) (by omega), rfl, by rw [unhide HFW]; rfl, unhide HWE⟩
      case round =>
        clear HIE HE HWE HFW hwl
        clear W0 W1
        obtain ⟨els, W, k, rfl, k0, k5, hscan, hW5, hI, hO, hlack, hfor, hw⟩ := hrel
        have hel : els.length ≤ 4 := by omega
        have hpk := (POwn.weak hO (M := fun b => w.heap.size + 1 ≤ b) (fun b hb => hb.1)).pks (fun b hb => hb) (by omega)
        have hll : (els.map (·.1)).length = els.length := List.length_map _
        obtain ⟨out, hout⟩ : ∃ out, out = els.map (·.1) := ⟨_, rfl⟩
        rw [← hout] at hpk hll hscan hlack hfor
        rw [← hll] at hel hlack hfor
        obtain ⟨oa, oc, hov⟩ := hpk.slice
        subst hov
        have HOUT := hide hout
        have HLL := hide hll
        have HI := hide hI
        have HO := hide hO
        have HP := hide hpk
        have HW := hide hw
        have HSC := hide hscan
        have HLK := hide hlack
        have HFO := hide hfor
        have hsz := hw.size
        have hGlt := hI.lt
        clear hout hll hI hO hpk hw hscan hlack hfor
        by_cases hk4 : k ≤ 4
        · have hk0 : (0 : Int) ≤ (k : Int) := by omega
          have hk1 : (k : Int) < 5 := by omega
          have hk2 : (k : Int) ≤ 4 := by omega
          have er : IntKind.i64.wrap ((k : Int) + 1) = (k : Int) + 1 := by simp [IntKind.wrap, IntKind.bits, IntKind.signed]; omega
          obtain ⟨c0, c1⟩ := (unhide HI).cell (i := k) (by omega)
          have hmk : Ix.miss W out k = (W.getD k false && !Ix.isN out k) := by unfold Ix.miss; rw [decide_eq_true k0, Bool.true_and]
          have HMK := hide hmk
          clear hmk c1
          cases hWk : W.getD k false
          · rw [hWk] at c0 HMK
            go_wp2
            go_roundw
            case rel =>
              refine ⟨els, W, k + 1, by go_num, by omega, by omega, fun m hm => ?_, hW5, unhide HI, unhide HO, by rw [← unhide HOUT, ← unhide HLL]; exact unhide HLK, by rw [← unhide HOUT, ← unhide HLL]; exact unhide HFO, unhide HW⟩
              rw [← unhide HOUT]
              rcases Nat.lt_or_ge m k with h1 | h1
              · exact unhide HSC m h1
              · obtain rfl : m = k := by omega
                exact unhide HMK
            case measure => simp [intOf, lenOf]; omega
          rw [hWk] at c0 HMK
          have CI := hide (l13Is_any _ _ out k (unhide HP))
          cases hIs : Ix.isN out k
          · rw [hIs] at CI HMK
            have hfst := Ix.first_some (by omega) (unhide HMK) (unhide HSC)
            have hlk1 := Ix.lackN_pos k0 (by omega) hIs
            have hlk := unhide HLK
            have ho3 : out.length ≤ 3 := by omega
            have HFS := hide hfst
            have HIS := hide hIs
            clear hfst hlk1 hlk hIs HMK
            go_wp2_with fail
            refine (unhide CI).mono ?_
            rintro e w1 ⟨rfl, b1⟩
            have HB1 := hide b1
            clear b1 CI c0
            have HBw1 := hide ((unhide HW).trans ((unhide HB1).mono (unhide HW).size))
            have CP := hide (l13Pick_any w1 (.slice va st.length vc) (.slice ua ha.length uc) st ha k ((unhide HS).later (unhide HBw1)) ((unhide HH).later (unhide HBw1)))
            have hmem := fun hp => (Ix.pick13_mem (st := st) (ha := ha) (n := (k : Int)) hp)
            have HMEM := hide hmem
            have HGO := hide (fun hp => Ix.forF_go (st := st) (ha := ha) (f := 4 - out.length) (unhide HFS) hp)
            have HNO := hide (fun hp => Ix.forF_no (st := st) (ha := ha) (f := 4 - out.length) (unhide HFS) hp)
            clear hmem HFS
            generalize Ix.pick13 st ha k = pd at *
            obtain ⟨⟨nm, vr, fs, ds⟩, bo⟩ := pd
            dsimp only at HMEM HGO HNO
            go_wp2_with fail
            refine (unhide CP).mono ?_
            rintro e w2 ⟨r2, rfl, ⟨fv, dv, rfl, ho⟩, b2⟩
            obtain ⟨fa, fc, da, dc, h1, h2⟩ := ho.forms
            dsimp only at h1 h2
            subst h1 h2
            dsimp only
            have bX := below1 w2 (.cells #[.int .i64 nm, .int .i64 vr, .slice fa fs.length fc, .slice da ds.length dc] 94)
            have b13 := (unhide HB1).trans ((b2.trans (bX.mono b2.size)).mono (unhide HB1).size)
            have HX := hide (heap_alloc_new w2 (.cells #[.int .i64 nm, .int .i64 vr, .slice fa fs.length fc, .slice da ds.length dc] 94))
            have HI3 := hide ((unhide HI).later b13)
            have HO3 := hide ((unhide HO).later b13)
            have HP3 := hide ((unhide HP).later b13)
            have HW3 := hide ((unhide HW).trans (b13.mono (unhide HW).size))
            have HOP := hide (OwP.later ho bX)
            have hsz1 := (unhide HB1).size
            have hsz2 := b2.size
            clear ho b2 bX b13 CP HB1 HBw1 HI HO HP HW
            cases bo
            · have bE := below1 (w2.alloc (.cells #[.int .i64 nm, .int .i64 vr, .slice fa fs.length fc, .slice da ds.length dc] 94)) (.cells #[] 94)
              have hE := POwn.empty (w2.alloc (.cells #[.int .i64 nm, .int .i64 vr, .slice fa fs.length fc, .slice da ds.length dc] 94))
              have hszE := (unhide HW3).size
              rw [sz1] at hE hszE
              have HE := hide hE
              have HWE := hide ((unhide HW3).trans (bE.mono (unhide HW3).size))
              have hF := unhide HNO rfl
              rw [show 4 - out.length + 1 = 5 - out.length from by omega, unhide HFO] at hF
              rw [hF] at HFD
              have hD : Ix.forD st ha xn = none := unhide HFD
              have HD := hide hD
              clear hF hD bE hE
              go_wp2
              exact bodyPost_ret (v := .tuple #[.slice (some ⟨w2.heap.size + 1, 0, none⟩) 0 0, .bool false]) (by simp [results, Tryz.results106, go_sem]) rfl (by rw [unhide HD]; exact ⟨_, rfl, [], POx.base2 (unhide HE) hszE, rfl, unhide HWE⟩)
            · have hF := unhide HGO rfl
              obtain ⟨hm1, hm2⟩ := unhide HMEM rfl
              have hpok : Ix.pOk (nm, vr, fs, ds) = true := hm1.elim (unhide HST _) (unhide HHA _)
              obtain ⟨hl1, hl2⟩ := Ix.pOk_lens hpok
              have hdep := Ix.pOk_dep hpok
              dsimp only at hm2 hl1 hl2 hdep hF
              have HDEP := hide hdep
              have HF := hide hF
              have HM2 := hide hm2
              clear hF hm1 hm2 hpok hdep HGO HNO HMEM
              have hN3 : ∀ b, w.heap.size + 1 ≤ b → w.heap.size + 1 ≤ b := fun _ h => h
              have hf3 := PrsN.own (N := fun b => w.heap.size + 1 ≤ b) (l := fs) (unhide HOP).f (by omega) (fun b hb => by omega)
              have hd3 := PrsN.own (N := fun b => w.heap.size + 1 ≤ b) (l := ds) (unhide HOP).d (by omega) (fun b hb => by omega)
              have HFD3 := hide (And.intro hf3 hd3)
              have CW := hide (l12With_any _ _ out (nm, vr, fs, ds) _ _ (unhide HP3).bound hf3.bound hd3.bound (by omega))
              have hx3 := unhide HX
              obtain ⟨y0, y1, y2, y3⟩ : _ ∧ _ ∧ _ ∧ _ := ⟨cellOf hx3 0, cellOf hx3 1, cellOf hx3 2, cellOf hx3 3⟩
              have hisN : Ix.isN out (nm, vr, fs, ds).1 = false := by dsimp only; rw [unhide HM2]; exact unhide HIS
              have hmore := Ix.wth_more hisN
              have hlless := Ix.lackN_less (p := (nm, vr, fs, ds)) k0 (by omega) (unhide HM2) (unhide HIS)
              have HMORE := hide (And.intro hmore hlless)
              have hXw : w.heap.size < w2.heap.size := by omega
              clear hf3 hd3 hN3 hx3 hisN hmore hlless HOP HIS HM2 HO3 HP3
              go_wp2_with fail
              refine (unhide CW).mono ?_
              rintro e w4 ⟨ov, els4, rfl, hpo, hmap, hb4⟩
              have hlen4 : els4.length = out.length + 1 := by rw [← (unhide HMORE).1, ← hmap, List.length_map]
              have HL4 := hide hlen4
              clear hlen4
              have hszA := (unhide HW3).size
              have HP4 : Hid (POx (w.heap.size + 1) w4 ov els4) := POwn.weak ⟨own_baseP hpo.own (by have := unhide HX; have := heapLt this; omega), hpo.el⟩ (fun b hb => ⟨hb.1, fun e => by have := (own_row hpo.own b e).1; have := hb.2; omega⟩)
              have HX4 := hide ((hb4.block _ (heapLt (unhide HX))).trans (unhide HX))
              have HI4 := hide ((unhide HI3).later hb4)
              have HD4 := hide ((unhide HFD3).2.later hb4)
              have HW4 := hide ((unhide HW3).trans (hb4.mono (unhide HW3).size))
              have HMAP := hide hmap
              obtain ⟨pa, pc, hov⟩ := own_formS (unhide HP4).own
              subst hov
              clear hpo hmap hb4 CW y0 y1 y2 y3 HI3 HFD3 HW3 HX hszA
              generalize w2.heap.size = X at *
              go_wp2_with fail
              go_loopw [14] (fun i w' => ∃ j : Nat, j ≤ ds.length ∧ i = .int .i64 j ∧ BoolB w' w.heap.size (Ix.wAll W ((ds.take j).map (·.1))) ∧ POx (w.heap.size + 1) w' (.slice pa els4.length pc) els4 ∧ w'.heap[X]? = some (.cells #[.int .i64 nm, .int .i64 vr, .slice fa fs.length fc, .slice da ds.length dc] 94 (0, 0)) ∧ PrsN (fun b => w.heap.size + 1 ≤ b) w' (.slice da ds.length dc) ds ∧ Below w.heap.size w w') (fun i _ => ds.length - (intOf i).toNat)
              case atStart => exact ⟨0, Nat.zero_le _, rfl, unhide HI4, unhide HP4, unhide HX4, unhide HD4, unhide HW4⟩
              case round =>
                clear HI4 HP4 HX4 HD4 HW4
                obtain ⟨j, hj, rfl, hI, hO, hX, hD, hw⟩ := hrel
                have HI := hide hI
                have HO := hide hO
                have HXx := hide hX
                have HDx := hide hD
                have HW := hide hw
                have y3 := cellOf hX 3
                clear hI hO hX hw
                by_cases hlt : j < ds.length
                · obtain ⟨da', dc', hdv, _, hdr⟩ := hD
                  injection hdv with hdv1 _ hdv2
                  subst hdv1 hdv2
                  obtain ⟨db, dof, rfl, hdb, _, hdc⟩ := hdr (by omega)
                  obtain ⟨d0, d1⟩ := hdc j hlt
                  have hbd := (unhide HDEP j hlt).1
                  have hsu := Ix.map_fst_succ hlt
                  have hsn := Ix.wAll_snoc W ((ds.take j).map (·.1)) (Pk.fst ds j)
                  have hwl := Ix.wAll_len ((ds.take j).map (·.1)) W
                  rw [← hsu] at hsn
                  obtain ⟨nn, hnn⟩ : ∃ nn : Nat, Pk.fst ds j = (nn : Int) := ⟨(Pk.fst ds j).toNat, by omega⟩
                  rw [hnn] at d0 hbd hsn
                  rw [Int.toNat_natCast] at hsn
                  have HSN := hide hsn
                  generalize Ix.wAll W ((ds.take j).map (·.1)) = A at *
                  obtain ⟨p0, p1⟩ := (unhide HI).cell (i := nn) (by omega)
                  have HI2 := hide ((unhide HI).set (i := nn) (x := true))
                  have HO2 := hide ((unhide HO).setOut (o := nn) (u := .bool true) (Nat.lt_succ_self w.heap.size))
                  have HD2 := hide ((unhide HDx).setOut (o := nn) (u := .bool true) (Nat.lt_succ_self w.heap.size))
                  have HX2 := hide ((Below.heap_setCell wr ⟨w.heap.size, nn, none⟩ (.bool true) X (by show X ≠ w.heap.size; omega)).trans (unhide HXx))
                  have HW2 := hide (below_set (o := nn) (u := .bool true) (unhide HW) (Nat.le_refl _))
                  have hn0 : (0 : Int) ≤ (nn : Int) := by omega
                  have hn1 : (nn : Int) < 5 := by omega
                  have hi0 : (0 : Int) ≤ (j : Int) := Int.natCast_nonneg _
                  have hi1 : (j : Int) < (ds.length : Int) := by omega
                  have er2 : IntKind.i64.wrap ((j : Int) + 1) = (j : Int) + 1 := by simp [IntKind.wrap, IntKind.bits, IntKind.signed]; omega
                  clear hdr hdc hsu hsn hwl hnn d1 HI HO HDx HXx HW
                  go_wp2
                  go_roundw
                  case rel => exact ⟨j + 1, by omega, by go_num, by rw [unhide HSN]; exact unhide HI2, unhide HO2, unhide HX2, unhide HD2, unhide HW2⟩
                  case measure => simp [intOf]; omega
                · obtain rfl : j = ds.length := by omega
                  rw [List.take_length] at HI
                  have hwl := Ix.wAll_len (ds.map (·.1)) W
                  clear hlt hD
                  go_wp2
                  go_roundw
                  case rel =>
                    have hlen4 := unhide HL4
                    refine ⟨els4, _, 1, rfl, by omega, by omega, fun m hm => ?_, by rw [hwl]; exact hW5, unhide HI, unhide HO, ?_, ?_, unhide HW⟩
                    · obtain rfl : m = 0 := by omega
                      rfl
                    · have h1 := (unhide HMORE).2
                      have h2 := unhide HLK
                      rw [unhide HMAP]
                      omega
                    · have h1 := unhide HFO
                      have h2 := unhide HF
                      rw [show 4 - out.length + 1 = 5 - out.length from by omega, h1] at h2
                      rw [unhide HMAP, h2, show 5 - els4.length = 4 - out.length from by omega]
                  case measure => have hlen4 := unhide HL4; simp [intOf, lenOf]; omega
          · rw [hIs] at CI HMK
            go_wp2_with fail
            refine (unhide CI).mono ?_
            rintro e w1 ⟨rfl, b1⟩
            have HI1 := hide ((unhide HI).later b1)
            have HO1 := hide ((unhide HO).later b1)
            have HW1 := hide ((unhide HW).trans (b1.mono (unhide HW).size))
            clear b1 CI c0 HI HO HW
            go_wp2
            go_roundw
            case rel =>
              refine ⟨els, W, k + 1, by go_num, by omega, by omega, fun m hm => ?_, hW5, unhide HI1, unhide HO1, by rw [← unhide HOUT, ← unhide HLL]; exact unhide HLK, by rw [← unhide HOUT, ← unhide HLL]; exact unhide HFO, unhide HW1⟩
              rw [← unhide HOUT]
              rcases Nat.lt_or_ge m k with h1 | h1
              · exact unhide HSC m h1
              · obtain rfl : m = k := by omega
                exact unhide HMK
            case measure => simp [intOf, lenOf]; omega
        · obtain rfl : k = 5 := by omega
          have hk2 : ¬ ((5 : Nat) : Int) ≤ 4 := by omega
          have hfe := Ix.forF_end (st := st) (ha := ha) (f := 4 - out.length) (Ix.first_none (unhide HSC))
          rw [show 4 - out.length + 1 = 5 - out.length from by omega, unhide HFO] at hfe
          rw [hfe] at HFD
          have HFE : Hid (Ix.forD st ha xn = if Ix.planOk out = true then some out else none) := HFD
          clear hfe HFD HFO HSC HLK
          have CK := hide (specPlanOk_any _ _ out (unhide HP))
          cases hpo : Ix.planOk out
          · rw [hpo] at CK HFE
            have hD : Ix.forD st ha xn = none := unhide HFE
            have HD := hide hD
            clear hD hpo HFE
            go_wp2_with fail
            refine (unhide CK).mono ?_
            rintro e w1 ⟨rfl, b1⟩
            have bE := below1 w1 (.cells #[] 94)
            have HE := hide (POwn.empty w1)
            have hB1 := (unhide HW).trans (b1.mono (unhide HW).size)
            have HWE := hide (hB1.trans (bE.mono hB1.size))
            have hszE := hB1.size
            clear bE b1 CK hB1
            go_wp2
            exact bodyPost_ret (v := .tuple #[.slice (some ⟨w1.heap.size, 0, none⟩) 0 0, .bool false]) (by simp [results, Tryz.results106, go_sem]) rfl (by rw [unhide HD]; exact ⟨_, [], rfl, POx.base2 (unhide HE) hszE, rfl, unhide HWE⟩)
          · rw [hpo] at CK HFE
            have hD : Ix.forD st ha xn = some out := unhide HFE
            have HD := hide hD
            clear hD hpo HFE
            go_wp2_with fail
            refine (unhide CK).mono ?_
            rintro e w1 ⟨rfl, b1⟩
            have HO1 := hide (POx.base2 ((unhide HO).later b1) (Nat.le_succ _))
            have HW1 := hide ((unhide HW).trans (b1.mono (unhide HW).size))
            clear b1 CK HO HW
            go_wp2
            exact bodyPost_ret (v := .tuple #[.slice oa out.length oc, .bool true]) (by simp [results, Tryz.results106, go_sem]) rfl (by rw [unhide HD]; exact ⟨_, els, rfl, unhide HO1, (unhide HOUT).symm, unhide HW1⟩)
end Go.Proofs.YtkhanndmbpemfaaGreatDoor
