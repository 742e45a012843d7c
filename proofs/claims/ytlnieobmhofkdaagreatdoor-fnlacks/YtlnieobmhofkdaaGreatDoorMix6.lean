import Derived.Test.YtlnieobmhofkdaaGreatDoorBoxW
import Derived.Test.YtlnieobmhofkdaaGreatDoorPksW
import Derived.Test.YtlnieobmhofkdaaGreatDoorPkgDrawW
import Derived.Test.YtlnieobmhofkdaaGreatDoorWithW
/- A row of pairs of one's own is one whose blocks are of a kind. -/
namespace Go.Proofs.YtlnieobmhofkdaaGreatDoor
open Go.RowKit

theorem PrsN.own {N : Nat → Prop} {w : World} {B : Nat} {t : TypeId} {v : Value} {l : List (Int × Int)} (h : w.ownsRow B t 2 v l.length (flat l)) (hl : l.length ≤ 1000000) (hN : ∀ b, B ≤ b → N b) : PrsN N w v l := by
  rcases own_shape h with ⟨hv, hn⟩ | ⟨g, cap, hv, hb, hg⟩
  · exact ⟨none, 0, by rw [hv, hn], by omega, fun hp => by omega⟩
  · subst hv
    refine ⟨some ⟨g, 0, none⟩, cap, rfl, by omega, fun _ => ⟨g, 0, rfl, hg, hN g hb, fun i hi => ?_⟩⟩
    obtain ⟨h0, h1⟩ := flat_at l i hi
    rw [Nat.zero_add]
    exact ⟨own_cell h _ _ h0, own_cell h _ _ h1⟩
theorem PrsN.bound {N : Nat → Prop} {w : World} {v : Value} {l : List (Int × Int)} (h : PrsN N w v l) : PrsN (fun b => N b ∧ b < w.heap.size) w v l := by
  obtain ⟨a, cap, hv, hl, hr⟩ := h
  refine ⟨a, cap, hv, hl, fun hp => ?_⟩
  obtain ⟨b, off, ha, hbs, hN, hc⟩ := hr hp
  exact ⟨b, off, ha, hbs, ⟨hN, hbs⟩, hc⟩
theorem Pks.bound {N : Nat → Prop} {w : World} {v : Value} {l : List Ix.Pg} (h : Pks N w v l) : Pks (fun b => N b ∧ b < w.heap.size) w v l := by
  obtain ⟨a, cap, hv, hl, hr⟩ := h
  refine ⟨a, cap, hv, hl, fun hp => ?_⟩
  obtain ⟨b, off, ha, hbs, hN, hc⟩ := hr hp
  refine ⟨b, off, ha, hbs, ⟨hN, hbs⟩, fun i hi => ?_⟩
  obtain ⟨fv, dv, h1, h2, h3⟩ := hc i hi
  exact ⟨fv, dv, h1, h2.bound, h3.bound⟩
theorem PrsN.weak {N N' : Nat → Prop} {w : World} {v : Value} {l : List (Int × Int)} (h : PrsN N w v l) (hN : ∀ b, N b → N' b) : PrsN N' w v l := by
  obtain ⟨a, cap, hv, hl, hr⟩ := h
  refine ⟨a, cap, hv, hl, fun hp => ?_⟩
  obtain ⟨b, off, ha, hbs, h1, hc⟩ := hr hp
  exact ⟨b, off, ha, hbs, hN b h1, hc⟩
theorem Pks.weak {N N' : Nat → Prop} {w : World} {v : Value} {l : List Ix.Pg} (h : Pks N w v l) (hN : ∀ b, N b → N' b) : Pks N' w v l := by
  obtain ⟨a, cap, hv, hl, hr⟩ := h
  refine ⟨a, cap, hv, hl, fun hp => ?_⟩
  obtain ⟨b, off, ha, hbs, h1, hc⟩ := hr hp
  refine ⟨b, off, ha, hbs, hN b h1, fun i hi => ?_⟩
  obtain ⟨fv, dv, h2, h3, h4⟩ := hc i hi
  exact ⟨fv, dv, h2, h3.weak hN, h4.weak hN⟩
theorem POwn.weak {N M : Nat → Prop} {B : Nat} {w : World} {v : Value} {l : List El} (h : POwn N B w v l) (hN : ∀ b, N b → M b) : POwn M B w v l :=
  ⟨h.own, fun e he => ⟨(h.el e he).1.weak hN, (h.el e he).2.weak hN⟩⟩
theorem POwn.later {N : Nat → Prop} {B : Nat} {w w' : World} {v : Value} {l : List El} (h : POwn N B w v l) (hb : Below w.heap.size w w') : POwn N B w' v l :=
  ⟨own_later h.own hb, fun e he => ⟨(h.el e he).1.later hb, (h.el e he).2.later hb⟩⟩
end Go.Proofs.YtlnieobmhofkdaaGreatDoor

/- What spec's l71Pkgs returns: a row of packages that can be read, seven at most, in blocks made since; the reader goes on. -/
namespace Go.Proofs.YtlnieobmhofkdaaGreatDoor
open Go.RowKit

theorem Pks.nil {N : Nat → Prop} (w : World) (a : Option Addr) (c : Nat) : Pks N w (.slice a 0 c) [] := ⟨a, c, rfl, by simp, fun h => absurd h (by simp)⟩
theorem Pks.kpR {W w w' : World} {v : Value} {l : List Ix.Pg} {blk R : Nat} (h : Pks (fun b => W.heap.size ≤ b ∧ b ≠ R) w v l) (hk : Kp w.heap.size blk w w') (hb : blk < W.heap.size) : Pks (fun b => W.heap.size ≤ b ∧ b ≠ R) w' v l :=
  h.keep hk.size (fun k hk1 hN => hk.block k hk1 (by omega))
theorem Pks.kp {W w w' : World} {v : Value} {l : List Ix.Pg} {blk : Nat} (h : Pks (fun b => W.heap.size ≤ b) w v l) (hk : Kp w.heap.size blk w w') (hb : blk < W.heap.size) : Pks (fun b => W.heap.size ≤ b) w' v l :=
  h.keep hk.size (fun k hk1 hN => hk.block k hk1 (by omega))

theorem box4i' (w : World) (a b c d : Value) (t : TypeId) : (w.alloc (.cells #[a, b, c, d] t)).heap.size = w.heap.size + 1 ∧ (w.alloc (.cells #[a, b, c, d] t)).cell? ⟨w.heap.size, 0, none⟩ = some a ∧ (w.alloc (.cells #[a, b, c, d] t)).cell? ⟨w.heap.size, 1, none⟩ = some b ∧ (w.alloc (.cells #[a, b, c, d] t)).cell? ⟨w.heap.size, 2, none⟩ = some c ∧ (w.alloc (.cells #[a, b, c, d] t)).cell? ⟨w.heap.size, 3, none⟩ = some d :=
  ⟨by simp, by rw [World.cell?_alloc_new]; rfl, by rw [World.cell?_alloc_new]; rfl, by rw [World.cell?_alloc_new]; rfl, by rw [World.cell?_alloc_new]; rfl⟩
theorem wthlen {els : List El} {l : List Ix.Pg} {n : Nat} (h : els.map (·.1) = l) (hl : l.length ≤ n) : els.length ≤ n := by rw [← List.length_map (f := fun x : El => x.1), h]; exact hl

set_option maxHeartbeats 4000000 in
set_option maxRecDepth 100000 in
theorem l71Pkgs_any {B : Nat} (w : World) (blk p : Nat) (h : Rd B w blk p) (hB : B ≤ w.heap.size) (hp : p ≤ 800000000) :
    Calls Tryz.prog 81 #[.pointer (some ⟨blk, 0, none⟩)] w fun e w' => ∃ v l p', e = .returned v ∧ Pks (fun b => w.heap.size ≤ b) w' v l ∧ l.length ≤ 7 ∧ p' ≤ p + 400 ∧ Rd B w' blk p' ∧ Kp w.heap.size blk w w' := by
  have hlt := h.lt
  have HR0 := hide (h.later hB (below1 w (.cells #[] 42)))
  have HK0 : Hid (Kp w.heap.size blk w (w.alloc (.cells #[] 42))) := Kp.of_below (below1 w _)
  have hz0 := sz1 w (.cells #[] 42)
  have HZ0 := hide hz0
  clear h hz0
  go_enter Tryz.func81, Tryz.ntmps81
  go_wp2_with fail
  refine (pick_any _ blk p 8 (unhide HR0) (by have := unhide HZ0; omega) (by omega) (by omega)).mono ?_
  generalize w.alloc _ = W0 at *
  rintro e w1 ⟨v1, rfl, v10, v11, hr1, hk1⟩
  have HR1 := hide hr1
  have HK1 : Hid (Kp w.heap.size blk w w1) := (unhide HK0).trans hk1 (unhide HK0).size
  clear hr1 hk1 HR0 HK0
  go_wp2_with fail
  go_loopw [3, 4] (fun o n w' => ∃ (l : List Ix.Pg) (j : Int) (q : Nat), n = .int .i64 j ∧ 0 ≤ j ∧ (l.length : Int) + j ≤ 7 ∧ (q : Int) + 42 * j ≤ p + 300 ∧ Pks (fun b => w.heap.size ≤ b) w' o l ∧ Rd B w' blk q ∧ Kp w.heap.size blk w w') (fun _ n _ => (intOf n).toNat)
  case atStart => exact ⟨[], v1, p + 1, rfl, v10, by simp; omega, by omega, Pks.nil _ _ _, unhide HR1, unhide HK1⟩
  case round =>
    clear HR1 HK1 HZ0
    clear W0
    obtain ⟨l, j, q, rfl, j0, hlen, hq, hpk, hr, hkp⟩ := hrel
    have HP := hide hpk
    have HR := hide hr
    have HK := hide hkp
    have hsz := hkp.size
    clear hpk hr hkp v10 v11
    obtain ⟨a, c, hv⟩ := (unhide HP).slice
    subst hv
    by_cases hgo : 0 < j
    · go_wp2_with fail
      refine (pick_any _ blk q 4 (unhide HR) (by omega) (by omega) (by omega)).mono ?_
      rintro e w2 ⟨v2, rfl, v20, v21, hr2, hk2⟩
      have HP2 := hide ((unhide HP).kp hk2 hlt)
      have HK2 := hide ((unhide HK).trans hk2 (unhide HK).size)
      have HR2 := hide hr2
      have hsz2 := (unhide HK2).size
      clear HP HR HK hr2 hk2
      have e2 : IntKind.i64.wrap (1 + v2) = 1 + v2 := wrap_small v20 (by omega)
      go_wp2_with fail
      refine (pick_any _ blk (q + 1) 3 (unhide HR2) (by omega) (by omega) (by omega)).mono ?_
      rintro e w3 ⟨v3, rfl, v30, v31, hr3, hk3⟩
      have HP3 := hide ((unhide HP2).kp hk3 hlt)
      have HK3 := hide ((unhide HK2).trans hk3 (unhide HK2).size)
      have HR3 := hide hr3
      have hsz3 := (unhide HK3).size
      clear HP2 HR2 HK2 hr3 hk3
      have e3 : IntKind.i64.wrap (1 + v3) = 1 + v3 := wrap_small v30 (by omega)
      go_wp2_with fail
      refine (l71Pkg_any _ blk (q + 1 + 1) (1 + v2) (1 + v3) (unhide HR3) (by omega) (by omega)).mono ?_
      rintro e w4 ⟨fv, dv, fs, ds, q4, rfl, hf2, hd2, hq4, of4, od4, hr4, hk4⟩
      have hN : ∀ b, w3.heap.size ≤ b → w.heap.size ≤ b := fun b hb => Nat.le_trans hsz3 hb
      have HF4 := hide (PrsN.own of4 (by omega) hN)
      have HD4 := hide (PrsN.own od4 (by omega) hN)
      have HP4 := hide ((unhide HP3).kp hk4 hlt)
      have HK4 := hide ((unhide HK3).trans hk4 (unhide HK3).size)
      have HR4 := hide hr4
      have hsz4 := (unhide HK4).size
      obtain ⟨fa, fc, hfv⟩ := (unhide HF4).slice
      obtain ⟨da, dc, hdv⟩ := (unhide HD4).slice
      subst hfv hdv
      clear HP3 HR3 HK3 of4 od4 hr4 hk4
      have HB5 := hide (below1 w4 (.cells #[.int .i64 (1 + v2), .int .i64 (1 + v3), .slice fa fs.length fc, .slice da ds.length dc] 42))
      have HP5 := hide ((unhide HP4).later (unhide HB5))
      have HF5 := hide ((unhide HF4).later (unhide HB5))
      have HD5 := hide ((unhide HD4).later (unhide HB5))
      have HR5 := hide ((unhide HR4).later (by omega) (unhide HB5))
      have HK5 := hide ((unhide HK4).trans (Kp.of_below (blk := blk) (unhide HB5)) (unhide HK4).size)
      have hsz5 := (unhide HK5).size
      obtain ⟨z5, y0, y1, y2, y3⟩ := box4i' w4 (.int .i64 (1 + v2)) (.int .i64 (1 + v3)) (.slice fa fs.length fc) (.slice da ds.length dc) 42
      have HZ5 := hide z5
      clear HP4 HF4 HD4 HR4 HK4 z5
      go_wp2_with fail
      refine (l12Find_any _ _ l (1 + v2) (1 + v3) (unhide HP5)).mono ?_
      generalize w4.alloc _ = W5 at *
      rintro e w6 ⟨rfl, r, rfl, hfind⟩
      rcases hfind with ⟨rfl, hno⟩ | ⟨r0, r1, _⟩
      · clear hno
        go_wp2_with fail
        refine (l12With_any _ _ l (1 + v2, 1 + v3, fs, ds) _ _ (unhide HP5) (unhide HF5) (unhide HD5) (by omega)).mono ?_
        rintro e w7 ⟨ov, els, rfl, hpo, hmap, hb7⟩
        have HP7 : Hid (Pks (fun b => w.heap.size ≤ b) w7 ov (Ix.wth l (1 + v2, 1 + v3, fs, ds))) := by
          have h1 := wthlen hmap (Ix.wth_len1 l (1 + v2, 1 + v3, fs, ds))
          have h2 := hpo.pks (fun b hb => Nat.le_trans hsz5 hb) (by omega)
          rw [hmap] at h2
          exact h2
        have hwl := Ix.wth_len1 l (1 + v2, 1 + v3, fs, ds)
        have HR7 := hide ((unhide HR5).later (by omega) hb7)
        have HK7 := hide ((unhide HK5).trans (Kp.of_below (blk := blk) hb7) (unhide HK5).size)
        generalize Ix.wth l (1 + v2, 1 + v3, fs, ds) = l7 at *
        clear hpo hmap hb7 HP5 HF5 HD5 HR5 HK5
        go_wp2
        go_roundw
        case rel => exact ⟨l7, j - 1, q4, by go_num, by omega, by omega, by omega, unhide HP7, unhide HR7, unhide HK7⟩
        case measure => simp [intOf]; omega
      · have r0' : ¬ r < 0 := by omega
        go_wp2
        go_roundw
        case rel => exact ⟨l, j - 1, q4, by go_num, by omega, by omega, by omega, unhide HP5, unhide HR5, unhide HK5⟩
        case measure => simp [intOf]; omega
    · obtain rfl : j = 0 := by omega
      go_wp2
      go_ret
      exact ⟨.slice a l.length c, rfl, l, unhide HP, by omega, q, by omega, unhide HR, unhide HK⟩
end Go.Proofs.YtlnieobmhofkdaaGreatDoor
