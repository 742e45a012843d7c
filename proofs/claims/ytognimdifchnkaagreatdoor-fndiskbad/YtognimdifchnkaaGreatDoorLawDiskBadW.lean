import Derived.Test.YtognimdifchnkaaGreatDoorMix24
/- The walk of FnDiskBad: it returns true and leaves what was there; for every row of bytes. -/
namespace Go.Proofs.YtognimdifchnkaaGreatDoor
open Go.RowKit

attribute [local go_sem ↓] Go.wp_at_zero Go.wp_at_succ

theorem bad5 (d : Dk.D) : Dk.doA d ⟨5, 0, 0, []⟩ = (⟨[], [], false, []⟩, false) := doA_no (fun h => by have h2 := h.2; revert h2; decide +kernel)
theorem bad6 (d : Dk.D) : Dk.tearA d ⟨2, 6, 0, []⟩ = (⟨[], [], false, []⟩, false) := tearA_no (fun h => by have h2 := h.2; revert h2; decide +kernel)
theorem bad1 (d : Dk.D) : Dk.doA d ⟨3, 0, 0, [(1, 1, [], [(2, 1)])]⟩ = (⟨[], [], false, []⟩, false) := doA_no (fun h => by have h2 := h.2; revert h2; decide +kernel)
theorem SIn.nil (w : World) (k p x : Int) : SIn w ⟨k, p, x, []⟩ (.slice none 0 0) := ⟨pks_nil _ _ _, fun _ _ _ => Nat.zero_le _⟩
theorem one_pkg {w : World} {g1 g2 : Nat} (h1 : w.heap[g1]? = some (.cells #[.int .i64 2, .int .i64 1] 38 (0, 0))) (h2 : w.heap[g2]? = some (.cells #[.int .i64 1, .int .i64 1, .slice none 0 0, .slice (some ⟨g1, 0, none⟩) 1 1] 42 (0, 0))) :
    SIn w ⟨3, 0, 0, [(1, 1, [], [(2, 1)])]⟩ (.slice (some ⟨g2, 0, none⟩) 1 1) := by
  refine ⟨⟨some ⟨g2, 0, none⟩, 1, rfl, by decide, fun _ => ⟨g2, 0, rfl, heapLt h2, trivial, fun i hi => ?_⟩⟩, fun a c e => by injection e with _ _ e; rw [← e]; exact Nat.le_refl _⟩
  obtain rfl : i = 0 := by
    have : i < 1 := hi
    omega
  refine ⟨.slice none 0 0, .slice (some ⟨g1, 0, none⟩) 1 1, ⟨cellOf h2 0, cellOf h2 1, cellOf h2 2, cellOf h2 3⟩, ⟨none, 0, rfl, by decide, fun h => absurd h (Nat.lt_irrefl 0)⟩, ⟨some ⟨g1, 0, none⟩, 1, rfl, by decide, fun _ => ⟨g1, 0, rfl, heapLt h1, trivial, fun j hj => ?_⟩⟩⟩
  obtain rfl : j = 0 := by
    have : j < 1 := hj
    omega
  exact ⟨cellOf h1 0, cellOf h1 1⟩

set_option linter.unusedSimpArgs false in
set_option maxHeartbeats 16000000 in
set_option maxRecDepth 100000 in
theorem diskBad_walk (w : World) (a : Option Addr) (len cap : Nat) (h : Bytes w a len cap) :
    Calls Tryz.prog 4 #[.slice a len cap] w fun e w' => e = .returned (.bool true) ∧ Below w.heap.size w w' := by
  by_cases hbig : (1048576 : Int) < (len : Int)
  · go_enter Tryz.func4, Tryz.ntmps4
    go_wp2
    go_ret
    exact ⟨rfl, Below.refl _ _⟩
  have CD := hide (drawDiskDo_any w a len cap h)
  clear h
  go_enter Tryz.func4, Tryz.ntmps4
  go_wp2_with fail
  refine (unhide CD).mono ?_
  rintro e u0 ⟨D, v1, uf, v2, s, pv, rfl, hd, hs, b1⟩
  obtain ⟨db, fl, has, jr⟩ := D
  obtain ⟨sk, sp, sx, sps⟩ := s
  obtain ⟨pa, px, pb, py, pc, pz, i1, i2, i3⟩ := hd.forms
  obtain ⟨sa, sc, i4⟩ := hs.p.slice
  dsimp only at i1 i2 i3 i4
  subst i1 i2 i3 i4
  obtain ⟨k0, k1, k2⟩ := two_boxesD u0 (.cells #[.slice pa db.length px, .slice pb fl.length py, .bool has, .slice pc jr.length pz] 26) (.cells #[.int .i64 sk, .int .i64 sp, .int .i64 sx, .slice sa sps.length sc] 28)
  have HB3 := hide k1
  have HB4 := hide k2
  have HD3 := hide (hd.later k0)
  have HS4 := hide (hs.later k0)
  have BW := hide (b1.trans (k0.mono b1.size))
  clear hd hs b1 k0 k1 k2 CD
  dsimp only [dkV, stV]
  by_cases hok : Dk.D.ok ⟨db, fl, has, jr⟩ = true
  rotate_left
  · have hA := doA_no (s := ⟨sk, sp, sx, sps⟩) (fun h => hok h.1)
    generalize (⟨[], [], false, []⟩ : Dk.D) = D2 at hA
    obtain ⟨db2, fl2, has2, jr2⟩ := D2
    have CI := hide (fun (W : World) (v1 uf v2 pv : Value) (x : DIn W ⟨db, fl, has, jr⟩ v1 uf v2) (y : SIn W ⟨sk, sp, sx, sps⟩ pv) => implDo_in W ⟨db, fl, has, jr⟩ ⟨sk, sp, sx, sps⟩ v1 uf v2 pv x y)
    rw [hA] at CI
    dsimp only at CI
    have CS := hide (fun (W : World) (v1 uf v2 pv : Value) (x : DIn W ⟨db, fl, has, jr⟩ v1 uf v2) (y : SIn W ⟨sk, sp, sx, sps⟩ pv) => specDo_in W ⟨db, fl, has, jr⟩ ⟨sk, sp, sx, sps⟩ v1 uf v2 pv x y)
    rw [hA] at CS
    dsimp only at CS
    have HK : Hid (Dk.D.ok ⟨db, fl, has, jr⟩ = false) := by show _ = _; simpa using hok
    clear hA hok
    go_wp2_with fail
    generalize hX : u0.heap.size = X3 at *
    clear hX
    generalize World.alloc _ _ = u1 at *
    obtain ⟨x30, x31, x32, x33⟩ : _ ∧ _ ∧ _ ∧ _ := ⟨cellOf (unhide HB3) 0, cellOf (unhide HB3) 1, cellOf (unhide HB3) 2, cellOf (unhide HB3) 3⟩
    obtain ⟨x40, x41, x42, x43⟩ : _ ∧ _ ∧ _ ∧ _ := ⟨cellOf (unhide HB4) 0, cellOf (unhide HB4) 1, cellOf (unhide HB4) 2, cellOf (unhide HB4) 3⟩
    refine ((unhide CS) _ _ _ _ _ (unhide HD3) (unhide HS4)).mono ?_
    rintro e u2 ⟨q1, qf, q2, rfl, hd, b⟩
    replace HB3 := hide ((b.block _ (heapLt (unhide HB3))).trans (unhide HB3))
    replace HB4 := hide ((b.block _ (heapLt (unhide HB4))).trans (unhide HB4))
    replace HD3 := hide ((unhide HD3).later b)
    replace HS4 := hide ((unhide HS4).later b)
    replace BW := hide ((unhide BW).trans (b.mono (unhide BW).size))
    clear b
    clear x30 x31 x32 x33
    clear x40 x41 x42 x43
    obtain ⟨qa, qx, qb, qy, qc, qz, i1, i2, i3⟩ := hd.forms
    (try dsimp only at i1 i2 i3)
    subst i1 i2 i3
    have HD5 := hide hd
    clear hd
    dsimp only [dkV]
    have bX := below1 u2 (.cells #[.slice qa db2.length qx, .slice qb fl2.length qy, .bool has2, .slice qc jr2.length qz] 26)
    have HB5 := hide (heap_alloc_new u2 (.cells #[.slice qa db2.length qx, .slice qb fl2.length qy, .bool has2, .slice qc jr2.length qz] 26))
    replace HB3 := hide ((bX.block _ (heapLt (unhide HB3))).trans (unhide HB3))
    replace HB4 := hide ((bX.block _ (heapLt (unhide HB4))).trans (unhide HB4))
    replace HD3 := hide ((unhide HD3).later bX)
    replace HD5 := hide ((unhide HD5).later bX)
    replace HS4 := hide ((unhide HS4).later bX)
    replace BW := hide ((unhide BW).trans (bX.mono (unhide BW).size))
    clear bX
    obtain ⟨x30, x31, x32, x33⟩ : _ ∧ _ ∧ _ ∧ _ := ⟨cellOf (unhide HB3) 0, cellOf (unhide HB3) 1, cellOf (unhide HB3) 2, cellOf (unhide HB3) 3⟩
    obtain ⟨x40, x41, x42, x43⟩ : _ ∧ _ ∧ _ ∧ _ := ⟨cellOf (unhide HB4) 0, cellOf (unhide HB4) 1, cellOf (unhide HB4) 2, cellOf (unhide HB4) 3⟩
    go_wp2_with fail
    generalize u2.heap.size = X5 at *
    generalize u2.alloc _ = u3 at *
    refine ((unhide CI) _ _ _ _ _ (unhide HD3) (unhide HS4)).mono ?_
    rintro e u4 ⟨q1, qf, q2, rfl, hd, b⟩
    replace HB3 := hide ((b.block _ (heapLt (unhide HB3))).trans (unhide HB3))
    replace HB4 := hide ((b.block _ (heapLt (unhide HB4))).trans (unhide HB4))
    replace HB5 := hide ((b.block _ (heapLt (unhide HB5))).trans (unhide HB5))
    replace HD3 := hide ((unhide HD3).later b)
    replace HD5 := hide ((unhide HD5).later b)
    replace HS4 := hide ((unhide HS4).later b)
    replace BW := hide ((unhide BW).trans (b.mono (unhide BW).size))
    clear b
    clear x30 x31 x32 x33
    clear x40 x41 x42 x43
    obtain ⟨ra, rx, rb, ry, rc, rz, i1, i2, i3⟩ := hd.forms
    (try dsimp only at i1 i2 i3)
    subst i1 i2 i3
    have HD7 := hide hd
    clear hd
    dsimp only [dkV]
    have bX := below1 u4 (.cells #[.slice ra db2.length rx, .slice rb fl2.length ry, .bool has2, .slice rc jr2.length rz] 26)
    have HB7 := hide (heap_alloc_new u4 (.cells #[.slice ra db2.length rx, .slice rb fl2.length ry, .bool has2, .slice rc jr2.length rz] 26))
    replace HB3 := hide ((bX.block _ (heapLt (unhide HB3))).trans (unhide HB3))
    replace HB4 := hide ((bX.block _ (heapLt (unhide HB4))).trans (unhide HB4))
    replace HB5 := hide ((bX.block _ (heapLt (unhide HB5))).trans (unhide HB5))
    replace HD3 := hide ((unhide HD3).later bX)
    replace HD5 := hide ((unhide HD5).later bX)
    replace HD7 := hide ((unhide HD7).later bX)
    replace HS4 := hide ((unhide HS4).later bX)
    replace BW := hide ((unhide BW).trans (bX.mono (unhide BW).size))
    clear bX
    obtain ⟨x70, x71, x72, x73⟩ : _ ∧ _ ∧ _ ∧ _ := ⟨cellOf (unhide HB7) 0, cellOf (unhide HB7) 1, cellOf (unhide HB7) 2, cellOf (unhide HB7) 3⟩
    obtain ⟨x50, x51, x52, x53⟩ : _ ∧ _ ∧ _ ∧ _ := ⟨cellOf (unhide HB5) 0, cellOf (unhide HB5) 1, cellOf (unhide HB5) 2, cellOf (unhide HB5) 3⟩
    go_wp2_with fail
    generalize u4.heap.size = X7 at *
    generalize u4.alloc _ = u5 at *
    refine (luDisk_in _ ⟨db2, fl2, has2, jr2⟩ _ _ _ _ _ _ (unhide HD7) (unhide HD5)).mono ?_
    rintro e u6 ⟨rfl, b⟩
    replace HB3 := hide ((b.block _ (heapLt (unhide HB3))).trans (unhide HB3))
    replace HB4 := hide ((b.block _ (heapLt (unhide HB4))).trans (unhide HB4))
    replace HB5 := hide ((b.block _ (heapLt (unhide HB5))).trans (unhide HB5))
    replace HB7 := hide ((b.block _ (heapLt (unhide HB7))).trans (unhide HB7))
    replace HD3 := hide ((unhide HD3).later b)
    replace HD5 := hide ((unhide HD5).later b)
    replace HD7 := hide ((unhide HD7).later b)
    replace HS4 := hide ((unhide HS4).later b)
    replace BW := hide ((unhide BW).trans (b.mono (unhide BW).size))
    clear b
    clear x70 x71 x72 x73
    clear x50 x51 x52 x53
    obtain ⟨x30, x31, x32, x33⟩ : _ ∧ _ ∧ _ ∧ _ := ⟨cellOf (unhide HB3) 0, cellOf (unhide HB3) 1, cellOf (unhide HB3) 2, cellOf (unhide HB3) 3⟩
    go_wp2_with fail
    refine (specDiskOk_any _ ⟨db, fl, has, jr⟩ _ _ _ (unhide HD3).p1 (unhide HD3).pf (unhide HD3).p2).mono ?_
    rintro e u7 ⟨rfl, b⟩
    replace HB3 := hide ((b.block _ (heapLt (unhide HB3))).trans (unhide HB3))
    replace HB4 := hide ((b.block _ (heapLt (unhide HB4))).trans (unhide HB4))
    replace HB5 := hide ((b.block _ (heapLt (unhide HB5))).trans (unhide HB5))
    replace HB7 := hide ((b.block _ (heapLt (unhide HB7))).trans (unhide HB7))
    replace HD3 := hide ((unhide HD3).later b)
    replace HD5 := hide ((unhide HD5).later b)
    replace HD7 := hide ((unhide HD7).later b)
    replace HS4 := hide ((unhide HS4).later b)
    replace BW := hide ((unhide BW).trans (b.mono (unhide BW).size))
    clear b
    clear x30 x31 x32 x33
    rw [unhide HK]
    obtain ⟨x70, x71, x72, x73⟩ : _ ∧ _ ∧ _ ∧ _ := ⟨cellOf (unhide HB7) 0, cellOf (unhide HB7) 1, cellOf (unhide HB7) 2, cellOf (unhide HB7) 3⟩
    obtain ⟨x50, x51, x52, x53⟩ : _ ∧ _ ∧ _ ∧ _ := ⟨cellOf (unhide HB5) 0, cellOf (unhide HB5) 1, cellOf (unhide HB5) 2, cellOf (unhide HB5) 3⟩
    go_wp2_with fail
    refine (luDisk_in _ ⟨db2, fl2, has2, jr2⟩ _ _ _ _ _ _ (unhide HD7) (unhide HD5)).mono ?_
    rintro e u8 ⟨rfl, b⟩
    replace HB3 := hide ((b.block _ (heapLt (unhide HB3))).trans (unhide HB3))
    replace HB4 := hide ((b.block _ (heapLt (unhide HB4))).trans (unhide HB4))
    replace HB5 := hide ((b.block _ (heapLt (unhide HB5))).trans (unhide HB5))
    replace HB7 := hide ((b.block _ (heapLt (unhide HB7))).trans (unhide HB7))
    replace HD3 := hide ((unhide HD3).later b)
    replace HD5 := hide ((unhide HD5).later b)
    replace HD7 := hide ((unhide HD7).later b)
    replace HS4 := hide ((unhide HS4).later b)
    replace BW := hide ((unhide BW).trans (b.mono (unhide BW).size))
    clear b
    go_wp2
    go_ret
    exact ⟨rfl, unhide BW⟩
  by_cases hsok : Dk.S.ok ⟨sk, sp, sx, sps⟩ = true
  · have hA := doA_yes hok hsok
    have hT := tearA_yes hok hsok
    generalize Dk.D.step ⟨db, fl, has, jr⟩ ⟨sk, sp, sx, sps⟩ = D2 at *
    generalize Dk.D.torn ⟨db, fl, has, jr⟩ ⟨sk, sp, sx, sps⟩ = D9 at *
    obtain ⟨db2, fl2, has2, jr2⟩ := D2
    obtain ⟨db9, fl9, has9, jr9⟩ := D9
    have CI := hide (fun (W : World) (v1 uf v2 pv : Value) (x : DIn W ⟨db, fl, has, jr⟩ v1 uf v2) (y : SIn W ⟨sk, sp, sx, sps⟩ pv) => implDo_in W ⟨db, fl, has, jr⟩ ⟨sk, sp, sx, sps⟩ v1 uf v2 pv x y)
    rw [hA] at CI
    dsimp only at CI
    have CS := hide (fun (W : World) (v1 uf v2 pv : Value) (x : DIn W ⟨db, fl, has, jr⟩ v1 uf v2) (y : SIn W ⟨sk, sp, sx, sps⟩ pv) => specDo_in W ⟨db, fl, has, jr⟩ ⟨sk, sp, sx, sps⟩ v1 uf v2 pv x y)
    rw [hA] at CS
    dsimp only at CS
    have CT := hide (fun (W : World) (v1 uf v2 pv : Value) (x : DIn W ⟨db, fl, has, jr⟩ v1 uf v2) (y : SIn W ⟨sk, sp, sx, sps⟩ pv) => implTear_in W ⟨db, fl, has, jr⟩ ⟨sk, sp, sx, sps⟩ v1 uf v2 pv x y)
    rw [hT] at CT
    (try dsimp only at CT)
    have h5 := bad5 ⟨db, fl, has, jr⟩
    have h6 := bad6 ⟨db, fl, has, jr⟩
    have h7 := bad1 ⟨db, fl, has, jr⟩
    generalize (⟨[], [], false, []⟩ : Dk.D) = E5 at h5
    obtain ⟨dbe5, fle5, hase5, jre5⟩ := E5
    generalize (⟨[], [], false, []⟩ : Dk.D) = E6 at h6
    obtain ⟨dbe6, fle6, hase6, jre6⟩ := E6
    generalize (⟨[], [], false, []⟩ : Dk.D) = E7 at h7
    obtain ⟨dbe7, fle7, hase7, jre7⟩ := E7
    have C5 := hide (fun (W : World) (v1 uf v2 pv : Value) (x : DIn W ⟨db, fl, has, jr⟩ v1 uf v2) (y : SIn W ⟨5, 0, 0, []⟩ pv) => implDo_in W ⟨db, fl, has, jr⟩ ⟨5, 0, 0, []⟩ v1 uf v2 pv x y)
    rw [h5] at C5
    (try dsimp only at C5)
    have C6 := hide (fun (W : World) (v1 uf v2 pv : Value) (x : DIn W ⟨db, fl, has, jr⟩ v1 uf v2) (y : SIn W ⟨2, 6, 0, []⟩ pv) => implTear_in W ⟨db, fl, has, jr⟩ ⟨2, 6, 0, []⟩ v1 uf v2 pv x y)
    rw [h6] at C6
    (try dsimp only at C6)
    have C7 := hide (fun (W : World) (v1 uf v2 pv : Value) (x : DIn W ⟨db, fl, has, jr⟩ v1 uf v2) (y : SIn W ⟨3, 0, 0, [(1, 1, [], [(2, 1)])]⟩ pv) => implDo_in W ⟨db, fl, has, jr⟩ ⟨3, 0, 0, [(1, 1, [], [(2, 1)])]⟩ v1 uf v2 pv x y)
    rw [h7] at C7
    (try dsimp only at C7)
    have HK : Hid (Dk.D.ok ⟨db, fl, has, jr⟩ = true) := hok
    clear hA hT h5 h6 h7 hok hsok
    go_wp2_with fail
    generalize hX : u0.heap.size = X3 at *
    clear hX
    generalize World.alloc _ _ = u1 at *
    obtain ⟨x30, x31, x32, x33⟩ : _ ∧ _ ∧ _ ∧ _ := ⟨cellOf (unhide HB3) 0, cellOf (unhide HB3) 1, cellOf (unhide HB3) 2, cellOf (unhide HB3) 3⟩
    obtain ⟨x40, x41, x42, x43⟩ : _ ∧ _ ∧ _ ∧ _ := ⟨cellOf (unhide HB4) 0, cellOf (unhide HB4) 1, cellOf (unhide HB4) 2, cellOf (unhide HB4) 3⟩
    refine ((unhide CS) _ _ _ _ _ (unhide HD3) (unhide HS4)).mono ?_
    rintro e u2 ⟨q1, qf, q2, rfl, hd, b⟩
    replace HB3 := hide ((b.block _ (heapLt (unhide HB3))).trans (unhide HB3))
    replace HB4 := hide ((b.block _ (heapLt (unhide HB4))).trans (unhide HB4))
    replace HD3 := hide ((unhide HD3).later b)
    replace HS4 := hide ((unhide HS4).later b)
    replace BW := hide ((unhide BW).trans (b.mono (unhide BW).size))
    clear b
    clear x30 x31 x32 x33
    clear x40 x41 x42 x43
    obtain ⟨qa, qx, qb, qy, qc, qz, i1, i2, i3⟩ := hd.forms
    (try dsimp only at i1 i2 i3)
    subst i1 i2 i3
    have HD5 := hide hd
    clear hd
    dsimp only [dkV]
    have bX := below1 u2 (.cells #[.slice qa db2.length qx, .slice qb fl2.length qy, .bool has2, .slice qc jr2.length qz] 26)
    have HB5 := hide (heap_alloc_new u2 (.cells #[.slice qa db2.length qx, .slice qb fl2.length qy, .bool has2, .slice qc jr2.length qz] 26))
    replace HB3 := hide ((bX.block _ (heapLt (unhide HB3))).trans (unhide HB3))
    replace HB4 := hide ((bX.block _ (heapLt (unhide HB4))).trans (unhide HB4))
    replace HD3 := hide ((unhide HD3).later bX)
    replace HD5 := hide ((unhide HD5).later bX)
    replace HS4 := hide ((unhide HS4).later bX)
    replace BW := hide ((unhide BW).trans (bX.mono (unhide BW).size))
    clear bX
    obtain ⟨x30, x31, x32, x33⟩ : _ ∧ _ ∧ _ ∧ _ := ⟨cellOf (unhide HB3) 0, cellOf (unhide HB3) 1, cellOf (unhide HB3) 2, cellOf (unhide HB3) 3⟩
    obtain ⟨x40, x41, x42, x43⟩ : _ ∧ _ ∧ _ ∧ _ := ⟨cellOf (unhide HB4) 0, cellOf (unhide HB4) 1, cellOf (unhide HB4) 2, cellOf (unhide HB4) 3⟩
    go_wp2_with fail
    generalize u2.heap.size = X5 at *
    generalize u2.alloc _ = u3 at *
    refine ((unhide CI) _ _ _ _ _ (unhide HD3) (unhide HS4)).mono ?_
    rintro e u4 ⟨q1, qf, q2, rfl, hd, b⟩
    replace HB3 := hide ((b.block _ (heapLt (unhide HB3))).trans (unhide HB3))
    replace HB4 := hide ((b.block _ (heapLt (unhide HB4))).trans (unhide HB4))
    replace HB5 := hide ((b.block _ (heapLt (unhide HB5))).trans (unhide HB5))
    replace HD3 := hide ((unhide HD3).later b)
    replace HD5 := hide ((unhide HD5).later b)
    replace HS4 := hide ((unhide HS4).later b)
    replace BW := hide ((unhide BW).trans (b.mono (unhide BW).size))
    clear b
    clear x30 x31 x32 x33
    clear x40 x41 x42 x43
    obtain ⟨ra, rx, rb, ry, rc, rz, i1, i2, i3⟩ := hd.forms
    (try dsimp only at i1 i2 i3)
    subst i1 i2 i3
    have HD7 := hide hd
    clear hd
    dsimp only [dkV]
    have bX := below1 u4 (.cells #[.slice ra db2.length rx, .slice rb fl2.length ry, .bool has2, .slice rc jr2.length rz] 26)
    have HB7 := hide (heap_alloc_new u4 (.cells #[.slice ra db2.length rx, .slice rb fl2.length ry, .bool has2, .slice rc jr2.length rz] 26))
    replace HB3 := hide ((bX.block _ (heapLt (unhide HB3))).trans (unhide HB3))
    replace HB4 := hide ((bX.block _ (heapLt (unhide HB4))).trans (unhide HB4))
    replace HB5 := hide ((bX.block _ (heapLt (unhide HB5))).trans (unhide HB5))
    replace HD3 := hide ((unhide HD3).later bX)
    replace HD5 := hide ((unhide HD5).later bX)
    replace HD7 := hide ((unhide HD7).later bX)
    replace HS4 := hide ((unhide HS4).later bX)
    replace BW := hide ((unhide BW).trans (bX.mono (unhide BW).size))
    clear bX
    obtain ⟨x70, x71, x72, x73⟩ : _ ∧ _ ∧ _ ∧ _ := ⟨cellOf (unhide HB7) 0, cellOf (unhide HB7) 1, cellOf (unhide HB7) 2, cellOf (unhide HB7) 3⟩
    obtain ⟨x50, x51, x52, x53⟩ : _ ∧ _ ∧ _ ∧ _ := ⟨cellOf (unhide HB5) 0, cellOf (unhide HB5) 1, cellOf (unhide HB5) 2, cellOf (unhide HB5) 3⟩
    go_wp2_with fail
    generalize u4.heap.size = X7 at *
    generalize u4.alloc _ = u5 at *
    refine (luDisk_in _ ⟨db2, fl2, has2, jr2⟩ _ _ _ _ _ _ (unhide HD7) (unhide HD5)).mono ?_
    rintro e u6 ⟨rfl, b⟩
    replace HB3 := hide ((b.block _ (heapLt (unhide HB3))).trans (unhide HB3))
    replace HB4 := hide ((b.block _ (heapLt (unhide HB4))).trans (unhide HB4))
    replace HB5 := hide ((b.block _ (heapLt (unhide HB5))).trans (unhide HB5))
    replace HB7 := hide ((b.block _ (heapLt (unhide HB7))).trans (unhide HB7))
    replace HD3 := hide ((unhide HD3).later b)
    replace HD5 := hide ((unhide HD5).later b)
    replace HD7 := hide ((unhide HD7).later b)
    replace HS4 := hide ((unhide HS4).later b)
    replace BW := hide ((unhide BW).trans (b.mono (unhide BW).size))
    clear b
    clear x70 x71 x72 x73
    clear x50 x51 x52 x53
    obtain ⟨x30, x31, x32, x33⟩ : _ ∧ _ ∧ _ ∧ _ := ⟨cellOf (unhide HB3) 0, cellOf (unhide HB3) 1, cellOf (unhide HB3) 2, cellOf (unhide HB3) 3⟩
    go_wp2_with fail
    refine (specDiskOk_any _ ⟨db, fl, has, jr⟩ _ _ _ (unhide HD3).p1 (unhide HD3).pf (unhide HD3).p2).mono ?_
    rintro e u7 ⟨rfl, b⟩
    replace HB3 := hide ((b.block _ (heapLt (unhide HB3))).trans (unhide HB3))
    replace HB4 := hide ((b.block _ (heapLt (unhide HB4))).trans (unhide HB4))
    replace HB5 := hide ((b.block _ (heapLt (unhide HB5))).trans (unhide HB5))
    replace HB7 := hide ((b.block _ (heapLt (unhide HB7))).trans (unhide HB7))
    replace HD3 := hide ((unhide HD3).later b)
    replace HD5 := hide ((unhide HD5).later b)
    replace HD7 := hide ((unhide HD7).later b)
    replace HS4 := hide ((unhide HS4).later b)
    replace BW := hide ((unhide BW).trans (b.mono (unhide BW).size))
    clear b
    clear x30 x31 x32 x33
    rw [unhide HK]
    obtain ⟨x30, x31, x32, x33⟩ : _ ∧ _ ∧ _ ∧ _ := ⟨cellOf (unhide HB3) 0, cellOf (unhide HB3) 1, cellOf (unhide HB3) 2, cellOf (unhide HB3) 3⟩
    obtain ⟨x40, x41, x42, x43⟩ : _ ∧ _ ∧ _ ∧ _ := ⟨cellOf (unhide HB4) 0, cellOf (unhide HB4) 1, cellOf (unhide HB4) 2, cellOf (unhide HB4) 3⟩
    go_wp2_with fail
    refine ((unhide CT) _ _ _ _ _ (unhide HD3) (unhide HS4)).mono ?_
    rintro e u8 ⟨q1, qf, q2, rfl, hd, b⟩
    replace HB3 := hide ((b.block _ (heapLt (unhide HB3))).trans (unhide HB3))
    replace HB4 := hide ((b.block _ (heapLt (unhide HB4))).trans (unhide HB4))
    replace HB5 := hide ((b.block _ (heapLt (unhide HB5))).trans (unhide HB5))
    replace HB7 := hide ((b.block _ (heapLt (unhide HB7))).trans (unhide HB7))
    replace HD3 := hide ((unhide HD3).later b)
    replace HD5 := hide ((unhide HD5).later b)
    replace HD7 := hide ((unhide HD7).later b)
    replace HS4 := hide ((unhide HS4).later b)
    replace BW := hide ((unhide BW).trans (b.mono (unhide BW).size))
    clear b
    obtain ⟨ta, tx, tb, ty, tc, tz, i1, i2, i3⟩ := hd.forms
    (try dsimp only at i1 i2 i3)
    subst i1 i2 i3
    have HD9 := hide hd
    clear hd
    (try dsimp only [dkV])
    have bX := below1 u8 (.cells #[.slice ta db9.length tx, .slice tb fl9.length ty, .bool has9, .slice tc jr9.length tz] 26)
    have HB9 := hide (heap_alloc_new u8 (.cells #[.slice ta db9.length tx, .slice tb fl9.length ty, .bool has9, .slice tc jr9.length tz] 26))
    replace HB3 := hide ((bX.block _ (heapLt (unhide HB3))).trans (unhide HB3))
    replace HB4 := hide ((bX.block _ (heapLt (unhide HB4))).trans (unhide HB4))
    replace HB5 := hide ((bX.block _ (heapLt (unhide HB5))).trans (unhide HB5))
    replace HB7 := hide ((bX.block _ (heapLt (unhide HB7))).trans (unhide HB7))
    replace HD3 := hide ((unhide HD3).later bX)
    replace HD5 := hide ((unhide HD5).later bX)
    replace HD7 := hide ((unhide HD7).later bX)
    replace HD9 := hide ((unhide HD9).later bX)
    replace HS4 := hide ((unhide HS4).later bX)
    replace BW := hide ((unhide BW).trans (bX.mono (unhide BW).size))
    clear bX
    clear x30 x31 x32 x33
    clear x40 x41 x42 x43
    obtain ⟨x30, x31, x32, x33⟩ : _ ∧ _ ∧ _ ∧ _ := ⟨cellOf (unhide HB3) 0, cellOf (unhide HB3) 1, cellOf (unhide HB3) 2, cellOf (unhide HB3) 3⟩
    go_wp2_with fail
    generalize u8.heap.size = X9 at *
    generalize u8.alloc _ = u9 at *
    refine ((unhide C5) _ _ _ _ _ (unhide HD3) (SIn.nil _ _ _ _)).mono ?_
    rintro e u10 ⟨q1, qf, q2, rfl, hd, b⟩
    replace HB3 := hide ((b.block _ (heapLt (unhide HB3))).trans (unhide HB3))
    replace HB4 := hide ((b.block _ (heapLt (unhide HB4))).trans (unhide HB4))
    replace HB5 := hide ((b.block _ (heapLt (unhide HB5))).trans (unhide HB5))
    replace HB7 := hide ((b.block _ (heapLt (unhide HB7))).trans (unhide HB7))
    replace HB9 := hide ((b.block _ (heapLt (unhide HB9))).trans (unhide HB9))
    replace HD3 := hide ((unhide HD3).later b)
    replace HD5 := hide ((unhide HD5).later b)
    replace HD7 := hide ((unhide HD7).later b)
    replace HD9 := hide ((unhide HD9).later b)
    replace HS4 := hide ((unhide HS4).later b)
    replace BW := hide ((unhide BW).trans (b.mono (unhide BW).size))
    clear b
    obtain ⟨ya, yx, yb, yy, yc, yz, i1, i2, i3⟩ := hd.forms
    (try dsimp only at i1 i2 i3)
    subst i1 i2 i3
    have HD11 := hide hd
    clear hd
    (try dsimp only [dkV])
    have bX := below1 u10 (.cells #[.slice ya dbe5.length yx, .slice yb fle5.length yy, .bool hase5, .slice yc jre5.length yz] 26)
    have HB11 := hide (heap_alloc_new u10 (.cells #[.slice ya dbe5.length yx, .slice yb fle5.length yy, .bool hase5, .slice yc jre5.length yz] 26))
    replace HB3 := hide ((bX.block _ (heapLt (unhide HB3))).trans (unhide HB3))
    replace HB4 := hide ((bX.block _ (heapLt (unhide HB4))).trans (unhide HB4))
    replace HB5 := hide ((bX.block _ (heapLt (unhide HB5))).trans (unhide HB5))
    replace HB7 := hide ((bX.block _ (heapLt (unhide HB7))).trans (unhide HB7))
    replace HB9 := hide ((bX.block _ (heapLt (unhide HB9))).trans (unhide HB9))
    replace HD3 := hide ((unhide HD3).later bX)
    replace HD5 := hide ((unhide HD5).later bX)
    replace HD7 := hide ((unhide HD7).later bX)
    replace HD9 := hide ((unhide HD9).later bX)
    replace HD11 := hide ((unhide HD11).later bX)
    replace HS4 := hide ((unhide HS4).later bX)
    replace BW := hide ((unhide BW).trans (bX.mono (unhide BW).size))
    clear bX
    clear x30 x31 x32 x33
    obtain ⟨x30, x31, x32, x33⟩ : _ ∧ _ ∧ _ ∧ _ := ⟨cellOf (unhide HB3) 0, cellOf (unhide HB3) 1, cellOf (unhide HB3) 2, cellOf (unhide HB3) 3⟩
    go_wp2_with fail
    generalize u10.heap.size = X11 at *
    generalize u10.alloc _ = u11 at *
    refine ((unhide C6) _ _ _ _ _ (unhide HD3) (SIn.nil _ _ _ _)).mono ?_
    rintro e u12 ⟨q1, qf, q2, rfl, hd, b⟩
    replace HB3 := hide ((b.block _ (heapLt (unhide HB3))).trans (unhide HB3))
    replace HB4 := hide ((b.block _ (heapLt (unhide HB4))).trans (unhide HB4))
    replace HB5 := hide ((b.block _ (heapLt (unhide HB5))).trans (unhide HB5))
    replace HB7 := hide ((b.block _ (heapLt (unhide HB7))).trans (unhide HB7))
    replace HB9 := hide ((b.block _ (heapLt (unhide HB9))).trans (unhide HB9))
    replace HB11 := hide ((b.block _ (heapLt (unhide HB11))).trans (unhide HB11))
    replace HD3 := hide ((unhide HD3).later b)
    replace HD5 := hide ((unhide HD5).later b)
    replace HD7 := hide ((unhide HD7).later b)
    replace HD9 := hide ((unhide HD9).later b)
    replace HD11 := hide ((unhide HD11).later b)
    replace HS4 := hide ((unhide HS4).later b)
    replace BW := hide ((unhide BW).trans (b.mono (unhide BW).size))
    clear b
    obtain ⟨va, vx, vb, vy, vc, vz, i1, i2, i3⟩ := hd.forms
    (try dsimp only at i1 i2 i3)
    subst i1 i2 i3
    have HD13 := hide hd
    clear hd
    (try dsimp only [dkV])
    have bX := below1 u12 (.cells #[.slice va dbe6.length vx, .slice vb fle6.length vy, .bool hase6, .slice vc jre6.length vz] 26)
    have HB13 := hide (heap_alloc_new u12 (.cells #[.slice va dbe6.length vx, .slice vb fle6.length vy, .bool hase6, .slice vc jre6.length vz] 26))
    replace HB3 := hide ((bX.block _ (heapLt (unhide HB3))).trans (unhide HB3))
    replace HB4 := hide ((bX.block _ (heapLt (unhide HB4))).trans (unhide HB4))
    replace HB5 := hide ((bX.block _ (heapLt (unhide HB5))).trans (unhide HB5))
    replace HB7 := hide ((bX.block _ (heapLt (unhide HB7))).trans (unhide HB7))
    replace HB9 := hide ((bX.block _ (heapLt (unhide HB9))).trans (unhide HB9))
    replace HB11 := hide ((bX.block _ (heapLt (unhide HB11))).trans (unhide HB11))
    replace HD3 := hide ((unhide HD3).later bX)
    replace HD5 := hide ((unhide HD5).later bX)
    replace HD7 := hide ((unhide HD7).later bX)
    replace HD9 := hide ((unhide HD9).later bX)
    replace HD11 := hide ((unhide HD11).later bX)
    replace HD13 := hide ((unhide HD13).later bX)
    replace HS4 := hide ((unhide HS4).later bX)
    replace BW := hide ((unhide BW).trans (bX.mono (unhide BW).size))
    clear bX
    clear x30 x31 x32 x33
    go_upto_region 11 with fail
    generalize u12.heap.size = X13 at *
    generalize u12.alloc _ = u13 at *
    obtain ⟨x30, x31, x32, x33⟩ : _ ∧ _ ∧ _ ∧ _ := ⟨cellOf (unhide HB3) 0, cellOf (unhide HB3) 1, cellOf (unhide HB3) 2, cellOf (unhide HB3) 3⟩
    obtain ⟨k0, k1, k2⟩ := two_boxesD u13 (.cells #[.int .i64 2, .int .i64 1] 38) (.cells #[.int .i64 1, .int .i64 1, .slice none 0 0, .slice (some ⟨u13.heap.size, 0, none⟩) 1 1] 42)
    have HSP := hide (one_pkg k1 k2)
    replace HB3 := hide ((k0.block _ (heapLt (unhide HB3))).trans (unhide HB3))
    replace HB4 := hide ((k0.block _ (heapLt (unhide HB4))).trans (unhide HB4))
    replace HB5 := hide ((k0.block _ (heapLt (unhide HB5))).trans (unhide HB5))
    replace HB7 := hide ((k0.block _ (heapLt (unhide HB7))).trans (unhide HB7))
    replace HB9 := hide ((k0.block _ (heapLt (unhide HB9))).trans (unhide HB9))
    replace HB11 := hide ((k0.block _ (heapLt (unhide HB11))).trans (unhide HB11))
    replace HB13 := hide ((k0.block _ (heapLt (unhide HB13))).trans (unhide HB13))
    replace HD3 := hide ((unhide HD3).later k0)
    replace HD5 := hide ((unhide HD5).later k0)
    replace HD7 := hide ((unhide HD7).later k0)
    replace HD9 := hide ((unhide HD9).later k0)
    replace HD11 := hide ((unhide HD11).later k0)
    replace HD13 := hide ((unhide HD13).later k0)
    replace HS4 := hide ((unhide HS4).later k0)
    replace BW := hide ((unhide BW).trans (k0.mono (unhide BW).size))
    clear k0 k1 k2
    go_wp2_with fail
    refine ((unhide C7) _ _ _ _ _ (unhide HD3) (unhide HSP)).mono ?_
    rintro e u14 ⟨q1, qf, q2, rfl, hd, b⟩
    replace HB3 := hide ((b.block _ (heapLt (unhide HB3))).trans (unhide HB3))
    replace HB4 := hide ((b.block _ (heapLt (unhide HB4))).trans (unhide HB4))
    replace HB5 := hide ((b.block _ (heapLt (unhide HB5))).trans (unhide HB5))
    replace HB7 := hide ((b.block _ (heapLt (unhide HB7))).trans (unhide HB7))
    replace HB9 := hide ((b.block _ (heapLt (unhide HB9))).trans (unhide HB9))
    replace HB11 := hide ((b.block _ (heapLt (unhide HB11))).trans (unhide HB11))
    replace HB13 := hide ((b.block _ (heapLt (unhide HB13))).trans (unhide HB13))
    replace HD3 := hide ((unhide HD3).later b)
    replace HD5 := hide ((unhide HD5).later b)
    replace HD7 := hide ((unhide HD7).later b)
    replace HD9 := hide ((unhide HD9).later b)
    replace HD11 := hide ((unhide HD11).later b)
    replace HD13 := hide ((unhide HD13).later b)
    replace HS4 := hide ((unhide HS4).later b)
    replace BW := hide ((unhide BW).trans (b.mono (unhide BW).size))
    clear b
    obtain ⟨ma, mx, mb, my, mc, mz, i1, i2, i3⟩ := hd.forms
    (try dsimp only at i1 i2 i3)
    subst i1 i2 i3
    clear hd x30 x31 x32 x33
    (try dsimp only [dkV])
    have BWn := hide ((unhide BW).trans ((below1 u14 (.cells #[.slice ma dbe7.length mx, .slice mb fle7.length my, .bool hase7, .slice mc jre7.length mz] 26)).mono (unhide BW).size))
    go_wp2
    go_ret
    exact ⟨rfl, unhide BWn⟩
  · have hA := doA_no (d := ⟨db, fl, has, jr⟩) (fun h => hsok h.2)
    have hT := tearA_no (d := ⟨db, fl, has, jr⟩) (fun h => hsok h.2)
    generalize (⟨[], [], false, []⟩ : Dk.D) = D2 at hA
    generalize (⟨[], [], false, []⟩ : Dk.D) = D9 at hT
    obtain ⟨db2, fl2, has2, jr2⟩ := D2
    obtain ⟨db9, fl9, has9, jr9⟩ := D9
    have CI := hide (fun (W : World) (v1 uf v2 pv : Value) (x : DIn W ⟨db, fl, has, jr⟩ v1 uf v2) (y : SIn W ⟨sk, sp, sx, sps⟩ pv) => implDo_in W ⟨db, fl, has, jr⟩ ⟨sk, sp, sx, sps⟩ v1 uf v2 pv x y)
    rw [hA] at CI
    dsimp only at CI
    have CS := hide (fun (W : World) (v1 uf v2 pv : Value) (x : DIn W ⟨db, fl, has, jr⟩ v1 uf v2) (y : SIn W ⟨sk, sp, sx, sps⟩ pv) => specDo_in W ⟨db, fl, has, jr⟩ ⟨sk, sp, sx, sps⟩ v1 uf v2 pv x y)
    rw [hA] at CS
    dsimp only at CS
    have CT := hide (fun (W : World) (v1 uf v2 pv : Value) (x : DIn W ⟨db, fl, has, jr⟩ v1 uf v2) (y : SIn W ⟨sk, sp, sx, sps⟩ pv) => implTear_in W ⟨db, fl, has, jr⟩ ⟨sk, sp, sx, sps⟩ v1 uf v2 pv x y)
    rw [hT] at CT
    (try dsimp only at CT)
    have h5 := bad5 ⟨db, fl, has, jr⟩
    have h6 := bad6 ⟨db, fl, has, jr⟩
    have h7 := bad1 ⟨db, fl, has, jr⟩
    generalize (⟨[], [], false, []⟩ : Dk.D) = E5 at h5
    obtain ⟨dbe5, fle5, hase5, jre5⟩ := E5
    generalize (⟨[], [], false, []⟩ : Dk.D) = E6 at h6
    obtain ⟨dbe6, fle6, hase6, jre6⟩ := E6
    generalize (⟨[], [], false, []⟩ : Dk.D) = E7 at h7
    obtain ⟨dbe7, fle7, hase7, jre7⟩ := E7
    have C5 := hide (fun (W : World) (v1 uf v2 pv : Value) (x : DIn W ⟨db, fl, has, jr⟩ v1 uf v2) (y : SIn W ⟨5, 0, 0, []⟩ pv) => implDo_in W ⟨db, fl, has, jr⟩ ⟨5, 0, 0, []⟩ v1 uf v2 pv x y)
    rw [h5] at C5
    (try dsimp only at C5)
    have C6 := hide (fun (W : World) (v1 uf v2 pv : Value) (x : DIn W ⟨db, fl, has, jr⟩ v1 uf v2) (y : SIn W ⟨2, 6, 0, []⟩ pv) => implTear_in W ⟨db, fl, has, jr⟩ ⟨2, 6, 0, []⟩ v1 uf v2 pv x y)
    rw [h6] at C6
    (try dsimp only at C6)
    have C7 := hide (fun (W : World) (v1 uf v2 pv : Value) (x : DIn W ⟨db, fl, has, jr⟩ v1 uf v2) (y : SIn W ⟨3, 0, 0, [(1, 1, [], [(2, 1)])]⟩ pv) => implDo_in W ⟨db, fl, has, jr⟩ ⟨3, 0, 0, [(1, 1, [], [(2, 1)])]⟩ v1 uf v2 pv x y)
    rw [h7] at C7
    (try dsimp only at C7)
    have HK : Hid (Dk.D.ok ⟨db, fl, has, jr⟩ = true) := hok
    clear hA hT h5 h6 h7 hok hsok
    go_wp2_with fail
    generalize hX : u0.heap.size = X3 at *
    clear hX
    generalize World.alloc _ _ = u1 at *
    obtain ⟨x30, x31, x32, x33⟩ : _ ∧ _ ∧ _ ∧ _ := ⟨cellOf (unhide HB3) 0, cellOf (unhide HB3) 1, cellOf (unhide HB3) 2, cellOf (unhide HB3) 3⟩
    obtain ⟨x40, x41, x42, x43⟩ : _ ∧ _ ∧ _ ∧ _ := ⟨cellOf (unhide HB4) 0, cellOf (unhide HB4) 1, cellOf (unhide HB4) 2, cellOf (unhide HB4) 3⟩
    refine ((unhide CS) _ _ _ _ _ (unhide HD3) (unhide HS4)).mono ?_
    rintro e u2 ⟨q1, qf, q2, rfl, hd, b⟩
    replace HB3 := hide ((b.block _ (heapLt (unhide HB3))).trans (unhide HB3))
    replace HB4 := hide ((b.block _ (heapLt (unhide HB4))).trans (unhide HB4))
    replace HD3 := hide ((unhide HD3).later b)
    replace HS4 := hide ((unhide HS4).later b)
    replace BW := hide ((unhide BW).trans (b.mono (unhide BW).size))
    clear b
    clear x30 x31 x32 x33
    clear x40 x41 x42 x43
    obtain ⟨qa, qx, qb, qy, qc, qz, i1, i2, i3⟩ := hd.forms
    (try dsimp only at i1 i2 i3)
    subst i1 i2 i3
    have HD5 := hide hd
    clear hd
    dsimp only [dkV]
    have bX := below1 u2 (.cells #[.slice qa db2.length qx, .slice qb fl2.length qy, .bool has2, .slice qc jr2.length qz] 26)
    have HB5 := hide (heap_alloc_new u2 (.cells #[.slice qa db2.length qx, .slice qb fl2.length qy, .bool has2, .slice qc jr2.length qz] 26))
    replace HB3 := hide ((bX.block _ (heapLt (unhide HB3))).trans (unhide HB3))
    replace HB4 := hide ((bX.block _ (heapLt (unhide HB4))).trans (unhide HB4))
    replace HD3 := hide ((unhide HD3).later bX)
    replace HD5 := hide ((unhide HD5).later bX)
    replace HS4 := hide ((unhide HS4).later bX)
    replace BW := hide ((unhide BW).trans (bX.mono (unhide BW).size))
    clear bX
    obtain ⟨x30, x31, x32, x33⟩ : _ ∧ _ ∧ _ ∧ _ := ⟨cellOf (unhide HB3) 0, cellOf (unhide HB3) 1, cellOf (unhide HB3) 2, cellOf (unhide HB3) 3⟩
    obtain ⟨x40, x41, x42, x43⟩ : _ ∧ _ ∧ _ ∧ _ := ⟨cellOf (unhide HB4) 0, cellOf (unhide HB4) 1, cellOf (unhide HB4) 2, cellOf (unhide HB4) 3⟩
    go_wp2_with fail
    generalize u2.heap.size = X5 at *
    generalize u2.alloc _ = u3 at *
    refine ((unhide CI) _ _ _ _ _ (unhide HD3) (unhide HS4)).mono ?_
    rintro e u4 ⟨q1, qf, q2, rfl, hd, b⟩
    replace HB3 := hide ((b.block _ (heapLt (unhide HB3))).trans (unhide HB3))
    replace HB4 := hide ((b.block _ (heapLt (unhide HB4))).trans (unhide HB4))
    replace HB5 := hide ((b.block _ (heapLt (unhide HB5))).trans (unhide HB5))
    replace HD3 := hide ((unhide HD3).later b)
    replace HD5 := hide ((unhide HD5).later b)
    replace HS4 := hide ((unhide HS4).later b)
    replace BW := hide ((unhide BW).trans (b.mono (unhide BW).size))
    clear b
    clear x30 x31 x32 x33
    clear x40 x41 x42 x43
    obtain ⟨ra, rx, rb, ry, rc, rz, i1, i2, i3⟩ := hd.forms
    (try dsimp only at i1 i2 i3)
    subst i1 i2 i3
    have HD7 := hide hd
    clear hd
    dsimp only [dkV]
    have bX := below1 u4 (.cells #[.slice ra db2.length rx, .slice rb fl2.length ry, .bool has2, .slice rc jr2.length rz] 26)
    have HB7 := hide (heap_alloc_new u4 (.cells #[.slice ra db2.length rx, .slice rb fl2.length ry, .bool has2, .slice rc jr2.length rz] 26))
    replace HB3 := hide ((bX.block _ (heapLt (unhide HB3))).trans (unhide HB3))
    replace HB4 := hide ((bX.block _ (heapLt (unhide HB4))).trans (unhide HB4))
    replace HB5 := hide ((bX.block _ (heapLt (unhide HB5))).trans (unhide HB5))
    replace HD3 := hide ((unhide HD3).later bX)
    replace HD5 := hide ((unhide HD5).later bX)
    replace HD7 := hide ((unhide HD7).later bX)
    replace HS4 := hide ((unhide HS4).later bX)
    replace BW := hide ((unhide BW).trans (bX.mono (unhide BW).size))
    clear bX
    obtain ⟨x70, x71, x72, x73⟩ : _ ∧ _ ∧ _ ∧ _ := ⟨cellOf (unhide HB7) 0, cellOf (unhide HB7) 1, cellOf (unhide HB7) 2, cellOf (unhide HB7) 3⟩
    obtain ⟨x50, x51, x52, x53⟩ : _ ∧ _ ∧ _ ∧ _ := ⟨cellOf (unhide HB5) 0, cellOf (unhide HB5) 1, cellOf (unhide HB5) 2, cellOf (unhide HB5) 3⟩
    go_wp2_with fail
    generalize u4.heap.size = X7 at *
    generalize u4.alloc _ = u5 at *
    refine (luDisk_in _ ⟨db2, fl2, has2, jr2⟩ _ _ _ _ _ _ (unhide HD7) (unhide HD5)).mono ?_
    rintro e u6 ⟨rfl, b⟩
    replace HB3 := hide ((b.block _ (heapLt (unhide HB3))).trans (unhide HB3))
    replace HB4 := hide ((b.block _ (heapLt (unhide HB4))).trans (unhide HB4))
    replace HB5 := hide ((b.block _ (heapLt (unhide HB5))).trans (unhide HB5))
    replace HB7 := hide ((b.block _ (heapLt (unhide HB7))).trans (unhide HB7))
    replace HD3 := hide ((unhide HD3).later b)
    replace HD5 := hide ((unhide HD5).later b)
    replace HD7 := hide ((unhide HD7).later b)
    replace HS4 := hide ((unhide HS4).later b)
    replace BW := hide ((unhide BW).trans (b.mono (unhide BW).size))
    clear b
    clear x70 x71 x72 x73
    clear x50 x51 x52 x53
    obtain ⟨x30, x31, x32, x33⟩ : _ ∧ _ ∧ _ ∧ _ := ⟨cellOf (unhide HB3) 0, cellOf (unhide HB3) 1, cellOf (unhide HB3) 2, cellOf (unhide HB3) 3⟩
    go_wp2_with fail
    refine (specDiskOk_any _ ⟨db, fl, has, jr⟩ _ _ _ (unhide HD3).p1 (unhide HD3).pf (unhide HD3).p2).mono ?_
    rintro e u7 ⟨rfl, b⟩
    replace HB3 := hide ((b.block _ (heapLt (unhide HB3))).trans (unhide HB3))
    replace HB4 := hide ((b.block _ (heapLt (unhide HB4))).trans (unhide HB4))
    replace HB5 := hide ((b.block _ (heapLt (unhide HB5))).trans (unhide HB5))
    replace HB7 := hide ((b.block _ (heapLt (unhide HB7))).trans (unhide HB7))
    replace HD3 := hide ((unhide HD3).later b)
    replace HD5 := hide ((unhide HD5).later b)
    replace HD7 := hide ((unhide HD7).later b)
    replace HS4 := hide ((unhide HS4).later b)
    replace BW := hide ((unhide BW).trans (b.mono (unhide BW).size))
    clear b
    clear x30 x31 x32 x33
    rw [unhide HK]
    obtain ⟨x30, x31, x32, x33⟩ : _ ∧ _ ∧ _ ∧ _ := ⟨cellOf (unhide HB3) 0, cellOf (unhide HB3) 1, cellOf (unhide HB3) 2, cellOf (unhide HB3) 3⟩
    obtain ⟨x40, x41, x42, x43⟩ : _ ∧ _ ∧ _ ∧ _ := ⟨cellOf (unhide HB4) 0, cellOf (unhide HB4) 1, cellOf (unhide HB4) 2, cellOf (unhide HB4) 3⟩
    go_wp2_with fail
    refine ((unhide CT) _ _ _ _ _ (unhide HD3) (unhide HS4)).mono ?_
    rintro e u8 ⟨q1, qf, q2, rfl, hd, b⟩
    replace HB3 := hide ((b.block _ (heapLt (unhide HB3))).trans (unhide HB3))
    replace HB4 := hide ((b.block _ (heapLt (unhide HB4))).trans (unhide HB4))
    replace HB5 := hide ((b.block _ (heapLt (unhide HB5))).trans (unhide HB5))
    replace HB7 := hide ((b.block _ (heapLt (unhide HB7))).trans (unhide HB7))
    replace HD3 := hide ((unhide HD3).later b)
    replace HD5 := hide ((unhide HD5).later b)
    replace HD7 := hide ((unhide HD7).later b)
    replace HS4 := hide ((unhide HS4).later b)
    replace BW := hide ((unhide BW).trans (b.mono (unhide BW).size))
    clear b
    obtain ⟨ta, tx, tb, ty, tc, tz, i1, i2, i3⟩ := hd.forms
    (try dsimp only at i1 i2 i3)
    subst i1 i2 i3
    have HD9 := hide hd
    clear hd
    (try dsimp only [dkV])
    have bX := below1 u8 (.cells #[.slice ta db9.length tx, .slice tb fl9.length ty, .bool has9, .slice tc jr9.length tz] 26)
    have HB9 := hide (heap_alloc_new u8 (.cells #[.slice ta db9.length tx, .slice tb fl9.length ty, .bool has9, .slice tc jr9.length tz] 26))
    replace HB3 := hide ((bX.block _ (heapLt (unhide HB3))).trans (unhide HB3))
    replace HB4 := hide ((bX.block _ (heapLt (unhide HB4))).trans (unhide HB4))
    replace HB5 := hide ((bX.block _ (heapLt (unhide HB5))).trans (unhide HB5))
    replace HB7 := hide ((bX.block _ (heapLt (unhide HB7))).trans (unhide HB7))
    replace HD3 := hide ((unhide HD3).later bX)
    replace HD5 := hide ((unhide HD5).later bX)
    replace HD7 := hide ((unhide HD7).later bX)
    replace HD9 := hide ((unhide HD9).later bX)
    replace HS4 := hide ((unhide HS4).later bX)
    replace BW := hide ((unhide BW).trans (bX.mono (unhide BW).size))
    clear bX
    clear x30 x31 x32 x33
    clear x40 x41 x42 x43
    obtain ⟨x30, x31, x32, x33⟩ : _ ∧ _ ∧ _ ∧ _ := ⟨cellOf (unhide HB3) 0, cellOf (unhide HB3) 1, cellOf (unhide HB3) 2, cellOf (unhide HB3) 3⟩
    go_wp2_with fail
    generalize u8.heap.size = X9 at *
    generalize u8.alloc _ = u9 at *
    refine ((unhide C5) _ _ _ _ _ (unhide HD3) (SIn.nil _ _ _ _)).mono ?_
    rintro e u10 ⟨q1, qf, q2, rfl, hd, b⟩
    replace HB3 := hide ((b.block _ (heapLt (unhide HB3))).trans (unhide HB3))
    replace HB4 := hide ((b.block _ (heapLt (unhide HB4))).trans (unhide HB4))
    replace HB5 := hide ((b.block _ (heapLt (unhide HB5))).trans (unhide HB5))
    replace HB7 := hide ((b.block _ (heapLt (unhide HB7))).trans (unhide HB7))
    replace HB9 := hide ((b.block _ (heapLt (unhide HB9))).trans (unhide HB9))
    replace HD3 := hide ((unhide HD3).later b)
    replace HD5 := hide ((unhide HD5).later b)
    replace HD7 := hide ((unhide HD7).later b)
    replace HD9 := hide ((unhide HD9).later b)
    replace HS4 := hide ((unhide HS4).later b)
    replace BW := hide ((unhide BW).trans (b.mono (unhide BW).size))
    clear b
    obtain ⟨ya, yx, yb, yy, yc, yz, i1, i2, i3⟩ := hd.forms
    (try dsimp only at i1 i2 i3)
    subst i1 i2 i3
    have HD11 := hide hd
    clear hd
    (try dsimp only [dkV])
    have bX := below1 u10 (.cells #[.slice ya dbe5.length yx, .slice yb fle5.length yy, .bool hase5, .slice yc jre5.length yz] 26)
    have HB11 := hide (heap_alloc_new u10 (.cells #[.slice ya dbe5.length yx, .slice yb fle5.length yy, .bool hase5, .slice yc jre5.length yz] 26))
    replace HB3 := hide ((bX.block _ (heapLt (unhide HB3))).trans (unhide HB3))
    replace HB4 := hide ((bX.block _ (heapLt (unhide HB4))).trans (unhide HB4))
    replace HB5 := hide ((bX.block _ (heapLt (unhide HB5))).trans (unhide HB5))
    replace HB7 := hide ((bX.block _ (heapLt (unhide HB7))).trans (unhide HB7))
    replace HB9 := hide ((bX.block _ (heapLt (unhide HB9))).trans (unhide HB9))
    replace HD3 := hide ((unhide HD3).later bX)
    replace HD5 := hide ((unhide HD5).later bX)
    replace HD7 := hide ((unhide HD7).later bX)
    replace HD9 := hide ((unhide HD9).later bX)
    replace HD11 := hide ((unhide HD11).later bX)
    replace HS4 := hide ((unhide HS4).later bX)
    replace BW := hide ((unhide BW).trans (bX.mono (unhide BW).size))
    clear bX
    clear x30 x31 x32 x33
    obtain ⟨x30, x31, x32, x33⟩ : _ ∧ _ ∧ _ ∧ _ := ⟨cellOf (unhide HB3) 0, cellOf (unhide HB3) 1, cellOf (unhide HB3) 2, cellOf (unhide HB3) 3⟩
    go_wp2_with fail
    generalize u10.heap.size = X11 at *
    generalize u10.alloc _ = u11 at *
    refine ((unhide C6) _ _ _ _ _ (unhide HD3) (SIn.nil _ _ _ _)).mono ?_
    rintro e u12 ⟨q1, qf, q2, rfl, hd, b⟩
    replace HB3 := hide ((b.block _ (heapLt (unhide HB3))).trans (unhide HB3))
    replace HB4 := hide ((b.block _ (heapLt (unhide HB4))).trans (unhide HB4))
    replace HB5 := hide ((b.block _ (heapLt (unhide HB5))).trans (unhide HB5))
    replace HB7 := hide ((b.block _ (heapLt (unhide HB7))).trans (unhide HB7))
    replace HB9 := hide ((b.block _ (heapLt (unhide HB9))).trans (unhide HB9))
    replace HB11 := hide ((b.block _ (heapLt (unhide HB11))).trans (unhide HB11))
    replace HD3 := hide ((unhide HD3).later b)
    replace HD5 := hide ((unhide HD5).later b)
    replace HD7 := hide ((unhide HD7).later b)
    replace HD9 := hide ((unhide HD9).later b)
    replace HD11 := hide ((unhide HD11).later b)
    replace HS4 := hide ((unhide HS4).later b)
    replace BW := hide ((unhide BW).trans (b.mono (unhide BW).size))
    clear b
    obtain ⟨va, vx, vb, vy, vc, vz, i1, i2, i3⟩ := hd.forms
    (try dsimp only at i1 i2 i3)
    subst i1 i2 i3
    have HD13 := hide hd
    clear hd
    (try dsimp only [dkV])
    have bX := below1 u12 (.cells #[.slice va dbe6.length vx, .slice vb fle6.length vy, .bool hase6, .slice vc jre6.length vz] 26)
    have HB13 := hide (heap_alloc_new u12 (.cells #[.slice va dbe6.length vx, .slice vb fle6.length vy, .bool hase6, .slice vc jre6.length vz] 26))
    replace HB3 := hide ((bX.block _ (heapLt (unhide HB3))).trans (unhide HB3))
    replace HB4 := hide ((bX.block _ (heapLt (unhide HB4))).trans (unhide HB4))
    replace HB5 := hide ((bX.block _ (heapLt (unhide HB5))).trans (unhide HB5))
    replace HB7 := hide ((bX.block _ (heapLt (unhide HB7))).trans (unhide HB7))
    replace HB9 := hide ((bX.block _ (heapLt (unhide HB9))).trans (unhide HB9))
    replace HB11 := hide ((bX.block _ (heapLt (unhide HB11))).trans (unhide HB11))
    replace HD3 := hide ((unhide HD3).later bX)
    replace HD5 := hide ((unhide HD5).later bX)
    replace HD7 := hide ((unhide HD7).later bX)
    replace HD9 := hide ((unhide HD9).later bX)
    replace HD11 := hide ((unhide HD11).later bX)
    replace HD13 := hide ((unhide HD13).later bX)
    replace HS4 := hide ((unhide HS4).later bX)
    replace BW := hide ((unhide BW).trans (bX.mono (unhide BW).size))
    clear bX
    clear x30 x31 x32 x33
    go_upto_region 11 with fail
    generalize u12.heap.size = X13 at *
    generalize u12.alloc _ = u13 at *
    obtain ⟨x30, x31, x32, x33⟩ : _ ∧ _ ∧ _ ∧ _ := ⟨cellOf (unhide HB3) 0, cellOf (unhide HB3) 1, cellOf (unhide HB3) 2, cellOf (unhide HB3) 3⟩
    obtain ⟨k0, k1, k2⟩ := two_boxesD u13 (.cells #[.int .i64 2, .int .i64 1] 38) (.cells #[.int .i64 1, .int .i64 1, .slice none 0 0, .slice (some ⟨u13.heap.size, 0, none⟩) 1 1] 42)
    have HSP := hide (one_pkg k1 k2)
    replace HB3 := hide ((k0.block _ (heapLt (unhide HB3))).trans (unhide HB3))
    replace HB4 := hide ((k0.block _ (heapLt (unhide HB4))).trans (unhide HB4))
    replace HB5 := hide ((k0.block _ (heapLt (unhide HB5))).trans (unhide HB5))
    replace HB7 := hide ((k0.block _ (heapLt (unhide HB7))).trans (unhide HB7))
    replace HB9 := hide ((k0.block _ (heapLt (unhide HB9))).trans (unhide HB9))
    replace HB11 := hide ((k0.block _ (heapLt (unhide HB11))).trans (unhide HB11))
    replace HB13 := hide ((k0.block _ (heapLt (unhide HB13))).trans (unhide HB13))
    replace HD3 := hide ((unhide HD3).later k0)
    replace HD5 := hide ((unhide HD5).later k0)
    replace HD7 := hide ((unhide HD7).later k0)
    replace HD9 := hide ((unhide HD9).later k0)
    replace HD11 := hide ((unhide HD11).later k0)
    replace HD13 := hide ((unhide HD13).later k0)
    replace HS4 := hide ((unhide HS4).later k0)
    replace BW := hide ((unhide BW).trans (k0.mono (unhide BW).size))
    clear k0 k1 k2
    go_wp2_with fail
    refine ((unhide C7) _ _ _ _ _ (unhide HD3) (unhide HSP)).mono ?_
    rintro e u14 ⟨q1, qf, q2, rfl, hd, b⟩
    replace HB3 := hide ((b.block _ (heapLt (unhide HB3))).trans (unhide HB3))
    replace HB4 := hide ((b.block _ (heapLt (unhide HB4))).trans (unhide HB4))
    replace HB5 := hide ((b.block _ (heapLt (unhide HB5))).trans (unhide HB5))
    replace HB7 := hide ((b.block _ (heapLt (unhide HB7))).trans (unhide HB7))
    replace HB9 := hide ((b.block _ (heapLt (unhide HB9))).trans (unhide HB9))
    replace HB11 := hide ((b.block _ (heapLt (unhide HB11))).trans (unhide HB11))
    replace HB13 := hide ((b.block _ (heapLt (unhide HB13))).trans (unhide HB13))
    replace HD3 := hide ((unhide HD3).later b)
    replace HD5 := hide ((unhide HD5).later b)
    replace HD7 := hide ((unhide HD7).later b)
    replace HD9 := hide ((unhide HD9).later b)
    replace HD11 := hide ((unhide HD11).later b)
    replace HD13 := hide ((unhide HD13).later b)
    replace HS4 := hide ((unhide HS4).later b)
    replace BW := hide ((unhide BW).trans (b.mono (unhide BW).size))
    clear b
    obtain ⟨ma, mx, mb, my, mc, mz, i1, i2, i3⟩ := hd.forms
    (try dsimp only at i1 i2 i3)
    subst i1 i2 i3
    clear hd x30 x31 x32 x33
    (try dsimp only [dkV])
    have BWn := hide ((unhide BW).trans ((below1 u14 (.cells #[.slice ma dbe7.length mx, .slice mb fle7.length my, .bool hase7, .slice mc jre7.length mz] 26)).mono (unhide BW).size))
    go_wp2
    go_ret
    exact ⟨rfl, unhide BWn⟩
end Go.Proofs.YtognimdifchnkaaGreatDoor
