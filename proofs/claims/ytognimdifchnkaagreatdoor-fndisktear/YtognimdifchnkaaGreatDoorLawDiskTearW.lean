import Derived.Test.YtognimdifchnkaaGreatDoorMix23
/- The walk of FnDiskTear: it returns true and leaves what was there; for every row of bytes. -/
namespace Go.Proofs.YtognimdifchnkaaGreatDoor
open Go.RowKit

attribute [local go_sem ↓] Go.wp_at_zero Go.wp_at_succ

set_option linter.unusedSimpArgs false in
set_option maxHeartbeats 16000000 in
set_option maxRecDepth 100000 in
theorem diskTear_walk (w : World) (a : Option Addr) (len cap : Nat) (h : Bytes w a len cap) :
    Calls Tryz.prog 3 #[.slice a len cap] w fun e w' => e = .returned (.bool true) ∧ Below w.heap.size w w' := by
  by_cases hbig : (1048576 : Int) < (len : Int)
  · go_enter Tryz.func3, Tryz.ntmps3
    go_wp2
    go_ret
    exact ⟨rfl, Below.refl _ _⟩
  have CD := hide (drawDiskTear_any w a len cap h)
  clear h
  go_enter Tryz.func3, Tryz.ntmps3
  go_wp2_with fail
  refine (unhide CD).mono ?_
  rintro e u0 ⟨D, v1, uf, v2, s, pv, rfl, hd, hs, b1⟩
  obtain ⟨db, fl, has, jr⟩ := D
  obtain ⟨sk, sp, sx, sps⟩ := s
  obtain ⟨pa, px, pb, py, pc, pz, i1, i2, i3⟩ := hd.forms
  obtain ⟨sa, sc, i4⟩ := hs.p.slice
  dsimp only at i1 i2 i3 i4
  subst i1 i2 i3 i4
  obtain ⟨k0, k1, k2⟩ := two_boxesD u0 (.cells #[.slice pa db.length px, .slice pb fl.length py, .bool has, .slice pc jr.length pz] 26) (.cells #[.int .i64 sk, .int .i64 sp, .int .i64 sx, .slice sa sps.length sc] 28)
  have HB3 := hide k1
  have HB4 := hide k2
  have HD3 := hide (hd.later k0)
  have HS4 := hide (hs.later k0)
  have BW := hide (b1.trans (k0.mono b1.size))
  clear hd hs b1 k0 k1 k2 CD
  dsimp only [dkV, stV]
  by_cases hyes : Dk.D.ok ⟨db, fl, has, jr⟩ = true ∧ Dk.S.ok ⟨sk, sp, sx, sps⟩ = true
  rotate_left
  · have hA := tearA_no hyes
    clear hyes
    generalize (⟨[], [], false, []⟩ : Dk.D) = D2 at *
    obtain ⟨db2, fl2, has2, jr2⟩ := D2
    have CI := hide (fun (W : World) (v1 uf v2 pv : Value) (x : DIn W ⟨db, fl, has, jr⟩ v1 uf v2) (y : SIn W ⟨sk, sp, sx, sps⟩ pv) => implTear_in W ⟨db, fl, has, jr⟩ ⟨sk, sp, sx, sps⟩ v1 uf v2 pv x y)
    rw [hA] at CI
    dsimp only at CI
    have CS := hide (fun (W : World) (v1 uf v2 pv : Value) (x : DIn W ⟨db, fl, has, jr⟩ v1 uf v2) (y : SIn W ⟨sk, sp, sx, sps⟩ pv) => specTear_in W ⟨db, fl, has, jr⟩ ⟨sk, sp, sx, sps⟩ v1 uf v2 pv x y)
    rw [hA] at CS
    dsimp only at CS
    go_wp2_with fail
    generalize hX : u0.heap.size = X3 at *
    clear hX
    generalize World.alloc _ _ = u1 at *
    obtain ⟨x30, x31, x32, x33⟩ : _ ∧ _ ∧ _ ∧ _ := ⟨cellOf (unhide HB3) 0, cellOf (unhide HB3) 1, cellOf (unhide HB3) 2, cellOf (unhide HB3) 3⟩
    obtain ⟨x40, x41, x42, x43⟩ : _ ∧ _ ∧ _ ∧ _ := ⟨cellOf (unhide HB4) 0, cellOf (unhide HB4) 1, cellOf (unhide HB4) 2, cellOf (unhide HB4) 3⟩
    refine ((unhide CS) _ _ _ _ _ (unhide HD3) (unhide HS4)).mono ?_
    rintro e u2 ⟨q1, qf, q2, rfl, hd, b⟩
    replace HB3 := hide ((b.block _ (heapLt (unhide HB3))).trans (unhide HB3))
    replace HB4 := hide ((b.block _ (heapLt (unhide HB4))).trans (unhide HB4))
    replace HD3 := hide ((unhide HD3).later b)
    replace HS4 := hide ((unhide HS4).later b)
    replace BW := hide ((unhide BW).trans (b.mono (unhide BW).size))
    clear b
    clear x30 x31 x32 x33
    clear x40 x41 x42 x43
    obtain ⟨qa, qx, qb, qy, qc, qz, i1, i2, i3⟩ := hd.forms
    (try dsimp only at i1 i2 i3)
    subst i1 i2 i3
    have HD5 := hide hd
    clear hd
    dsimp only [dkV]
    have bX := below1 u2 (.cells #[.slice qa db2.length qx, .slice qb fl2.length qy, .bool has2, .slice qc jr2.length qz] 26)
    have HB5 := hide (heap_alloc_new u2 (.cells #[.slice qa db2.length qx, .slice qb fl2.length qy, .bool has2, .slice qc jr2.length qz] 26))
    replace HB3 := hide ((bX.block _ (heapLt (unhide HB3))).trans (unhide HB3))
    replace HB4 := hide ((bX.block _ (heapLt (unhide HB4))).trans (unhide HB4))
    replace HD3 := hide ((unhide HD3).later bX)
    replace HD5 := hide ((unhide HD5).later bX)
    replace HS4 := hide ((unhide HS4).later bX)
    replace BW := hide ((unhide BW).trans (bX.mono (unhide BW).size))
    clear bX
    obtain ⟨x30, x31, x32, x33⟩ : _ ∧ _ ∧ _ ∧ _ := ⟨cellOf (unhide HB3) 0, cellOf (unhide HB3) 1, cellOf (unhide HB3) 2, cellOf (unhide HB3) 3⟩
    obtain ⟨x40, x41, x42, x43⟩ : _ ∧ _ ∧ _ ∧ _ := ⟨cellOf (unhide HB4) 0, cellOf (unhide HB4) 1, cellOf (unhide HB4) 2, cellOf (unhide HB4) 3⟩
    go_wp2_with fail
    generalize u2.heap.size = X5 at *
    generalize u2.alloc _ = u3 at *
    refine ((unhide CI) _ _ _ _ _ (unhide HD3) (unhide HS4)).mono ?_
    rintro e u4 ⟨q1, qf, q2, rfl, hd, b⟩
    replace HB3 := hide ((b.block _ (heapLt (unhide HB3))).trans (unhide HB3))
    replace HB4 := hide ((b.block _ (heapLt (unhide HB4))).trans (unhide HB4))
    replace HB5 := hide ((b.block _ (heapLt (unhide HB5))).trans (unhide HB5))
    replace HD3 := hide ((unhide HD3).later b)
    replace HD5 := hide ((unhide HD5).later b)
    replace HS4 := hide ((unhide HS4).later b)
    replace BW := hide ((unhide BW).trans (b.mono (unhide BW).size))
    clear b
    clear x30 x31 x32 x33
    clear x40 x41 x42 x43
    obtain ⟨ra, rx, rb, ry, rc, rz, i1, i2, i3⟩ := hd.forms
    (try dsimp only at i1 i2 i3)
    subst i1 i2 i3
    have HD7 := hide hd
    clear hd
    dsimp only [dkV]
    have bX := below1 u4 (.cells #[.slice ra db2.length rx, .slice rb fl2.length ry, .bool has2, .slice rc jr2.length rz] 26)
    have HB7 := hide (heap_alloc_new u4 (.cells #[.slice ra db2.length rx, .slice rb fl2.length ry, .bool has2, .slice rc jr2.length rz] 26))
    replace HB3 := hide ((bX.block _ (heapLt (unhide HB3))).trans (unhide HB3))
    replace HB4 := hide ((bX.block _ (heapLt (unhide HB4))).trans (unhide HB4))
    replace HB5 := hide ((bX.block _ (heapLt (unhide HB5))).trans (unhide HB5))
    replace HD3 := hide ((unhide HD3).later bX)
    replace HD5 := hide ((unhide HD5).later bX)
    replace HD7 := hide ((unhide HD7).later bX)
    replace HS4 := hide ((unhide HS4).later bX)
    replace BW := hide ((unhide BW).trans (bX.mono (unhide BW).size))
    clear bX
    obtain ⟨x70, x71, x72, x73⟩ : _ ∧ _ ∧ _ ∧ _ := ⟨cellOf (unhide HB7) 0, cellOf (unhide HB7) 1, cellOf (unhide HB7) 2, cellOf (unhide HB7) 3⟩
    obtain ⟨x50, x51, x52, x53⟩ : _ ∧ _ ∧ _ ∧ _ := ⟨cellOf (unhide HB5) 0, cellOf (unhide HB5) 1, cellOf (unhide HB5) 2, cellOf (unhide HB5) 3⟩
    go_wp2_with fail
    generalize u4.heap.size = X7 at *
    generalize u4.alloc _ = u5 at *
    refine (luDisk_in _ ⟨db2, fl2, has2, jr2⟩ _ _ _ _ _ _ (unhide HD7) (unhide HD5)).mono ?_
    rintro e u6 ⟨rfl, b⟩
    replace HB3 := hide ((b.block _ (heapLt (unhide HB3))).trans (unhide HB3))
    replace HB4 := hide ((b.block _ (heapLt (unhide HB4))).trans (unhide HB4))
    replace HB5 := hide ((b.block _ (heapLt (unhide HB5))).trans (unhide HB5))
    replace HB7 := hide ((b.block _ (heapLt (unhide HB7))).trans (unhide HB7))
    replace HD3 := hide ((unhide HD3).later b)
    replace HD5 := hide ((unhide HD5).later b)
    replace HD7 := hide ((unhide HD7).later b)
    replace HS4 := hide ((unhide HS4).later b)
    replace BW := hide ((unhide BW).trans (b.mono (unhide BW).size))
    clear b
    clear x70 x71 x72 x73
    clear x50 x51 x52 x53
    obtain ⟨x70, x71, x72, x73⟩ : _ ∧ _ ∧ _ ∧ _ := ⟨cellOf (unhide HB7) 0, cellOf (unhide HB7) 1, cellOf (unhide HB7) 2, cellOf (unhide HB7) 3⟩
    obtain ⟨x50, x51, x52, x53⟩ : _ ∧ _ ∧ _ ∧ _ := ⟨cellOf (unhide HB5) 0, cellOf (unhide HB5) 1, cellOf (unhide HB5) 2, cellOf (unhide HB5) 3⟩
    go_wp2_with fail
    refine (luDisk_in _ ⟨db2, fl2, has2, jr2⟩ _ _ _ _ _ _ (unhide HD7) (unhide HD5)).mono ?_
    rintro e u7 ⟨rfl, b⟩
    replace HB3 := hide ((b.block _ (heapLt (unhide HB3))).trans (unhide HB3))
    replace HB4 := hide ((b.block _ (heapLt (unhide HB4))).trans (unhide HB4))
    replace HB5 := hide ((b.block _ (heapLt (unhide HB5))).trans (unhide HB5))
    replace HB7 := hide ((b.block _ (heapLt (unhide HB7))).trans (unhide HB7))
    replace HD3 := hide ((unhide HD3).later b)
    replace HD5 := hide ((unhide HD5).later b)
    replace HD7 := hide ((unhide HD7).later b)
    replace HS4 := hide ((unhide HS4).later b)
    replace BW := hide ((unhide BW).trans (b.mono (unhide BW).size))
    clear b
    go_wp2
    go_ret
    exact ⟨rfl, unhide BW⟩
  obtain ⟨hok, hsok⟩ := hyes
  obtain ⟨hkk, hpp, hxx, hps⟩ := Dk.S.ok_get hsok
  dsimp only at hkk hpp hxx hps
  rcases hkk with rfl | rfl | rfl | rfl
  · have hA := tearA_yes hok hsok
    have hO2 := Dk.ok_torn (s := ⟨1, sp, sx, sps⟩) hok
    have hA2 := doA_yes hO2 hsok
    have hA3 := doA_yes hok hsok
    rw [Dk.torn_step] at hA2
    have hT : Dk.D.torn ⟨db, fl, has, jr⟩ ⟨1, sp, sx, sps⟩ = ⟨db, fl, has, jr⟩ := rfl
    rw [hT] at hA hO2 hA2
    clear hT
    generalize Dk.D.step ⟨db, fl, has, jr⟩ ⟨1, sp, sx, sps⟩ = D3 at *
    obtain ⟨db3, fl3, has3, jr3⟩ := D3
    have CI := hide (fun (W : World) (v1 uf v2 pv : Value) (x : DIn W ⟨db, fl, has, jr⟩ v1 uf v2) (y : SIn W ⟨1, sp, sx, sps⟩ pv) => implTear_in W ⟨db, fl, has, jr⟩ ⟨1, sp, sx, sps⟩ v1 uf v2 pv x y)
    rw [hA] at CI
    dsimp only at CI
    have CS := hide (fun (W : World) (v1 uf v2 pv : Value) (x : DIn W ⟨db, fl, has, jr⟩ v1 uf v2) (y : SIn W ⟨1, sp, sx, sps⟩ pv) => specTear_in W ⟨db, fl, has, jr⟩ ⟨1, sp, sx, sps⟩ v1 uf v2 pv x y)
    rw [hA] at CS
    dsimp only at CS
    have CY := hide (fun (W : World) (v1 uf v2 pv : Value) (x : DIn W ⟨db, fl, has, jr⟩ v1 uf v2) (y : SIn W ⟨1, sp, sx, sps⟩ pv) => implDo_in W ⟨db, fl, has, jr⟩ ⟨1, sp, sx, sps⟩ v1 uf v2 pv x y)
    rw [hA2] at CY
    (try dsimp only at CY)
    have CZ := hide (fun (W : World) (v1 uf v2 pv : Value) (x : DIn W ⟨db, fl, has, jr⟩ v1 uf v2) (y : SIn W ⟨1, sp, sx, sps⟩ pv) => implDo_in W ⟨db, fl, has, jr⟩ ⟨1, sp, sx, sps⟩ v1 uf v2 pv x y)
    rw [hA3] at CZ
    (try dsimp only at CZ)
    have HO2 := hide hO2
    clear hA hA2 hA3 hO2 hok hsok hpp hxx hps
    go_wp2_with fail
    generalize hX : u0.heap.size = X3 at *
    clear hX
    generalize World.alloc _ _ = u1 at *
    obtain ⟨x30, x31, x32, x33⟩ : _ ∧ _ ∧ _ ∧ _ := ⟨cellOf (unhide HB3) 0, cellOf (unhide HB3) 1, cellOf (unhide HB3) 2, cellOf (unhide HB3) 3⟩
    obtain ⟨x40, x41, x42, x43⟩ : _ ∧ _ ∧ _ ∧ _ := ⟨cellOf (unhide HB4) 0, cellOf (unhide HB4) 1, cellOf (unhide HB4) 2, cellOf (unhide HB4) 3⟩
    refine ((unhide CS) _ _ _ _ _ (unhide HD3) (unhide HS4)).mono ?_
    rintro e u2 ⟨q1, qf, q2, rfl, hd, b⟩
    replace HB3 := hide ((b.block _ (heapLt (unhide HB3))).trans (unhide HB3))
    replace HB4 := hide ((b.block _ (heapLt (unhide HB4))).trans (unhide HB4))
    replace HD3 := hide ((unhide HD3).later b)
    replace HS4 := hide ((unhide HS4).later b)
    replace BW := hide ((unhide BW).trans (b.mono (unhide BW).size))
    clear b
    clear x30 x31 x32 x33
    clear x40 x41 x42 x43
    obtain ⟨qa, qx, qb, qy, qc, qz, i1, i2, i3⟩ := hd.forms
    (try dsimp only at i1 i2 i3)
    subst i1 i2 i3
    have HD5 := hide hd
    clear hd
    dsimp only [dkV]
    have bX := below1 u2 (.cells #[.slice qa db.length qx, .slice qb fl.length qy, .bool has, .slice qc jr.length qz] 26)
    have HB5 := hide (heap_alloc_new u2 (.cells #[.slice qa db.length qx, .slice qb fl.length qy, .bool has, .slice qc jr.length qz] 26))
    replace HB3 := hide ((bX.block _ (heapLt (unhide HB3))).trans (unhide HB3))
    replace HB4 := hide ((bX.block _ (heapLt (unhide HB4))).trans (unhide HB4))
    replace HD3 := hide ((unhide HD3).later bX)
    replace HD5 := hide ((unhide HD5).later bX)
    replace HS4 := hide ((unhide HS4).later bX)
    replace BW := hide ((unhide BW).trans (bX.mono (unhide BW).size))
    clear bX
    obtain ⟨x30, x31, x32, x33⟩ : _ ∧ _ ∧ _ ∧ _ := ⟨cellOf (unhide HB3) 0, cellOf (unhide HB3) 1, cellOf (unhide HB3) 2, cellOf (unhide HB3) 3⟩
    obtain ⟨x40, x41, x42, x43⟩ : _ ∧ _ ∧ _ ∧ _ := ⟨cellOf (unhide HB4) 0, cellOf (unhide HB4) 1, cellOf (unhide HB4) 2, cellOf (unhide HB4) 3⟩
    go_wp2_with fail
    generalize u2.heap.size = X5 at *
    generalize u2.alloc _ = u3 at *
    refine ((unhide CI) _ _ _ _ _ (unhide HD3) (unhide HS4)).mono ?_
    rintro e u4 ⟨q1, qf, q2, rfl, hd, b⟩
    replace HB3 := hide ((b.block _ (heapLt (unhide HB3))).trans (unhide HB3))
    replace HB4 := hide ((b.block _ (heapLt (unhide HB4))).trans (unhide HB4))
    replace HB5 := hide ((b.block _ (heapLt (unhide HB5))).trans (unhide HB5))
    replace HD3 := hide ((unhide HD3).later b)
    replace HD5 := hide ((unhide HD5).later b)
    replace HS4 := hide ((unhide HS4).later b)
    replace BW := hide ((unhide BW).trans (b.mono (unhide BW).size))
    clear b
    clear x30 x31 x32 x33
    clear x40 x41 x42 x43
    obtain ⟨ra, rx, rb, ry, rc, rz, i1, i2, i3⟩ := hd.forms
    (try dsimp only at i1 i2 i3)
    subst i1 i2 i3
    have HD7 := hide hd
    clear hd
    dsimp only [dkV]
    have bX := below1 u4 (.cells #[.slice ra db.length rx, .slice rb fl.length ry, .bool has, .slice rc jr.length rz] 26)
    have HB7 := hide (heap_alloc_new u4 (.cells #[.slice ra db.length rx, .slice rb fl.length ry, .bool has, .slice rc jr.length rz] 26))
    replace HB3 := hide ((bX.block _ (heapLt (unhide HB3))).trans (unhide HB3))
    replace HB4 := hide ((bX.block _ (heapLt (unhide HB4))).trans (unhide HB4))
    replace HB5 := hide ((bX.block _ (heapLt (unhide HB5))).trans (unhide HB5))
    replace HD3 := hide ((unhide HD3).later bX)
    replace HD5 := hide ((unhide HD5).later bX)
    replace HD7 := hide ((unhide HD7).later bX)
    replace HS4 := hide ((unhide HS4).later bX)
    replace BW := hide ((unhide BW).trans (bX.mono (unhide BW).size))
    clear bX
    obtain ⟨x70, x71, x72, x73⟩ : _ ∧ _ ∧ _ ∧ _ := ⟨cellOf (unhide HB7) 0, cellOf (unhide HB7) 1, cellOf (unhide HB7) 2, cellOf (unhide HB7) 3⟩
    obtain ⟨x50, x51, x52, x53⟩ : _ ∧ _ ∧ _ ∧ _ := ⟨cellOf (unhide HB5) 0, cellOf (unhide HB5) 1, cellOf (unhide HB5) 2, cellOf (unhide HB5) 3⟩
    go_wp2_with fail
    generalize u4.heap.size = X7 at *
    generalize u4.alloc _ = u5 at *
    refine (luDisk_in _ ⟨db, fl, has, jr⟩ _ _ _ _ _ _ (unhide HD7) (unhide HD5)).mono ?_
    rintro e u6 ⟨rfl, b⟩
    replace HB3 := hide ((b.block _ (heapLt (unhide HB3))).trans (unhide HB3))
    replace HB4 := hide ((b.block _ (heapLt (unhide HB4))).trans (unhide HB4))
    replace HB5 := hide ((b.block _ (heapLt (unhide HB5))).trans (unhide HB5))
    replace HB7 := hide ((b.block _ (heapLt (unhide HB7))).trans (unhide HB7))
    replace HD3 := hide ((unhide HD3).later b)
    replace HD5 := hide ((unhide HD5).later b)
    replace HD7 := hide ((unhide HD7).later b)
    replace HS4 := hide ((unhide HS4).later b)
    replace BW := hide ((unhide BW).trans (b.mono (unhide BW).size))
    clear b
    clear x70 x71 x72 x73
    clear x50 x51 x52 x53
    obtain ⟨x70, x71, x72, x73⟩ : _ ∧ _ ∧ _ ∧ _ := ⟨cellOf (unhide HB7) 0, cellOf (unhide HB7) 1, cellOf (unhide HB7) 2, cellOf (unhide HB7) 3⟩
    obtain ⟨x40, x41, x42, x43⟩ : _ ∧ _ ∧ _ ∧ _ := ⟨cellOf (unhide HB4) 0, cellOf (unhide HB4) 1, cellOf (unhide HB4) 2, cellOf (unhide HB4) 3⟩
    go_wp2_with fail
    refine ((unhide CY) _ _ _ _ _ (unhide HD7) (unhide HS4)).mono ?_
    rintro e u7 ⟨q1, qf, q2, rfl, hd, b⟩
    replace HB3 := hide ((b.block _ (heapLt (unhide HB3))).trans (unhide HB3))
    replace HB4 := hide ((b.block _ (heapLt (unhide HB4))).trans (unhide HB4))
    replace HB5 := hide ((b.block _ (heapLt (unhide HB5))).trans (unhide HB5))
    replace HB7 := hide ((b.block _ (heapLt (unhide HB7))).trans (unhide HB7))
    replace HD3 := hide ((unhide HD3).later b)
    replace HD5 := hide ((unhide HD5).later b)
    replace HD7 := hide ((unhide HD7).later b)
    replace HS4 := hide ((unhide HS4).later b)
    replace BW := hide ((unhide BW).trans (b.mono (unhide BW).size))
    clear b
    obtain ⟨ta, tx, tb, ty, tc, tz, i1, i2, i3⟩ := hd.forms
    (try dsimp only at i1 i2 i3)
    subst i1 i2 i3
    have HD9 := hide hd
    clear hd
    (try dsimp only [dkV])
    have bX := below1 u7 (.cells #[.slice ta db3.length tx, .slice tb fl3.length ty, .bool has3, .slice tc jr3.length tz] 26)
    have HB9 := hide (heap_alloc_new u7 (.cells #[.slice ta db3.length tx, .slice tb fl3.length ty, .bool has3, .slice tc jr3.length tz] 26))
    replace HB3 := hide ((bX.block _ (heapLt (unhide HB3))).trans (unhide HB3))
    replace HB4 := hide ((bX.block _ (heapLt (unhide HB4))).trans (unhide HB4))
    replace HB5 := hide ((bX.block _ (heapLt (unhide HB5))).trans (unhide HB5))
    replace HB7 := hide ((bX.block _ (heapLt (unhide HB7))).trans (unhide HB7))
    replace HD3 := hide ((unhide HD3).later bX)
    replace HD5 := hide ((unhide HD5).later bX)
    replace HD7 := hide ((unhide HD7).later bX)
    replace HD9 := hide ((unhide HD9).later bX)
    replace HS4 := hide ((unhide HS4).later bX)
    replace BW := hide ((unhide BW).trans (bX.mono (unhide BW).size))
    clear bX
    clear x70 x71 x72 x73
    clear x40 x41 x42 x43
    obtain ⟨x30, x31, x32, x33⟩ : _ ∧ _ ∧ _ ∧ _ := ⟨cellOf (unhide HB3) 0, cellOf (unhide HB3) 1, cellOf (unhide HB3) 2, cellOf (unhide HB3) 3⟩
    obtain ⟨x40, x41, x42, x43⟩ : _ ∧ _ ∧ _ ∧ _ := ⟨cellOf (unhide HB4) 0, cellOf (unhide HB4) 1, cellOf (unhide HB4) 2, cellOf (unhide HB4) 3⟩
    go_wp2_with fail
    generalize u7.heap.size = X9 at *
    generalize u7.alloc _ = u8 at *
    refine ((unhide CZ) _ _ _ _ _ (unhide HD3) (unhide HS4)).mono ?_
    rintro e u9 ⟨q1, qf, q2, rfl, hd, b⟩
    replace HB3 := hide ((b.block _ (heapLt (unhide HB3))).trans (unhide HB3))
    replace HB4 := hide ((b.block _ (heapLt (unhide HB4))).trans (unhide HB4))
    replace HB5 := hide ((b.block _ (heapLt (unhide HB5))).trans (unhide HB5))
    replace HB7 := hide ((b.block _ (heapLt (unhide HB7))).trans (unhide HB7))
    replace HB9 := hide ((b.block _ (heapLt (unhide HB9))).trans (unhide HB9))
    replace HD3 := hide ((unhide HD3).later b)
    replace HD5 := hide ((unhide HD5).later b)
    replace HD7 := hide ((unhide HD7).later b)
    replace HD9 := hide ((unhide HD9).later b)
    replace HS4 := hide ((unhide HS4).later b)
    replace BW := hide ((unhide BW).trans (b.mono (unhide BW).size))
    clear b
    obtain ⟨ya, yx, yb, yy, yc, yz, i1, i2, i3⟩ := hd.forms
    (try dsimp only at i1 i2 i3)
    subst i1 i2 i3
    have HD11 := hide hd
    clear hd
    (try dsimp only [dkV])
    have bX := below1 u9 (.cells #[.slice ya db3.length yx, .slice yb fl3.length yy, .bool has3, .slice yc jr3.length yz] 26)
    have HB11 := hide (heap_alloc_new u9 (.cells #[.slice ya db3.length yx, .slice yb fl3.length yy, .bool has3, .slice yc jr3.length yz] 26))
    replace HB3 := hide ((bX.block _ (heapLt (unhide HB3))).trans (unhide HB3))
    replace HB4 := hide ((bX.block _ (heapLt (unhide HB4))).trans (unhide HB4))
    replace HB5 := hide ((bX.block _ (heapLt (unhide HB5))).trans (unhide HB5))
    replace HB7 := hide ((bX.block _ (heapLt (unhide HB7))).trans (unhide HB7))
    replace HB9 := hide ((bX.block _ (heapLt (unhide HB9))).trans (unhide HB9))
    replace HD3 := hide ((unhide HD3).later bX)
    replace HD5 := hide ((unhide HD5).later bX)
    replace HD7 := hide ((unhide HD7).later bX)
    replace HD9 := hide ((unhide HD9).later bX)
    replace HD11 := hide ((unhide HD11).later bX)
    replace HS4 := hide ((unhide HS4).later bX)
    replace BW := hide ((unhide BW).trans (bX.mono (unhide BW).size))
    clear bX
    clear x30 x31 x32 x33
    clear x40 x41 x42 x43
    obtain ⟨x90, x91, x92, x93⟩ : _ ∧ _ ∧ _ ∧ _ := ⟨cellOf (unhide HB9) 0, cellOf (unhide HB9) 1, cellOf (unhide HB9) 2, cellOf (unhide HB9) 3⟩
    obtain ⟨x110, x111, x112, x113⟩ : _ ∧ _ ∧ _ ∧ _ := ⟨cellOf (unhide HB11) 0, cellOf (unhide HB11) 1, cellOf (unhide HB11) 2, cellOf (unhide HB11) 3⟩
    go_wp2_with fail
    generalize u9.heap.size = X11 at *
    generalize u9.alloc _ = u10 at *
    clear x90 x91 x92 x93
    clear x110 x111 x112 x113
    refine (luDisk_in _ ⟨db3, fl3, has3, jr3⟩ _ _ _ _ _ _ (unhide HD9) (unhide HD11)).mono ?_
    rintro e u11 ⟨rfl, b⟩
    replace HB3 := hide ((b.block _ (heapLt (unhide HB3))).trans (unhide HB3))
    replace HB4 := hide ((b.block _ (heapLt (unhide HB4))).trans (unhide HB4))
    replace HB5 := hide ((b.block _ (heapLt (unhide HB5))).trans (unhide HB5))
    replace HB7 := hide ((b.block _ (heapLt (unhide HB7))).trans (unhide HB7))
    replace HB9 := hide ((b.block _ (heapLt (unhide HB9))).trans (unhide HB9))
    replace HB11 := hide ((b.block _ (heapLt (unhide HB11))).trans (unhide HB11))
    replace HD3 := hide ((unhide HD3).later b)
    replace HD5 := hide ((unhide HD5).later b)
    replace HD7 := hide ((unhide HD7).later b)
    replace HD9 := hide ((unhide HD9).later b)
    replace HD11 := hide ((unhide HD11).later b)
    replace HS4 := hide ((unhide HS4).later b)
    replace BW := hide ((unhide BW).trans (b.mono (unhide BW).size))
    clear b
    obtain ⟨x70, x71, x72, x73⟩ : _ ∧ _ ∧ _ ∧ _ := ⟨cellOf (unhide HB7) 0, cellOf (unhide HB7) 1, cellOf (unhide HB7) 2, cellOf (unhide HB7) 3⟩
    go_wp2_with fail
    refine (implDiskOk_any _ ⟨db, fl, has, jr⟩ _ _ _ (unhide HD7).p1 (unhide HD7).r1 (unhide HD7).pf (unhide HD7).p2 (unhide HD7).r2).mono ?_
    rintro e u12 ⟨rfl, b⟩
    replace HB3 := hide ((b.block _ (heapLt (unhide HB3))).trans (unhide HB3))
    replace HB4 := hide ((b.block _ (heapLt (unhide HB4))).trans (unhide HB4))
    replace HB5 := hide ((b.block _ (heapLt (unhide HB5))).trans (unhide HB5))
    replace HB7 := hide ((b.block _ (heapLt (unhide HB7))).trans (unhide HB7))
    replace HB9 := hide ((b.block _ (heapLt (unhide HB9))).trans (unhide HB9))
    replace HB11 := hide ((b.block _ (heapLt (unhide HB11))).trans (unhide HB11))
    replace HD3 := hide ((unhide HD3).later b)
    replace HD5 := hide ((unhide HD5).later b)
    replace HD7 := hide ((unhide HD7).later b)
    replace HD9 := hide ((unhide HD9).later b)
    replace HD11 := hide ((unhide HD11).later b)
    replace HS4 := hide ((unhide HS4).later b)
    replace BW := hide ((unhide BW).trans (b.mono (unhide BW).size))
    clear b
    clear x70 x71 x72 x73
    rw [unhide HO2]
    obtain ⟨x30, x31, x32, x33⟩ : _ ∧ _ ∧ _ ∧ _ := ⟨cellOf (unhide HB3) 0, cellOf (unhide HB3) 1, cellOf (unhide HB3) 2, cellOf (unhide HB3) 3⟩
    obtain ⟨x40, x41, x42, x43⟩ : _ ∧ _ ∧ _ ∧ _ := ⟨cellOf (unhide HB4) 0, cellOf (unhide HB4) 1, cellOf (unhide HB4) 2, cellOf (unhide HB4) 3⟩
    obtain ⟨x70, x71, x72, x73⟩ : _ ∧ _ ∧ _ ∧ _ := ⟨cellOf (unhide HB7) 0, cellOf (unhide HB7) 1, cellOf (unhide HB7) 2, cellOf (unhide HB7) 3⟩
    go_wp2_with fail
    refine (luDisk_in _ ⟨db, fl, has, jr⟩ _ _ _ _ _ _ (unhide HD7) (unhide HD3)).mono ?_
    rintro e u13 ⟨rfl, b⟩
    replace HB3 := hide ((b.block _ (heapLt (unhide HB3))).trans (unhide HB3))
    replace HB4 := hide ((b.block _ (heapLt (unhide HB4))).trans (unhide HB4))
    replace HB5 := hide ((b.block _ (heapLt (unhide HB5))).trans (unhide HB5))
    replace HB7 := hide ((b.block _ (heapLt (unhide HB7))).trans (unhide HB7))
    replace HB9 := hide ((b.block _ (heapLt (unhide HB9))).trans (unhide HB9))
    replace HB11 := hide ((b.block _ (heapLt (unhide HB11))).trans (unhide HB11))
    replace HD3 := hide ((unhide HD3).later b)
    replace HD5 := hide ((unhide HD5).later b)
    replace HD7 := hide ((unhide HD7).later b)
    replace HD9 := hide ((unhide HD9).later b)
    replace HD11 := hide ((unhide HD11).later b)
    replace HS4 := hide ((unhide HS4).later b)
    replace BW := hide ((unhide BW).trans (b.mono (unhide BW).size))
    clear b
    clear x30 x31 x32 x33
    clear x40 x41 x42 x43
    clear x70 x71 x72 x73
    go_wp2
    go_ret
    exact ⟨rfl, unhide BW⟩
  · have hA := tearA_yes hok hsok
    have hO2 := Dk.ok_torn (s := ⟨2, sp, sx, sps⟩) hok
    have hA2 := doA_yes hO2 hsok
    have hA3 := doA_yes hok hsok
    rw [Dk.torn_step] at hA2
    have hT : Dk.D.torn ⟨db, fl, has, jr⟩ ⟨2, sp, sx, sps⟩ = ⟨db, fl.set sp.toNat (-2), has, jr⟩ := rfl
    rw [hT] at hA hO2 hA2
    clear hT
    obtain ⟨n, rfl⟩ := Int.eq_ofNat_of_zero_le hpp.1
    rw [Int.toNat_natCast] at hA hA2 hO2
    have h60 : fl.length = 6 := (Dk.files_get (Dk.ok_get hok).1).1
    have hn6 : n < fl.length := by have := hpp.2; omega
    obtain ⟨fl2, hfl2⟩ : ∃ fl2, fl2 = fl.set n (-2) := ⟨_, rfl⟩
    rw [← hfl2] at hA hA2 hO2
    have hln : fl2.length = 6 := by rw [hfl2, List.length_set]; exact h60
    have hnx : Ky.nth fl2 n = -2 := by
      unfold Ky.nth
      rw [hfl2, List.getD_eq_getElem?_getD, List.getElem?_set_self hn6]
      rfl
    have HF2 := hide (And.intro hln hnx)
    have hn62 : n < 6 := by have := hpp.2; omega
    clear hfl2 hln hnx hn6 h60
    generalize Dk.D.step ⟨db, fl, has, jr⟩ ⟨2, (n : Int), sx, sps⟩ = D3 at *
    obtain ⟨db3, fl3, has3, jr3⟩ := D3
    have CI := hide (fun (W : World) (v1 uf v2 pv : Value) (x : DIn W ⟨db, fl, has, jr⟩ v1 uf v2) (y : SIn W ⟨2, (n : Int), sx, sps⟩ pv) => implTear_in W ⟨db, fl, has, jr⟩ ⟨2, (n : Int), sx, sps⟩ v1 uf v2 pv x y)
    rw [hA] at CI
    dsimp only at CI
    have CS := hide (fun (W : World) (v1 uf v2 pv : Value) (x : DIn W ⟨db, fl, has, jr⟩ v1 uf v2) (y : SIn W ⟨2, (n : Int), sx, sps⟩ pv) => specTear_in W ⟨db, fl, has, jr⟩ ⟨2, (n : Int), sx, sps⟩ v1 uf v2 pv x y)
    rw [hA] at CS
    dsimp only at CS
    have CY := hide (fun (W : World) (v1 uf v2 pv : Value) (x : DIn W ⟨db, fl2, has, jr⟩ v1 uf v2) (y : SIn W ⟨2, (n : Int), sx, sps⟩ pv) => implDo_in W ⟨db, fl2, has, jr⟩ ⟨2, (n : Int), sx, sps⟩ v1 uf v2 pv x y)
    rw [hA2] at CY
    (try dsimp only at CY)
    have CZ := hide (fun (W : World) (v1 uf v2 pv : Value) (x : DIn W ⟨db, fl, has, jr⟩ v1 uf v2) (y : SIn W ⟨2, (n : Int), sx, sps⟩ pv) => implDo_in W ⟨db, fl, has, jr⟩ ⟨2, (n : Int), sx, sps⟩ v1 uf v2 pv x y)
    rw [hA3] at CZ
    (try dsimp only at CZ)
    have HO2 := hide hO2
    clear hA hA2 hA3 hO2 hok hsok hpp hxx hps
    go_wp2_with fail
    generalize hX : u0.heap.size = X3 at *
    clear hX
    generalize World.alloc _ _ = u1 at *
    obtain ⟨x30, x31, x32, x33⟩ : _ ∧ _ ∧ _ ∧ _ := ⟨cellOf (unhide HB3) 0, cellOf (unhide HB3) 1, cellOf (unhide HB3) 2, cellOf (unhide HB3) 3⟩
    obtain ⟨x40, x41, x42, x43⟩ : _ ∧ _ ∧ _ ∧ _ := ⟨cellOf (unhide HB4) 0, cellOf (unhide HB4) 1, cellOf (unhide HB4) 2, cellOf (unhide HB4) 3⟩
    refine ((unhide CS) _ _ _ _ _ (unhide HD3) (unhide HS4)).mono ?_
    rintro e u2 ⟨q1, qf, q2, rfl, hd, b⟩
    replace HB3 := hide ((b.block _ (heapLt (unhide HB3))).trans (unhide HB3))
    replace HB4 := hide ((b.block _ (heapLt (unhide HB4))).trans (unhide HB4))
    replace HD3 := hide ((unhide HD3).later b)
    replace HS4 := hide ((unhide HS4).later b)
    replace BW := hide ((unhide BW).trans (b.mono (unhide BW).size))
    clear b
    clear x30 x31 x32 x33
    clear x40 x41 x42 x43
    obtain ⟨qa, qx, qb, qy, qc, qz, i1, i2, i3⟩ := hd.forms
    (try dsimp only at i1 i2 i3)
    subst i1 i2 i3
    have HD5 := hide hd
    clear hd
    dsimp only [dkV]
    have bX := below1 u2 (.cells #[.slice qa db.length qx, .slice qb fl2.length qy, .bool has, .slice qc jr.length qz] 26)
    have HB5 := hide (heap_alloc_new u2 (.cells #[.slice qa db.length qx, .slice qb fl2.length qy, .bool has, .slice qc jr.length qz] 26))
    replace HB3 := hide ((bX.block _ (heapLt (unhide HB3))).trans (unhide HB3))
    replace HB4 := hide ((bX.block _ (heapLt (unhide HB4))).trans (unhide HB4))
    replace HD3 := hide ((unhide HD3).later bX)
    replace HD5 := hide ((unhide HD5).later bX)
    replace HS4 := hide ((unhide HS4).later bX)
    replace BW := hide ((unhide BW).trans (bX.mono (unhide BW).size))
    clear bX
    obtain ⟨x30, x31, x32, x33⟩ : _ ∧ _ ∧ _ ∧ _ := ⟨cellOf (unhide HB3) 0, cellOf (unhide HB3) 1, cellOf (unhide HB3) 2, cellOf (unhide HB3) 3⟩
    obtain ⟨x40, x41, x42, x43⟩ : _ ∧ _ ∧ _ ∧ _ := ⟨cellOf (unhide HB4) 0, cellOf (unhide HB4) 1, cellOf (unhide HB4) 2, cellOf (unhide HB4) 3⟩
    go_wp2_with fail
    generalize u2.heap.size = X5 at *
    generalize u2.alloc _ = u3 at *
    refine ((unhide CI) _ _ _ _ _ (unhide HD3) (unhide HS4)).mono ?_
    rintro e u4 ⟨q1, qf, q2, rfl, hd, b⟩
    replace HB3 := hide ((b.block _ (heapLt (unhide HB3))).trans (unhide HB3))
    replace HB4 := hide ((b.block _ (heapLt (unhide HB4))).trans (unhide HB4))
    replace HB5 := hide ((b.block _ (heapLt (unhide HB5))).trans (unhide HB5))
    replace HD3 := hide ((unhide HD3).later b)
    replace HD5 := hide ((unhide HD5).later b)
    replace HS4 := hide ((unhide HS4).later b)
    replace BW := hide ((unhide BW).trans (b.mono (unhide BW).size))
    clear b
    clear x30 x31 x32 x33
    clear x40 x41 x42 x43
    obtain ⟨ra, rx, rb, ry, rc, rz, i1, i2, i3⟩ := hd.forms
    (try dsimp only at i1 i2 i3)
    subst i1 i2 i3
    have HD7 := hide hd
    clear hd
    dsimp only [dkV]
    have bX := below1 u4 (.cells #[.slice ra db.length rx, .slice rb fl2.length ry, .bool has, .slice rc jr.length rz] 26)
    have HB7 := hide (heap_alloc_new u4 (.cells #[.slice ra db.length rx, .slice rb fl2.length ry, .bool has, .slice rc jr.length rz] 26))
    replace HB3 := hide ((bX.block _ (heapLt (unhide HB3))).trans (unhide HB3))
    replace HB4 := hide ((bX.block _ (heapLt (unhide HB4))).trans (unhide HB4))
    replace HB5 := hide ((bX.block _ (heapLt (unhide HB5))).trans (unhide HB5))
    replace HD3 := hide ((unhide HD3).later bX)
    replace HD5 := hide ((unhide HD5).later bX)
    replace HD7 := hide ((unhide HD7).later bX)
    replace HS4 := hide ((unhide HS4).later bX)
    replace BW := hide ((unhide BW).trans (bX.mono (unhide BW).size))
    clear bX
    obtain ⟨x70, x71, x72, x73⟩ : _ ∧ _ ∧ _ ∧ _ := ⟨cellOf (unhide HB7) 0, cellOf (unhide HB7) 1, cellOf (unhide HB7) 2, cellOf (unhide HB7) 3⟩
    obtain ⟨x50, x51, x52, x53⟩ : _ ∧ _ ∧ _ ∧ _ := ⟨cellOf (unhide HB5) 0, cellOf (unhide HB5) 1, cellOf (unhide HB5) 2, cellOf (unhide HB5) 3⟩
    go_wp2_with fail
    generalize u4.heap.size = X7 at *
    generalize u4.alloc _ = u5 at *
    refine (luDisk_in _ ⟨db, fl2, has, jr⟩ _ _ _ _ _ _ (unhide HD7) (unhide HD5)).mono ?_
    rintro e u6 ⟨rfl, b⟩
    replace HB3 := hide ((b.block _ (heapLt (unhide HB3))).trans (unhide HB3))
    replace HB4 := hide ((b.block _ (heapLt (unhide HB4))).trans (unhide HB4))
    replace HB5 := hide ((b.block _ (heapLt (unhide HB5))).trans (unhide HB5))
    replace HB7 := hide ((b.block _ (heapLt (unhide HB7))).trans (unhide HB7))
    replace HD3 := hide ((unhide HD3).later b)
    replace HD5 := hide ((unhide HD5).later b)
    replace HD7 := hide ((unhide HD7).later b)
    replace HS4 := hide ((unhide HS4).later b)
    replace BW := hide ((unhide BW).trans (b.mono (unhide BW).size))
    clear b
    clear x70 x71 x72 x73
    clear x50 x51 x52 x53
    obtain ⟨x70, x71, x72, x73⟩ : _ ∧ _ ∧ _ ∧ _ := ⟨cellOf (unhide HB7) 0, cellOf (unhide HB7) 1, cellOf (unhide HB7) 2, cellOf (unhide HB7) 3⟩
    obtain ⟨x40, x41, x42, x43⟩ : _ ∧ _ ∧ _ ∧ _ := ⟨cellOf (unhide HB4) 0, cellOf (unhide HB4) 1, cellOf (unhide HB4) 2, cellOf (unhide HB4) 3⟩
    go_wp2_with fail
    refine ((unhide CY) _ _ _ _ _ (unhide HD7) (unhide HS4)).mono ?_
    rintro e u7 ⟨q1, qf, q2, rfl, hd, b⟩
    replace HB3 := hide ((b.block _ (heapLt (unhide HB3))).trans (unhide HB3))
    replace HB4 := hide ((b.block _ (heapLt (unhide HB4))).trans (unhide HB4))
    replace HB5 := hide ((b.block _ (heapLt (unhide HB5))).trans (unhide HB5))
    replace HB7 := hide ((b.block _ (heapLt (unhide HB7))).trans (unhide HB7))
    replace HD3 := hide ((unhide HD3).later b)
    replace HD5 := hide ((unhide HD5).later b)
    replace HD7 := hide ((unhide HD7).later b)
    replace HS4 := hide ((unhide HS4).later b)
    replace BW := hide ((unhide BW).trans (b.mono (unhide BW).size))
    clear b
    obtain ⟨ta, tx, tb, ty, tc, tz, i1, i2, i3⟩ := hd.forms
    (try dsimp only at i1 i2 i3)
    subst i1 i2 i3
    have HD9 := hide hd
    clear hd
    (try dsimp only [dkV])
    have bX := below1 u7 (.cells #[.slice ta db3.length tx, .slice tb fl3.length ty, .bool has3, .slice tc jr3.length tz] 26)
    have HB9 := hide (heap_alloc_new u7 (.cells #[.slice ta db3.length tx, .slice tb fl3.length ty, .bool has3, .slice tc jr3.length tz] 26))
    replace HB3 := hide ((bX.block _ (heapLt (unhide HB3))).trans (unhide HB3))
    replace HB4 := hide ((bX.block _ (heapLt (unhide HB4))).trans (unhide HB4))
    replace HB5 := hide ((bX.block _ (heapLt (unhide HB5))).trans (unhide HB5))
    replace HB7 := hide ((bX.block _ (heapLt (unhide HB7))).trans (unhide HB7))
    replace HD3 := hide ((unhide HD3).later bX)
    replace HD5 := hide ((unhide HD5).later bX)
    replace HD7 := hide ((unhide HD7).later bX)
    replace HD9 := hide ((unhide HD9).later bX)
    replace HS4 := hide ((unhide HS4).later bX)
    replace BW := hide ((unhide BW).trans (bX.mono (unhide BW).size))
    clear bX
    clear x70 x71 x72 x73
    clear x40 x41 x42 x43
    obtain ⟨x30, x31, x32, x33⟩ : _ ∧ _ ∧ _ ∧ _ := ⟨cellOf (unhide HB3) 0, cellOf (unhide HB3) 1, cellOf (unhide HB3) 2, cellOf (unhide HB3) 3⟩
    obtain ⟨x40, x41, x42, x43⟩ : _ ∧ _ ∧ _ ∧ _ := ⟨cellOf (unhide HB4) 0, cellOf (unhide HB4) 1, cellOf (unhide HB4) 2, cellOf (unhide HB4) 3⟩
    go_wp2_with fail
    generalize u7.heap.size = X9 at *
    generalize u7.alloc _ = u8 at *
    refine ((unhide CZ) _ _ _ _ _ (unhide HD3) (unhide HS4)).mono ?_
    rintro e u9 ⟨q1, qf, q2, rfl, hd, b⟩
    replace HB3 := hide ((b.block _ (heapLt (unhide HB3))).trans (unhide HB3))
    replace HB4 := hide ((b.block _ (heapLt (unhide HB4))).trans (unhide HB4))
    replace HB5 := hide ((b.block _ (heapLt (unhide HB5))).trans (unhide HB5))
    replace HB7 := hide ((b.block _ (heapLt (unhide HB7))).trans (unhide HB7))
    replace HB9 := hide ((b.block _ (heapLt (unhide HB9))).trans (unhide HB9))
    replace HD3 := hide ((unhide HD3).later b)
    replace HD5 := hide ((unhide HD5).later b)
    replace HD7 := hide ((unhide HD7).later b)
    replace HD9 := hide ((unhide HD9).later b)
    replace HS4 := hide ((unhide HS4).later b)
    replace BW := hide ((unhide BW).trans (b.mono (unhide BW).size))
    clear b
    obtain ⟨ya, yx, yb, yy, yc, yz, i1, i2, i3⟩ := hd.forms
    (try dsimp only at i1 i2 i3)
    subst i1 i2 i3
    have HD11 := hide hd
    clear hd
    (try dsimp only [dkV])
    have bX := below1 u9 (.cells #[.slice ya db3.length yx, .slice yb fl3.length yy, .bool has3, .slice yc jr3.length yz] 26)
    have HB11 := hide (heap_alloc_new u9 (.cells #[.slice ya db3.length yx, .slice yb fl3.length yy, .bool has3, .slice yc jr3.length yz] 26))
    replace HB3 := hide ((bX.block _ (heapLt (unhide HB3))).trans (unhide HB3))
    replace HB4 := hide ((bX.block _ (heapLt (unhide HB4))).trans (unhide HB4))
    replace HB5 := hide ((bX.block _ (heapLt (unhide HB5))).trans (unhide HB5))
    replace HB7 := hide ((bX.block _ (heapLt (unhide HB7))).trans (unhide HB7))
    replace HB9 := hide ((bX.block _ (heapLt (unhide HB9))).trans (unhide HB9))
    replace HD3 := hide ((unhide HD3).later bX)
    replace HD5 := hide ((unhide HD5).later bX)
    replace HD7 := hide ((unhide HD7).later bX)
    replace HD9 := hide ((unhide HD9).later bX)
    replace HD11 := hide ((unhide HD11).later bX)
    replace HS4 := hide ((unhide HS4).later bX)
    replace BW := hide ((unhide BW).trans (bX.mono (unhide BW).size))
    clear bX
    clear x30 x31 x32 x33
    clear x40 x41 x42 x43
    obtain ⟨x90, x91, x92, x93⟩ : _ ∧ _ ∧ _ ∧ _ := ⟨cellOf (unhide HB9) 0, cellOf (unhide HB9) 1, cellOf (unhide HB9) 2, cellOf (unhide HB9) 3⟩
    obtain ⟨x110, x111, x112, x113⟩ : _ ∧ _ ∧ _ ∧ _ := ⟨cellOf (unhide HB11) 0, cellOf (unhide HB11) 1, cellOf (unhide HB11) 2, cellOf (unhide HB11) 3⟩
    go_wp2_with fail
    generalize u9.heap.size = X11 at *
    generalize u9.alloc _ = u10 at *
    clear x90 x91 x92 x93
    clear x110 x111 x112 x113
    refine (luDisk_in _ ⟨db3, fl3, has3, jr3⟩ _ _ _ _ _ _ (unhide HD9) (unhide HD11)).mono ?_
    rintro e u11 ⟨rfl, b⟩
    replace HB3 := hide ((b.block _ (heapLt (unhide HB3))).trans (unhide HB3))
    replace HB4 := hide ((b.block _ (heapLt (unhide HB4))).trans (unhide HB4))
    replace HB5 := hide ((b.block _ (heapLt (unhide HB5))).trans (unhide HB5))
    replace HB7 := hide ((b.block _ (heapLt (unhide HB7))).trans (unhide HB7))
    replace HB9 := hide ((b.block _ (heapLt (unhide HB9))).trans (unhide HB9))
    replace HB11 := hide ((b.block _ (heapLt (unhide HB11))).trans (unhide HB11))
    replace HD3 := hide ((unhide HD3).later b)
    replace HD5 := hide ((unhide HD5).later b)
    replace HD7 := hide ((unhide HD7).later b)
    replace HD9 := hide ((unhide HD9).later b)
    replace HD11 := hide ((unhide HD11).later b)
    replace HS4 := hide ((unhide HS4).later b)
    replace BW := hide ((unhide BW).trans (b.mono (unhide BW).size))
    clear b
    obtain ⟨x70, x71, x72, x73⟩ : _ ∧ _ ∧ _ ∧ _ := ⟨cellOf (unhide HB7) 0, cellOf (unhide HB7) 1, cellOf (unhide HB7) 2, cellOf (unhide HB7) 3⟩
    go_wp2_with fail
    refine (implDiskOk_any _ ⟨db, fl2, has, jr⟩ _ _ _ (unhide HD7).p1 (unhide HD7).r1 (unhide HD7).pf (unhide HD7).p2 (unhide HD7).r2).mono ?_
    rintro e u12 ⟨rfl, b⟩
    replace HB3 := hide ((b.block _ (heapLt (unhide HB3))).trans (unhide HB3))
    replace HB4 := hide ((b.block _ (heapLt (unhide HB4))).trans (unhide HB4))
    replace HB5 := hide ((b.block _ (heapLt (unhide HB5))).trans (unhide HB5))
    replace HB7 := hide ((b.block _ (heapLt (unhide HB7))).trans (unhide HB7))
    replace HB9 := hide ((b.block _ (heapLt (unhide HB9))).trans (unhide HB9))
    replace HB11 := hide ((b.block _ (heapLt (unhide HB11))).trans (unhide HB11))
    replace HD3 := hide ((unhide HD3).later b)
    replace HD5 := hide ((unhide HD5).later b)
    replace HD7 := hide ((unhide HD7).later b)
    replace HD9 := hide ((unhide HD9).later b)
    replace HD11 := hide ((unhide HD11).later b)
    replace HS4 := hide ((unhide HS4).later b)
    replace BW := hide ((unhide BW).trans (b.mono (unhide BW).size))
    clear b
    clear x70 x71 x72 x73
    rw [unhide HO2]
    obtain ⟨_, _, e, _, hr7⟩ := (unhide HD7).pf
    injection e with e1 _ e3
    subst e1 e3
    obtain ⟨b7, o7, rfl, hb7l, hc7⟩ := hr7 (by have := (unhide HF2).1; dsimp only; omega)
    have c7n := hc7 n (by have := (unhide HF2).1; dsimp only; omega)
    dsimp only at c7n
    rw [(unhide HF2).2] at c7n
    have hi0 : (0 : Int) ≤ (n : Int) := Int.natCast_nonneg _
    have hi1 : (n : Int) < (fl2.length : Int) := by have := (unhide HF2).1; omega
    clear hr7 hc7 hb7l
    obtain ⟨x40, x41, x42, x43⟩ : _ ∧ _ ∧ _ ∧ _ := ⟨cellOf (unhide HB4) 0, cellOf (unhide HB4) 1, cellOf (unhide HB4) 2, cellOf (unhide HB4) 3⟩
    obtain ⟨x70, x71, x72, x73⟩ : _ ∧ _ ∧ _ ∧ _ := ⟨cellOf (unhide HB7) 0, cellOf (unhide HB7) 1, cellOf (unhide HB7) 2, cellOf (unhide HB7) 3⟩
    go_wp2
    go_ret
    exact ⟨rfl, unhide BW⟩
  · have hA := tearA_yes hok hsok
    have hO2 := Dk.ok_torn (s := ⟨3, sp, sx, sps⟩) hok
    have hA2 := doA_yes hO2 hsok
    have hA3 := doA_yes hok hsok
    rw [Dk.torn_step] at hA2
    have hT : Dk.D.torn ⟨db, fl, has, jr⟩ ⟨3, sp, sx, sps⟩ = ⟨[], fl, has, jr⟩ := rfl
    rw [hT] at hA hO2 hA2
    clear hT
    obtain ⟨db2, hdb2⟩ : ∃ db2 : List Ix.Pg, db2 = [] := ⟨_, rfl⟩
    rw [← hdb2] at hA hA2 hO2
    have HE2 := hide hdb2
    clear hdb2
    generalize Dk.D.step ⟨db, fl, has, jr⟩ ⟨3, sp, sx, sps⟩ = D3 at *
    obtain ⟨db3, fl3, has3, jr3⟩ := D3
    have CI := hide (fun (W : World) (v1 uf v2 pv : Value) (x : DIn W ⟨db, fl, has, jr⟩ v1 uf v2) (y : SIn W ⟨3, sp, sx, sps⟩ pv) => implTear_in W ⟨db, fl, has, jr⟩ ⟨3, sp, sx, sps⟩ v1 uf v2 pv x y)
    rw [hA] at CI
    dsimp only at CI
    have CS := hide (fun (W : World) (v1 uf v2 pv : Value) (x : DIn W ⟨db, fl, has, jr⟩ v1 uf v2) (y : SIn W ⟨3, sp, sx, sps⟩ pv) => specTear_in W ⟨db, fl, has, jr⟩ ⟨3, sp, sx, sps⟩ v1 uf v2 pv x y)
    rw [hA] at CS
    dsimp only at CS
    have CY := hide (fun (W : World) (v1 uf v2 pv : Value) (x : DIn W ⟨db2, fl, has, jr⟩ v1 uf v2) (y : SIn W ⟨3, sp, sx, sps⟩ pv) => implDo_in W ⟨db2, fl, has, jr⟩ ⟨3, sp, sx, sps⟩ v1 uf v2 pv x y)
    rw [hA2] at CY
    (try dsimp only at CY)
    have CZ := hide (fun (W : World) (v1 uf v2 pv : Value) (x : DIn W ⟨db, fl, has, jr⟩ v1 uf v2) (y : SIn W ⟨3, sp, sx, sps⟩ pv) => implDo_in W ⟨db, fl, has, jr⟩ ⟨3, sp, sx, sps⟩ v1 uf v2 pv x y)
    rw [hA3] at CZ
    (try dsimp only at CZ)
    have HO2 := hide hO2
    clear hA hA2 hA3 hO2 hok hsok hpp hxx hps
    go_wp2_with fail
    generalize hX : u0.heap.size = X3 at *
    clear hX
    generalize World.alloc _ _ = u1 at *
    obtain ⟨x30, x31, x32, x33⟩ : _ ∧ _ ∧ _ ∧ _ := ⟨cellOf (unhide HB3) 0, cellOf (unhide HB3) 1, cellOf (unhide HB3) 2, cellOf (unhide HB3) 3⟩
    obtain ⟨x40, x41, x42, x43⟩ : _ ∧ _ ∧ _ ∧ _ := ⟨cellOf (unhide HB4) 0, cellOf (unhide HB4) 1, cellOf (unhide HB4) 2, cellOf (unhide HB4) 3⟩
    refine ((unhide CS) _ _ _ _ _ (unhide HD3) (unhide HS4)).mono ?_
    rintro e u2 ⟨q1, qf, q2, rfl, hd, b⟩
    replace HB3 := hide ((b.block _ (heapLt (unhide HB3))).trans (unhide HB3))
    replace HB4 := hide ((b.block _ (heapLt (unhide HB4))).trans (unhide HB4))
    replace HD3 := hide ((unhide HD3).later b)
    replace HS4 := hide ((unhide HS4).later b)
    replace BW := hide ((unhide BW).trans (b.mono (unhide BW).size))
    clear b
    clear x30 x31 x32 x33
    clear x40 x41 x42 x43
    obtain ⟨qa, qx, qb, qy, qc, qz, i1, i2, i3⟩ := hd.forms
    (try dsimp only at i1 i2 i3)
    subst i1 i2 i3
    have HD5 := hide hd
    clear hd
    dsimp only [dkV]
    have bX := below1 u2 (.cells #[.slice qa db2.length qx, .slice qb fl.length qy, .bool has, .slice qc jr.length qz] 26)
    have HB5 := hide (heap_alloc_new u2 (.cells #[.slice qa db2.length qx, .slice qb fl.length qy, .bool has, .slice qc jr.length qz] 26))
    replace HB3 := hide ((bX.block _ (heapLt (unhide HB3))).trans (unhide HB3))
    replace HB4 := hide ((bX.block _ (heapLt (unhide HB4))).trans (unhide HB4))
    replace HD3 := hide ((unhide HD3).later bX)
    replace HD5 := hide ((unhide HD5).later bX)
    replace HS4 := hide ((unhide HS4).later bX)
    replace BW := hide ((unhide BW).trans (bX.mono (unhide BW).size))
    clear bX
    obtain ⟨x30, x31, x32, x33⟩ : _ ∧ _ ∧ _ ∧ _ := ⟨cellOf (unhide HB3) 0, cellOf (unhide HB3) 1, cellOf (unhide HB3) 2, cellOf (unhide HB3) 3⟩
    obtain ⟨x40, x41, x42, x43⟩ : _ ∧ _ ∧ _ ∧ _ := ⟨cellOf (unhide HB4) 0, cellOf (unhide HB4) 1, cellOf (unhide HB4) 2, cellOf (unhide HB4) 3⟩
    go_wp2_with fail
    generalize u2.heap.size = X5 at *
    generalize u2.alloc _ = u3 at *
    refine ((unhide CI) _ _ _ _ _ (unhide HD3) (unhide HS4)).mono ?_
    rintro e u4 ⟨q1, qf, q2, rfl, hd, b⟩
    replace HB3 := hide ((b.block _ (heapLt (unhide HB3))).trans (unhide HB3))
    replace HB4 := hide ((b.block _ (heapLt (unhide HB4))).trans (unhide HB4))
    replace HB5 := hide ((b.block _ (heapLt (unhide HB5))).trans (unhide HB5))
    replace HD3 := hide ((unhide HD3).later b)
    replace HD5 := hide ((unhide HD5).later b)
    replace HS4 := hide ((unhide HS4).later b)
    replace BW := hide ((unhide BW).trans (b.mono (unhide BW).size))
    clear b
    clear x30 x31 x32 x33
    clear x40 x41 x42 x43
    obtain ⟨ra, rx, rb, ry, rc, rz, i1, i2, i3⟩ := hd.forms
    (try dsimp only at i1 i2 i3)
    subst i1 i2 i3
    have HD7 := hide hd
    clear hd
    dsimp only [dkV]
    have bX := below1 u4 (.cells #[.slice ra db2.length rx, .slice rb fl.length ry, .bool has, .slice rc jr.length rz] 26)
    have HB7 := hide (heap_alloc_new u4 (.cells #[.slice ra db2.length rx, .slice rb fl.length ry, .bool has, .slice rc jr.length rz] 26))
    replace HB3 := hide ((bX.block _ (heapLt (unhide HB3))).trans (unhide HB3))
    replace HB4 := hide ((bX.block _ (heapLt (unhide HB4))).trans (unhide HB4))
    replace HB5 := hide ((bX.block _ (heapLt (unhide HB5))).trans (unhide HB5))
    replace HD3 := hide ((unhide HD3).later bX)
    replace HD5 := hide ((unhide HD5).later bX)
    replace HD7 := hide ((unhide HD7).later bX)
    replace HS4 := hide ((unhide HS4).later bX)
    replace BW := hide ((unhide BW).trans (bX.mono (unhide BW).size))
    clear bX
    obtain ⟨x70, x71, x72, x73⟩ : _ ∧ _ ∧ _ ∧ _ := ⟨cellOf (unhide HB7) 0, cellOf (unhide HB7) 1, cellOf (unhide HB7) 2, cellOf (unhide HB7) 3⟩
    obtain ⟨x50, x51, x52, x53⟩ : _ ∧ _ ∧ _ ∧ _ := ⟨cellOf (unhide HB5) 0, cellOf (unhide HB5) 1, cellOf (unhide HB5) 2, cellOf (unhide HB5) 3⟩
    go_wp2_with fail
    generalize u4.heap.size = X7 at *
    generalize u4.alloc _ = u5 at *
    refine (luDisk_in _ ⟨db2, fl, has, jr⟩ _ _ _ _ _ _ (unhide HD7) (unhide HD5)).mono ?_
    rintro e u6 ⟨rfl, b⟩
    replace HB3 := hide ((b.block _ (heapLt (unhide HB3))).trans (unhide HB3))
    replace HB4 := hide ((b.block _ (heapLt (unhide HB4))).trans (unhide HB4))
    replace HB5 := hide ((b.block _ (heapLt (unhide HB5))).trans (unhide HB5))
    replace HB7 := hide ((b.block _ (heapLt (unhide HB7))).trans (unhide HB7))
    replace HD3 := hide ((unhide HD3).later b)
    replace HD5 := hide ((unhide HD5).later b)
    replace HD7 := hide ((unhide HD7).later b)
    replace HS4 := hide ((unhide HS4).later b)
    replace BW := hide ((unhide BW).trans (b.mono (unhide BW).size))
    clear b
    clear x70 x71 x72 x73
    clear x50 x51 x52 x53
    obtain ⟨x70, x71, x72, x73⟩ : _ ∧ _ ∧ _ ∧ _ := ⟨cellOf (unhide HB7) 0, cellOf (unhide HB7) 1, cellOf (unhide HB7) 2, cellOf (unhide HB7) 3⟩
    obtain ⟨x40, x41, x42, x43⟩ : _ ∧ _ ∧ _ ∧ _ := ⟨cellOf (unhide HB4) 0, cellOf (unhide HB4) 1, cellOf (unhide HB4) 2, cellOf (unhide HB4) 3⟩
    go_wp2_with fail
    refine ((unhide CY) _ _ _ _ _ (unhide HD7) (unhide HS4)).mono ?_
    rintro e u7 ⟨q1, qf, q2, rfl, hd, b⟩
    replace HB3 := hide ((b.block _ (heapLt (unhide HB3))).trans (unhide HB3))
    replace HB4 := hide ((b.block _ (heapLt (unhide HB4))).trans (unhide HB4))
    replace HB5 := hide ((b.block _ (heapLt (unhide HB5))).trans (unhide HB5))
    replace HB7 := hide ((b.block _ (heapLt (unhide HB7))).trans (unhide HB7))
    replace HD3 := hide ((unhide HD3).later b)
    replace HD5 := hide ((unhide HD5).later b)
    replace HD7 := hide ((unhide HD7).later b)
    replace HS4 := hide ((unhide HS4).later b)
    replace BW := hide ((unhide BW).trans (b.mono (unhide BW).size))
    clear b
    obtain ⟨ta, tx, tb, ty, tc, tz, i1, i2, i3⟩ := hd.forms
    (try dsimp only at i1 i2 i3)
    subst i1 i2 i3
    have HD9 := hide hd
    clear hd
    (try dsimp only [dkV])
    have bX := below1 u7 (.cells #[.slice ta db3.length tx, .slice tb fl3.length ty, .bool has3, .slice tc jr3.length tz] 26)
    have HB9 := hide (heap_alloc_new u7 (.cells #[.slice ta db3.length tx, .slice tb fl3.length ty, .bool has3, .slice tc jr3.length tz] 26))
    replace HB3 := hide ((bX.block _ (heapLt (unhide HB3))).trans (unhide HB3))
    replace HB4 := hide ((bX.block _ (heapLt (unhide HB4))).trans (unhide HB4))
    replace HB5 := hide ((bX.block _ (heapLt (unhide HB5))).trans (unhide HB5))
    replace HB7 := hide ((bX.block _ (heapLt (unhide HB7))).trans (unhide HB7))
    replace HD3 := hide ((unhide HD3).later bX)
    replace HD5 := hide ((unhide HD5).later bX)
    replace HD7 := hide ((unhide HD7).later bX)
    replace HD9 := hide ((unhide HD9).later bX)
    replace HS4 := hide ((unhide HS4).later bX)
    replace BW := hide ((unhide BW).trans (bX.mono (unhide BW).size))
    clear bX
    clear x70 x71 x72 x73
    clear x40 x41 x42 x43
    obtain ⟨x30, x31, x32, x33⟩ : _ ∧ _ ∧ _ ∧ _ := ⟨cellOf (unhide HB3) 0, cellOf (unhide HB3) 1, cellOf (unhide HB3) 2, cellOf (unhide HB3) 3⟩
    obtain ⟨x40, x41, x42, x43⟩ : _ ∧ _ ∧ _ ∧ _ := ⟨cellOf (unhide HB4) 0, cellOf (unhide HB4) 1, cellOf (unhide HB4) 2, cellOf (unhide HB4) 3⟩
    go_wp2_with fail
    generalize u7.heap.size = X9 at *
    generalize u7.alloc _ = u8 at *
    refine ((unhide CZ) _ _ _ _ _ (unhide HD3) (unhide HS4)).mono ?_
    rintro e u9 ⟨q1, qf, q2, rfl, hd, b⟩
    replace HB3 := hide ((b.block _ (heapLt (unhide HB3))).trans (unhide HB3))
    replace HB4 := hide ((b.block _ (heapLt (unhide HB4))).trans (unhide HB4))
    replace HB5 := hide ((b.block _ (heapLt (unhide HB5))).trans (unhide HB5))
    replace HB7 := hide ((b.block _ (heapLt (unhide HB7))).trans (unhide HB7))
    replace HB9 := hide ((b.block _ (heapLt (unhide HB9))).trans (unhide HB9))
    replace HD3 := hide ((unhide HD3).later b)
    replace HD5 := hide ((unhide HD5).later b)
    replace HD7 := hide ((unhide HD7).later b)
    replace HD9 := hide ((unhide HD9).later b)
    replace HS4 := hide ((unhide HS4).later b)
    replace BW := hide ((unhide BW).trans (b.mono (unhide BW).size))
    clear b
    obtain ⟨ya, yx, yb, yy, yc, yz, i1, i2, i3⟩ := hd.forms
    (try dsimp only at i1 i2 i3)
    subst i1 i2 i3
    have HD11 := hide hd
    clear hd
    (try dsimp only [dkV])
    have bX := below1 u9 (.cells #[.slice ya db3.length yx, .slice yb fl3.length yy, .bool has3, .slice yc jr3.length yz] 26)
    have HB11 := hide (heap_alloc_new u9 (.cells #[.slice ya db3.length yx, .slice yb fl3.length yy, .bool has3, .slice yc jr3.length yz] 26))
    replace HB3 := hide ((bX.block _ (heapLt (unhide HB3))).trans (unhide HB3))
    replace HB4 := hide ((bX.block _ (heapLt (unhide HB4))).trans (unhide HB4))
    replace HB5 := hide ((bX.block _ (heapLt (unhide HB5))).trans (unhide HB5))
    replace HB7 := hide ((bX.block _ (heapLt (unhide HB7))).trans (unhide HB7))
    replace HB9 := hide ((bX.block _ (heapLt (unhide HB9))).trans (unhide HB9))
    replace HD3 := hide ((unhide HD3).later bX)
    replace HD5 := hide ((unhide HD5).later bX)
    replace HD7 := hide ((unhide HD7).later bX)
    replace HD9 := hide ((unhide HD9).later bX)
    replace HD11 := hide ((unhide HD11).later bX)
    replace HS4 := hide ((unhide HS4).later bX)
    replace BW := hide ((unhide BW).trans (bX.mono (unhide BW).size))
    clear bX
    clear x30 x31 x32 x33
    clear x40 x41 x42 x43
    obtain ⟨x90, x91, x92, x93⟩ : _ ∧ _ ∧ _ ∧ _ := ⟨cellOf (unhide HB9) 0, cellOf (unhide HB9) 1, cellOf (unhide HB9) 2, cellOf (unhide HB9) 3⟩
    obtain ⟨x110, x111, x112, x113⟩ : _ ∧ _ ∧ _ ∧ _ := ⟨cellOf (unhide HB11) 0, cellOf (unhide HB11) 1, cellOf (unhide HB11) 2, cellOf (unhide HB11) 3⟩
    go_wp2_with fail
    generalize u9.heap.size = X11 at *
    generalize u9.alloc _ = u10 at *
    clear x90 x91 x92 x93
    clear x110 x111 x112 x113
    refine (luDisk_in _ ⟨db3, fl3, has3, jr3⟩ _ _ _ _ _ _ (unhide HD9) (unhide HD11)).mono ?_
    rintro e u11 ⟨rfl, b⟩
    replace HB3 := hide ((b.block _ (heapLt (unhide HB3))).trans (unhide HB3))
    replace HB4 := hide ((b.block _ (heapLt (unhide HB4))).trans (unhide HB4))
    replace HB5 := hide ((b.block _ (heapLt (unhide HB5))).trans (unhide HB5))
    replace HB7 := hide ((b.block _ (heapLt (unhide HB7))).trans (unhide HB7))
    replace HB9 := hide ((b.block _ (heapLt (unhide HB9))).trans (unhide HB9))
    replace HB11 := hide ((b.block _ (heapLt (unhide HB11))).trans (unhide HB11))
    replace HD3 := hide ((unhide HD3).later b)
    replace HD5 := hide ((unhide HD5).later b)
    replace HD7 := hide ((unhide HD7).later b)
    replace HD9 := hide ((unhide HD9).later b)
    replace HD11 := hide ((unhide HD11).later b)
    replace HS4 := hide ((unhide HS4).later b)
    replace BW := hide ((unhide BW).trans (b.mono (unhide BW).size))
    clear b
    obtain ⟨x70, x71, x72, x73⟩ : _ ∧ _ ∧ _ ∧ _ := ⟨cellOf (unhide HB7) 0, cellOf (unhide HB7) 1, cellOf (unhide HB7) 2, cellOf (unhide HB7) 3⟩
    go_wp2_with fail
    refine (implDiskOk_any _ ⟨db2, fl, has, jr⟩ _ _ _ (unhide HD7).p1 (unhide HD7).r1 (unhide HD7).pf (unhide HD7).p2 (unhide HD7).r2).mono ?_
    rintro e u12 ⟨rfl, b⟩
    replace HB3 := hide ((b.block _ (heapLt (unhide HB3))).trans (unhide HB3))
    replace HB4 := hide ((b.block _ (heapLt (unhide HB4))).trans (unhide HB4))
    replace HB5 := hide ((b.block _ (heapLt (unhide HB5))).trans (unhide HB5))
    replace HB7 := hide ((b.block _ (heapLt (unhide HB7))).trans (unhide HB7))
    replace HB9 := hide ((b.block _ (heapLt (unhide HB9))).trans (unhide HB9))
    replace HB11 := hide ((b.block _ (heapLt (unhide HB11))).trans (unhide HB11))
    replace HD3 := hide ((unhide HD3).later b)
    replace HD5 := hide ((unhide HD5).later b)
    replace HD7 := hide ((unhide HD7).later b)
    replace HD9 := hide ((unhide HD9).later b)
    replace HD11 := hide ((unhide HD11).later b)
    replace HS4 := hide ((unhide HS4).later b)
    replace BW := hide ((unhide BW).trans (b.mono (unhide BW).size))
    clear b
    clear x70 x71 x72 x73
    rw [unhide HO2]
    obtain ⟨x30, x31, x32, x33⟩ : _ ∧ _ ∧ _ ∧ _ := ⟨cellOf (unhide HB3) 0, cellOf (unhide HB3) 1, cellOf (unhide HB3) 2, cellOf (unhide HB3) 3⟩
    obtain ⟨x40, x41, x42, x43⟩ : _ ∧ _ ∧ _ ∧ _ := ⟨cellOf (unhide HB4) 0, cellOf (unhide HB4) 1, cellOf (unhide HB4) 2, cellOf (unhide HB4) 3⟩
    obtain ⟨x70, x71, x72, x73⟩ : _ ∧ _ ∧ _ ∧ _ := ⟨cellOf (unhide HB7) 0, cellOf (unhide HB7) 1, cellOf (unhide HB7) 2, cellOf (unhide HB7) 3⟩
    have hz : ((db2.length : Int) == 0) = true := by rw [unhide HE2]; rfl
    go_wp2_with fail
    refine (luInts_same _ _ _ fl (unhide HD7).pf (unhide HD3).pf).mono ?_
    rintro e u13 ⟨rfl, b⟩
    replace HB3 := hide ((b.block _ (heapLt (unhide HB3))).trans (unhide HB3))
    replace HB4 := hide ((b.block _ (heapLt (unhide HB4))).trans (unhide HB4))
    replace HB5 := hide ((b.block _ (heapLt (unhide HB5))).trans (unhide HB5))
    replace HB7 := hide ((b.block _ (heapLt (unhide HB7))).trans (unhide HB7))
    replace HB9 := hide ((b.block _ (heapLt (unhide HB9))).trans (unhide HB9))
    replace HB11 := hide ((b.block _ (heapLt (unhide HB11))).trans (unhide HB11))
    replace HD3 := hide ((unhide HD3).later b)
    replace HD5 := hide ((unhide HD5).later b)
    replace HD7 := hide ((unhide HD7).later b)
    replace HD9 := hide ((unhide HD9).later b)
    replace HD11 := hide ((unhide HD11).later b)
    replace HS4 := hide ((unhide HS4).later b)
    replace BW := hide ((unhide BW).trans (b.mono (unhide BW).size))
    clear b
    go_wp2
    go_ret
    exact ⟨rfl, unhide BW⟩
  · have hA := tearA_yes hok hsok
    have hO2 := Dk.ok_torn (s := ⟨4, sp, sx, sps⟩) hok
    have hA2 := doA_yes hO2 hsok
    have hA3 := doA_yes hok hsok
    rw [Dk.torn_step] at hA2
    have hT : Dk.D.torn ⟨db, fl, has, jr⟩ ⟨4, sp, sx, sps⟩ = ⟨db, fl, has, jr⟩ := rfl
    rw [hT] at hA hO2 hA2
    clear hT
    generalize Dk.D.step ⟨db, fl, has, jr⟩ ⟨4, sp, sx, sps⟩ = D3 at *
    obtain ⟨db3, fl3, has3, jr3⟩ := D3
    have CI := hide (fun (W : World) (v1 uf v2 pv : Value) (x : DIn W ⟨db, fl, has, jr⟩ v1 uf v2) (y : SIn W ⟨4, sp, sx, sps⟩ pv) => implTear_in W ⟨db, fl, has, jr⟩ ⟨4, sp, sx, sps⟩ v1 uf v2 pv x y)
    rw [hA] at CI
    dsimp only at CI
    have CS := hide (fun (W : World) (v1 uf v2 pv : Value) (x : DIn W ⟨db, fl, has, jr⟩ v1 uf v2) (y : SIn W ⟨4, sp, sx, sps⟩ pv) => specTear_in W ⟨db, fl, has, jr⟩ ⟨4, sp, sx, sps⟩ v1 uf v2 pv x y)
    rw [hA] at CS
    dsimp only at CS
    have CY := hide (fun (W : World) (v1 uf v2 pv : Value) (x : DIn W ⟨db, fl, has, jr⟩ v1 uf v2) (y : SIn W ⟨4, sp, sx, sps⟩ pv) => implDo_in W ⟨db, fl, has, jr⟩ ⟨4, sp, sx, sps⟩ v1 uf v2 pv x y)
    rw [hA2] at CY
    (try dsimp only at CY)
    have CZ := hide (fun (W : World) (v1 uf v2 pv : Value) (x : DIn W ⟨db, fl, has, jr⟩ v1 uf v2) (y : SIn W ⟨4, sp, sx, sps⟩ pv) => implDo_in W ⟨db, fl, has, jr⟩ ⟨4, sp, sx, sps⟩ v1 uf v2 pv x y)
    rw [hA3] at CZ
    (try dsimp only at CZ)
    have HO2 := hide hO2
    clear hA hA2 hA3 hO2 hok hsok hpp hxx hps
    go_wp2_with fail
    generalize hX : u0.heap.size = X3 at *
    clear hX
    generalize World.alloc _ _ = u1 at *
    obtain ⟨x30, x31, x32, x33⟩ : _ ∧ _ ∧ _ ∧ _ := ⟨cellOf (unhide HB3) 0, cellOf (unhide HB3) 1, cellOf (unhide HB3) 2, cellOf (unhide HB3) 3⟩
    obtain ⟨x40, x41, x42, x43⟩ : _ ∧ _ ∧ _ ∧ _ := ⟨cellOf (unhide HB4) 0, cellOf (unhide HB4) 1, cellOf (unhide HB4) 2, cellOf (unhide HB4) 3⟩
    refine ((unhide CS) _ _ _ _ _ (unhide HD3) (unhide HS4)).mono ?_
    rintro e u2 ⟨q1, qf, q2, rfl, hd, b⟩
    replace HB3 := hide ((b.block _ (heapLt (unhide HB3))).trans (unhide HB3))
    replace HB4 := hide ((b.block _ (heapLt (unhide HB4))).trans (unhide HB4))
    replace HD3 := hide ((unhide HD3).later b)
    replace HS4 := hide ((unhide HS4).later b)
    replace BW := hide ((unhide BW).trans (b.mono (unhide BW).size))
    clear b
    clear x30 x31 x32 x33
    clear x40 x41 x42 x43
    obtain ⟨qa, qx, qb, qy, qc, qz, i1, i2, i3⟩ := hd.forms
    (try dsimp only at i1 i2 i3)
    subst i1 i2 i3
    have HD5 := hide hd
    clear hd
    dsimp only [dkV]
    have bX := below1 u2 (.cells #[.slice qa db.length qx, .slice qb fl.length qy, .bool has, .slice qc jr.length qz] 26)
    have HB5 := hide (heap_alloc_new u2 (.cells #[.slice qa db.length qx, .slice qb fl.length qy, .bool has, .slice qc jr.length qz] 26))
    replace HB3 := hide ((bX.block _ (heapLt (unhide HB3))).trans (unhide HB3))
    replace HB4 := hide ((bX.block _ (heapLt (unhide HB4))).trans (unhide HB4))
    replace HD3 := hide ((unhide HD3).later bX)
    replace HD5 := hide ((unhide HD5).later bX)
    replace HS4 := hide ((unhide HS4).later bX)
    replace BW := hide ((unhide BW).trans (bX.mono (unhide BW).size))
    clear bX
    obtain ⟨x30, x31, x32, x33⟩ : _ ∧ _ ∧ _ ∧ _ := ⟨cellOf (unhide HB3) 0, cellOf (unhide HB3) 1, cellOf (unhide HB3) 2, cellOf (unhide HB3) 3⟩
    obtain ⟨x40, x41, x42, x43⟩ : _ ∧ _ ∧ _ ∧ _ := ⟨cellOf (unhide HB4) 0, cellOf (unhide HB4) 1, cellOf (unhide HB4) 2, cellOf (unhide HB4) 3⟩
    go_wp2_with fail
    generalize u2.heap.size = X5 at *
    generalize u2.alloc _ = u3 at *
    refine ((unhide CI) _ _ _ _ _ (unhide HD3) (unhide HS4)).mono ?_
    rintro e u4 ⟨q1, qf, q2, rfl, hd, b⟩
    replace HB3 := hide ((b.block _ (heapLt (unhide HB3))).trans (unhide HB3))
    replace HB4 := hide ((b.block _ (heapLt (unhide HB4))).trans (unhide HB4))
    replace HB5 := hide ((b.block _ (heapLt (unhide HB5))).trans (unhide HB5))
    replace HD3 := hide ((unhide HD3).later b)
    replace HD5 := hide ((unhide HD5).later b)
    replace HS4 := hide ((unhide HS4).later b)
    replace BW := hide ((unhide BW).trans (b.mono (unhide BW).size))
    clear b
    clear x30 x31 x32 x33
    clear x40 x41 x42 x43
    obtain ⟨ra, rx, rb, ry, rc, rz, i1, i2, i3⟩ := hd.forms
    (try dsimp only at i1 i2 i3)
    subst i1 i2 i3
    have HD7 := hide hd
    clear hd
    dsimp only [dkV]
    have bX := below1 u4 (.cells #[.slice ra db.length rx, .slice rb fl.length ry, .bool has, .slice rc jr.length rz] 26)
    have HB7 := hide (heap_alloc_new u4 (.cells #[.slice ra db.length rx, .slice rb fl.length ry, .bool has, .slice rc jr.length rz] 26))
    replace HB3 := hide ((bX.block _ (heapLt (unhide HB3))).trans (unhide HB3))
    replace HB4 := hide ((bX.block _ (heapLt (unhide HB4))).trans (unhide HB4))
    replace HB5 := hide ((bX.block _ (heapLt (unhide HB5))).trans (unhide HB5))
    replace HD3 := hide ((unhide HD3).later bX)
    replace HD5 := hide ((unhide HD5).later bX)
    replace HD7 := hide ((unhide HD7).later bX)
    replace HS4 := hide ((unhide HS4).later bX)
    replace BW := hide ((unhide BW).trans (bX.mono (unhide BW).size))
    clear bX
    obtain ⟨x70, x71, x72, x73⟩ : _ ∧ _ ∧ _ ∧ _ := ⟨cellOf (unhide HB7) 0, cellOf (unhide HB7) 1, cellOf (unhide HB7) 2, cellOf (unhide HB7) 3⟩
    obtain ⟨x50, x51, x52, x53⟩ : _ ∧ _ ∧ _ ∧ _ := ⟨cellOf (unhide HB5) 0, cellOf (unhide HB5) 1, cellOf (unhide HB5) 2, cellOf (unhide HB5) 3⟩
    go_wp2_with fail
    generalize u4.heap.size = X7 at *
    generalize u4.alloc _ = u5 at *
    refine (luDisk_in _ ⟨db, fl, has, jr⟩ _ _ _ _ _ _ (unhide HD7) (unhide HD5)).mono ?_
    rintro e u6 ⟨rfl, b⟩
    replace HB3 := hide ((b.block _ (heapLt (unhide HB3))).trans (unhide HB3))
    replace HB4 := hide ((b.block _ (heapLt (unhide HB4))).trans (unhide HB4))
    replace HB5 := hide ((b.block _ (heapLt (unhide HB5))).trans (unhide HB5))
    replace HB7 := hide ((b.block _ (heapLt (unhide HB7))).trans (unhide HB7))
    replace HD3 := hide ((unhide HD3).later b)
    replace HD5 := hide ((unhide HD5).later b)
    replace HD7 := hide ((unhide HD7).later b)
    replace HS4 := hide ((unhide HS4).later b)
    replace BW := hide ((unhide BW).trans (b.mono (unhide BW).size))
    clear b
    clear x70 x71 x72 x73
    clear x50 x51 x52 x53
    obtain ⟨x70, x71, x72, x73⟩ : _ ∧ _ ∧ _ ∧ _ := ⟨cellOf (unhide HB7) 0, cellOf (unhide HB7) 1, cellOf (unhide HB7) 2, cellOf (unhide HB7) 3⟩
    obtain ⟨x40, x41, x42, x43⟩ : _ ∧ _ ∧ _ ∧ _ := ⟨cellOf (unhide HB4) 0, cellOf (unhide HB4) 1, cellOf (unhide HB4) 2, cellOf (unhide HB4) 3⟩
    go_wp2_with fail
    refine ((unhide CY) _ _ _ _ _ (unhide HD7) (unhide HS4)).mono ?_
    rintro e u7 ⟨q1, qf, q2, rfl, hd, b⟩
    replace HB3 := hide ((b.block _ (heapLt (unhide HB3))).trans (unhide HB3))
    replace HB4 := hide ((b.block _ (heapLt (unhide HB4))).trans (unhide HB4))
    replace HB5 := hide ((b.block _ (heapLt (unhide HB5))).trans (unhide HB5))
    replace HB7 := hide ((b.block _ (heapLt (unhide HB7))).trans (unhide HB7))
    replace HD3 := hide ((unhide HD3).later b)
    replace HD5 := hide ((unhide HD5).later b)
    replace HD7 := hide ((unhide HD7).later b)
    replace HS4 := hide ((unhide HS4).later b)
    replace BW := hide ((unhide BW).trans (b.mono (unhide BW).size))
    clear b
    obtain ⟨ta, tx, tb, ty, tc, tz, i1, i2, i3⟩ := hd.forms
    (try dsimp only at i1 i2 i3)
    subst i1 i2 i3
    have HD9 := hide hd
    clear hd
    (try dsimp only [dkV])
    have bX := below1 u7 (.cells #[.slice ta db3.length tx, .slice tb fl3.length ty, .bool has3, .slice tc jr3.length tz] 26)
    have HB9 := hide (heap_alloc_new u7 (.cells #[.slice ta db3.length tx, .slice tb fl3.length ty, .bool has3, .slice tc jr3.length tz] 26))
    replace HB3 := hide ((bX.block _ (heapLt (unhide HB3))).trans (unhide HB3))
    replace HB4 := hide ((bX.block _ (heapLt (unhide HB4))).trans (unhide HB4))
    replace HB5 := hide ((bX.block _ (heapLt (unhide HB5))).trans (unhide HB5))
    replace HB7 := hide ((bX.block _ (heapLt (unhide HB7))).trans (unhide HB7))
    replace HD3 := hide ((unhide HD3).later bX)
    replace HD5 := hide ((unhide HD5).later bX)
    replace HD7 := hide ((unhide HD7).later bX)
    replace HD9 := hide ((unhide HD9).later bX)
    replace HS4 := hide ((unhide HS4).later bX)
    replace BW := hide ((unhide BW).trans (bX.mono (unhide BW).size))
    clear bX
    clear x70 x71 x72 x73
    clear x40 x41 x42 x43
    obtain ⟨x30, x31, x32, x33⟩ : _ ∧ _ ∧ _ ∧ _ := ⟨cellOf (unhide HB3) 0, cellOf (unhide HB3) 1, cellOf (unhide HB3) 2, cellOf (unhide HB3) 3⟩
    obtain ⟨x40, x41, x42, x43⟩ : _ ∧ _ ∧ _ ∧ _ := ⟨cellOf (unhide HB4) 0, cellOf (unhide HB4) 1, cellOf (unhide HB4) 2, cellOf (unhide HB4) 3⟩
    go_wp2_with fail
    generalize u7.heap.size = X9 at *
    generalize u7.alloc _ = u8 at *
    refine ((unhide CZ) _ _ _ _ _ (unhide HD3) (unhide HS4)).mono ?_
    rintro e u9 ⟨q1, qf, q2, rfl, hd, b⟩
    replace HB3 := hide ((b.block _ (heapLt (unhide HB3))).trans (unhide HB3))
    replace HB4 := hide ((b.block _ (heapLt (unhide HB4))).trans (unhide HB4))
    replace HB5 := hide ((b.block _ (heapLt (unhide HB5))).trans (unhide HB5))
    replace HB7 := hide ((b.block _ (heapLt (unhide HB7))).trans (unhide HB7))
    replace HB9 := hide ((b.block _ (heapLt (unhide HB9))).trans (unhide HB9))
    replace HD3 := hide ((unhide HD3).later b)
    replace HD5 := hide ((unhide HD5).later b)
    replace HD7 := hide ((unhide HD7).later b)
    replace HD9 := hide ((unhide HD9).later b)
    replace HS4 := hide ((unhide HS4).later b)
    replace BW := hide ((unhide BW).trans (b.mono (unhide BW).size))
    clear b
    obtain ⟨ya, yx, yb, yy, yc, yz, i1, i2, i3⟩ := hd.forms
    (try dsimp only at i1 i2 i3)
    subst i1 i2 i3
    have HD11 := hide hd
    clear hd
    (try dsimp only [dkV])
    have bX := below1 u9 (.cells #[.slice ya db3.length yx, .slice yb fl3.length yy, .bool has3, .slice yc jr3.length yz] 26)
    have HB11 := hide (heap_alloc_new u9 (.cells #[.slice ya db3.length yx, .slice yb fl3.length yy, .bool has3, .slice yc jr3.length yz] 26))
    replace HB3 := hide ((bX.block _ (heapLt (unhide HB3))).trans (unhide HB3))
    replace HB4 := hide ((bX.block _ (heapLt (unhide HB4))).trans (unhide HB4))
    replace HB5 := hide ((bX.block _ (heapLt (unhide HB5))).trans (unhide HB5))
    replace HB7 := hide ((bX.block _ (heapLt (unhide HB7))).trans (unhide HB7))
    replace HB9 := hide ((bX.block _ (heapLt (unhide HB9))).trans (unhide HB9))
    replace HD3 := hide ((unhide HD3).later bX)
    replace HD5 := hide ((unhide HD5).later bX)
    replace HD7 := hide ((unhide HD7).later bX)
    replace HD9 := hide ((unhide HD9).later bX)
    replace HD11 := hide ((unhide HD11).later bX)
    replace HS4 := hide ((unhide HS4).later bX)
    replace BW := hide ((unhide BW).trans (bX.mono (unhide BW).size))
    clear bX
    clear x30 x31 x32 x33
    clear x40 x41 x42 x43
    obtain ⟨x90, x91, x92, x93⟩ : _ ∧ _ ∧ _ ∧ _ := ⟨cellOf (unhide HB9) 0, cellOf (unhide HB9) 1, cellOf (unhide HB9) 2, cellOf (unhide HB9) 3⟩
    obtain ⟨x110, x111, x112, x113⟩ : _ ∧ _ ∧ _ ∧ _ := ⟨cellOf (unhide HB11) 0, cellOf (unhide HB11) 1, cellOf (unhide HB11) 2, cellOf (unhide HB11) 3⟩
    go_wp2_with fail
    generalize u9.heap.size = X11 at *
    generalize u9.alloc _ = u10 at *
    clear x90 x91 x92 x93
    clear x110 x111 x112 x113
    refine (luDisk_in _ ⟨db3, fl3, has3, jr3⟩ _ _ _ _ _ _ (unhide HD9) (unhide HD11)).mono ?_
    rintro e u11 ⟨rfl, b⟩
    replace HB3 := hide ((b.block _ (heapLt (unhide HB3))).trans (unhide HB3))
    replace HB4 := hide ((b.block _ (heapLt (unhide HB4))).trans (unhide HB4))
    replace HB5 := hide ((b.block _ (heapLt (unhide HB5))).trans (unhide HB5))
    replace HB7 := hide ((b.block _ (heapLt (unhide HB7))).trans (unhide HB7))
    replace HB9 := hide ((b.block _ (heapLt (unhide HB9))).trans (unhide HB9))
    replace HB11 := hide ((b.block _ (heapLt (unhide HB11))).trans (unhide HB11))
    replace HD3 := hide ((unhide HD3).later b)
    replace HD5 := hide ((unhide HD5).later b)
    replace HD7 := hide ((unhide HD7).later b)
    replace HD9 := hide ((unhide HD9).later b)
    replace HD11 := hide ((unhide HD11).later b)
    replace HS4 := hide ((unhide HS4).later b)
    replace BW := hide ((unhide BW).trans (b.mono (unhide BW).size))
    clear b
    obtain ⟨x70, x71, x72, x73⟩ : _ ∧ _ ∧ _ ∧ _ := ⟨cellOf (unhide HB7) 0, cellOf (unhide HB7) 1, cellOf (unhide HB7) 2, cellOf (unhide HB7) 3⟩
    go_wp2_with fail
    refine (implDiskOk_any _ ⟨db, fl, has, jr⟩ _ _ _ (unhide HD7).p1 (unhide HD7).r1 (unhide HD7).pf (unhide HD7).p2 (unhide HD7).r2).mono ?_
    rintro e u12 ⟨rfl, b⟩
    replace HB3 := hide ((b.block _ (heapLt (unhide HB3))).trans (unhide HB3))
    replace HB4 := hide ((b.block _ (heapLt (unhide HB4))).trans (unhide HB4))
    replace HB5 := hide ((b.block _ (heapLt (unhide HB5))).trans (unhide HB5))
    replace HB7 := hide ((b.block _ (heapLt (unhide HB7))).trans (unhide HB7))
    replace HB9 := hide ((b.block _ (heapLt (unhide HB9))).trans (unhide HB9))
    replace HB11 := hide ((b.block _ (heapLt (unhide HB11))).trans (unhide HB11))
    replace HD3 := hide ((unhide HD3).later b)
    replace HD5 := hide ((unhide HD5).later b)
    replace HD7 := hide ((unhide HD7).later b)
    replace HD9 := hide ((unhide HD9).later b)
    replace HD11 := hide ((unhide HD11).later b)
    replace HS4 := hide ((unhide HS4).later b)
    replace BW := hide ((unhide BW).trans (b.mono (unhide BW).size))
    clear b
    clear x70 x71 x72 x73
    rw [unhide HO2]
    obtain ⟨x30, x31, x32, x33⟩ : _ ∧ _ ∧ _ ∧ _ := ⟨cellOf (unhide HB3) 0, cellOf (unhide HB3) 1, cellOf (unhide HB3) 2, cellOf (unhide HB3) 3⟩
    obtain ⟨x40, x41, x42, x43⟩ : _ ∧ _ ∧ _ ∧ _ := ⟨cellOf (unhide HB4) 0, cellOf (unhide HB4) 1, cellOf (unhide HB4) 2, cellOf (unhide HB4) 3⟩
    obtain ⟨x70, x71, x72, x73⟩ : _ ∧ _ ∧ _ ∧ _ := ⟨cellOf (unhide HB7) 0, cellOf (unhide HB7) 1, cellOf (unhide HB7) 2, cellOf (unhide HB7) 3⟩
    go_wp2_with fail
    refine (luDisk_in _ ⟨db, fl, has, jr⟩ _ _ _ _ _ _ (unhide HD7) (unhide HD3)).mono ?_
    rintro e u13 ⟨rfl, b⟩
    replace HB3 := hide ((b.block _ (heapLt (unhide HB3))).trans (unhide HB3))
    replace HB4 := hide ((b.block _ (heapLt (unhide HB4))).trans (unhide HB4))
    replace HB5 := hide ((b.block _ (heapLt (unhide HB5))).trans (unhide HB5))
    replace HB7 := hide ((b.block _ (heapLt (unhide HB7))).trans (unhide HB7))
    replace HB9 := hide ((b.block _ (heapLt (unhide HB9))).trans (unhide HB9))
    replace HB11 := hide ((b.block _ (heapLt (unhide HB11))).trans (unhide HB11))
    replace HD3 := hide ((unhide HD3).later b)
    replace HD5 := hide ((unhide HD5).later b)
    replace HD7 := hide ((unhide HD7).later b)
    replace HD9 := hide ((unhide HD9).later b)
    replace HD11 := hide ((unhide HD11).later b)
    replace HS4 := hide ((unhide HS4).later b)
    replace BW := hide ((unhide BW).trans (b.mono (unhide BW).size))
    clear b
    clear x30 x31 x32 x33
    clear x40 x41 x42 x43
    clear x70 x71 x72 x73
    go_wp2
    go_ret
    exact ⟨rfl, unhide BW⟩
end Go.Proofs.YtognimdifchnkaaGreatDoor
