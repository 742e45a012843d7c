import Derived.Test.YtpjpgofllnnemaaDoorMix26
/- The walk of FnDiskDo: it returns true and leaves what was there; for every row of bytes. -/
namespace Go.Proofs.YtpjpgofllnnemaaDoor
open Go.RowKit

attribute [local go_sem ↓] Go.wp_at_zero Go.wp_at_succ

set_option linter.unusedSimpArgs false in
set_option maxHeartbeats 16000000 in
set_option maxRecDepth 100000 in
theorem diskDo_walk (w : World) (a : Option Addr) (len cap : Nat) (h : Bytes w a len cap) :
    Calls Tryd.prog 4 #[.slice a len cap] w fun e w' => e = .returned (.bool true) ∧ Below w.heap.size w w' := by
  by_cases hbig : (1048576 : Int) < (len : Int)
  · go_enter Tryd.func4, Tryd.ntmps4
    go_wp2
    go_ret
    exact ⟨rfl, Below.refl _ _⟩
  have CD := hide (drawDiskDo_any w a len cap h)
  clear h
  go_enter Tryd.func4, Tryd.ntmps4
  go_wp2_with fail
  refine (unhide CD).mono ?_
  rintro e u0 ⟨D, v1, uf, v2, s, pv, rfl, hd, hs, b1⟩
  obtain ⟨db, fl, has, jr⟩ := D
  obtain ⟨sk, sp, sx, sps⟩ := s
  obtain ⟨pa, px, pb, py, pc, pz, i1, i2, i3⟩ := hd.forms
  obtain ⟨sa, sc, i4⟩ := hs.p.slice
  dsimp only at i1 i2 i3 i4
  subst i1 i2 i3 i4
  obtain ⟨k0, k1, k2⟩ := two_boxesD u0 (.cells #[.slice pa db.length px, .slice pb fl.length py, .bool has, .slice pc jr.length pz] 26) (.cells #[.int .i64 sk, .int .i64 sp, .int .i64 sx, .slice sa sps.length sc] 34)
  have HB3 := hide k1
  have HB4 := hide k2
  have HD3 := hide (hd.later k0)
  have HS4 := hide (hs.later k0)
  have BW := hide (b1.trans (k0.mono b1.size))
  clear hd hs b1 k0 k1 k2 CD
  dsimp only [dkV, stV]
  by_cases hyes : Dk.D.ok ⟨db, fl, has, jr⟩ = true ∧ Dk.S.ok ⟨sk, sp, sx, sps⟩ = true
  rotate_left
  · have hA := doA_no hyes
    clear hyes
    generalize (⟨[], [], false, []⟩ : Dk.D) = D2 at *
    obtain ⟨db2, fl2, has2, jr2⟩ := D2
    have CI := hide (fun (W : World) (v1 uf v2 pv : Value) (x : DIn W ⟨db, fl, has, jr⟩ v1 uf v2) (y : SIn W ⟨sk, sp, sx, sps⟩ pv) => implDo_in W ⟨db, fl, has, jr⟩ ⟨sk, sp, sx, sps⟩ v1 uf v2 pv x y)
    rw [hA] at CI
    dsimp only at CI
    have CS := hide (fun (W : World) (v1 uf v2 pv : Value) (x : DIn W ⟨db, fl, has, jr⟩ v1 uf v2) (y : SIn W ⟨sk, sp, sx, sps⟩ pv) => specDo_in W ⟨db, fl, has, jr⟩ ⟨sk, sp, sx, sps⟩ v1 uf v2 pv x y)
    rw [hA] at CS
    dsimp only at CS
    go_wp2_with fail
    generalize hX : u0.heap.size = X3 at *
    clear hX
    generalize World.alloc _ _ = u1 at *
    obtain ⟨x30, x31, x32, x33⟩ : _ ∧ _ ∧ _ ∧ _ := ⟨cellOf (unhide HB3) 0, cellOf (unhide HB3) 1, cellOf (unhide HB3) 2, cellOf (unhide HB3) 3⟩
    obtain ⟨x40, x41, x42, x43⟩ : _ ∧ _ ∧ _ ∧ _ := ⟨cellOf (unhide HB4) 0, cellOf (unhide HB4) 1, cellOf (unhide HB4) 2, cellOf (unhide HB4) 3⟩
    refine ((unhide CS) _ _ _ _ _ (unhide HD3) (unhide HS4)).mono ?_
    rintro e u2 ⟨q1, qf, q2, rfl, hd, b⟩
    replace HB3 := hide ((b.block _ (heapLt (unhide HB3))).trans (unhide HB3))
    replace HB4 := hide ((b.block _ (heapLt (unhide HB4))).trans (unhide HB4))
    replace HD3 := hide ((unhide HD3).later b)
    replace HS4 := hide ((unhide HS4).later b)
    replace BW := hide ((unhide BW).trans (b.mono (unhide BW).size))
    clear b
    clear x30 x31 x32 x33
    clear x40 x41 x42 x43
    obtain ⟨qa, qx, qb, qy, qc, qz, i1, i2, i3⟩ := hd.forms
    (try dsimp only at i1 i2 i3)
    subst i1 i2 i3
    have HD5 := hide hd
    clear hd
    dsimp only [dkV]
    have bX := below1 u2 (.cells #[.slice qa db2.length qx, .slice qb fl2.length qy, .bool has2, .slice qc jr2.length qz] 26)
    have HB5 := hide (heap_alloc_new u2 (.cells #[.slice qa db2.length qx, .slice qb fl2.length qy, .bool has2, .slice qc jr2.length qz] 26))
    replace HB3 := hide ((bX.block _ (heapLt (unhide HB3))).trans (unhide HB3))
    replace HB4 := hide ((bX.block _ (heapLt (unhide HB4))).trans (unhide HB4))
    replace HD3 := hide ((unhide HD3).later bX)
    replace HD5 := hide ((unhide HD5).later bX)
    replace HS4 := hide ((unhide HS4).later bX)
    replace BW := hide ((unhide BW).trans (bX.mono (unhide BW).size))
    clear bX
    obtain ⟨x30, x31, x32, x33⟩ : _ ∧ _ ∧ _ ∧ _ := ⟨cellOf (unhide HB3) 0, cellOf (unhide HB3) 1, cellOf (unhide HB3) 2, cellOf (unhide HB3) 3⟩
    obtain ⟨x40, x41, x42, x43⟩ : _ ∧ _ ∧ _ ∧ _ := ⟨cellOf (unhide HB4) 0, cellOf (unhide HB4) 1, cellOf (unhide HB4) 2, cellOf (unhide HB4) 3⟩
    go_wp2_with fail
    generalize u2.heap.size = X5 at *
    generalize u2.alloc _ = u3 at *
    refine ((unhide CI) _ _ _ _ _ (unhide HD3) (unhide HS4)).mono ?_
    rintro e u4 ⟨q1, qf, q2, rfl, hd, b⟩
    replace HB3 := hide ((b.block _ (heapLt (unhide HB3))).trans (unhide HB3))
    replace HB4 := hide ((b.block _ (heapLt (unhide HB4))).trans (unhide HB4))
    replace HB5 := hide ((b.block _ (heapLt (unhide HB5))).trans (unhide HB5))
    replace HD3 := hide ((unhide HD3).later b)
    replace HD5 := hide ((unhide HD5).later b)
    replace HS4 := hide ((unhide HS4).later b)
    replace BW := hide ((unhide BW).trans (b.mono (unhide BW).size))
    clear b
    clear x30 x31 x32 x33
    clear x40 x41 x42 x43
    obtain ⟨ra, rx, rb, ry, rc, rz, i1, i2, i3⟩ := hd.forms
    (try dsimp only at i1 i2 i3)
    subst i1 i2 i3
    have HD7 := hide hd
    clear hd
    dsimp only [dkV]
    have bX := below1 u4 (.cells #[.slice ra db2.length rx, .slice rb fl2.length ry, .bool has2, .slice rc jr2.length rz] 26)
    have HB7 := hide (heap_alloc_new u4 (.cells #[.slice ra db2.length rx, .slice rb fl2.length ry, .bool has2, .slice rc jr2.length rz] 26))
    replace HB3 := hide ((bX.block _ (heapLt (unhide HB3))).trans (unhide HB3))
    replace HB4 := hide ((bX.block _ (heapLt (unhide HB4))).trans (unhide HB4))
    replace HB5 := hide ((bX.block _ (heapLt (unhide HB5))).trans (unhide HB5))
    replace HD3 := hide ((unhide HD3).later bX)
    replace HD5 := hide ((unhide HD5).later bX)
    replace HD7 := hide ((unhide HD7).later bX)
    replace HS4 := hide ((unhide HS4).later bX)
    replace BW := hide ((unhide BW).trans (bX.mono (unhide BW).size))
    clear bX
    obtain ⟨x70, x71, x72, x73⟩ : _ ∧ _ ∧ _ ∧ _ := ⟨cellOf (unhide HB7) 0, cellOf (unhide HB7) 1, cellOf (unhide HB7) 2, cellOf (unhide HB7) 3⟩
    obtain ⟨x50, x51, x52, x53⟩ : _ ∧ _ ∧ _ ∧ _ := ⟨cellOf (unhide HB5) 0, cellOf (unhide HB5) 1, cellOf (unhide HB5) 2, cellOf (unhide HB5) 3⟩
    go_wp2_with fail
    generalize u4.heap.size = X7 at *
    generalize u4.alloc _ = u5 at *
    refine (luDisk_in _ ⟨db2, fl2, has2, jr2⟩ _ _ _ _ _ _ (unhide HD7) (unhide HD5)).mono ?_
    rintro e u6 ⟨rfl, b⟩
    replace HB3 := hide ((b.block _ (heapLt (unhide HB3))).trans (unhide HB3))
    replace HB4 := hide ((b.block _ (heapLt (unhide HB4))).trans (unhide HB4))
    replace HB5 := hide ((b.block _ (heapLt (unhide HB5))).trans (unhide HB5))
    replace HB7 := hide ((b.block _ (heapLt (unhide HB7))).trans (unhide HB7))
    replace HD3 := hide ((unhide HD3).later b)
    replace HD5 := hide ((unhide HD5).later b)
    replace HD7 := hide ((unhide HD7).later b)
    replace HS4 := hide ((unhide HS4).later b)
    replace BW := hide ((unhide BW).trans (b.mono (unhide BW).size))
    clear b
    clear x70 x71 x72 x73
    clear x50 x51 x52 x53
    obtain ⟨x70, x71, x72, x73⟩ : _ ∧ _ ∧ _ ∧ _ := ⟨cellOf (unhide HB7) 0, cellOf (unhide HB7) 1, cellOf (unhide HB7) 2, cellOf (unhide HB7) 3⟩
    obtain ⟨x50, x51, x52, x53⟩ : _ ∧ _ ∧ _ ∧ _ := ⟨cellOf (unhide HB5) 0, cellOf (unhide HB5) 1, cellOf (unhide HB5) 2, cellOf (unhide HB5) 3⟩
    go_wp2_with fail
    refine (luDisk_in _ ⟨db2, fl2, has2, jr2⟩ _ _ _ _ _ _ (unhide HD7) (unhide HD5)).mono ?_
    rintro e u7 ⟨rfl, b⟩
    replace HB3 := hide ((b.block _ (heapLt (unhide HB3))).trans (unhide HB3))
    replace HB4 := hide ((b.block _ (heapLt (unhide HB4))).trans (unhide HB4))
    replace HB5 := hide ((b.block _ (heapLt (unhide HB5))).trans (unhide HB5))
    replace HB7 := hide ((b.block _ (heapLt (unhide HB7))).trans (unhide HB7))
    replace HD3 := hide ((unhide HD3).later b)
    replace HD5 := hide ((unhide HD5).later b)
    replace HD7 := hide ((unhide HD7).later b)
    replace HS4 := hide ((unhide HS4).later b)
    replace BW := hide ((unhide BW).trans (b.mono (unhide BW).size))
    clear b
    go_wp2
    go_ret
    exact ⟨rfl, unhide BW⟩
  obtain ⟨hok, hsok⟩ := hyes
  obtain ⟨hkk, hpp, hxx, hps⟩ := Dk.S.ok_get hsok
  dsimp only at hkk hpp hxx hps
  rcases hkk with rfl | rfl | rfl | rfl
  · have hA := doA_yes hok hsok
    have hA2 := doA_yes (Dk.ok_step hok hsok) hsok
    have hO2 := Dk.ok_step hok hsok
    rw [Dk.step_step] at hA2
    rw [Dk.step_jour _ _ rfl] at hA hA2 hO2
    dsimp only at hA hA2 hO2
    have CI := hide (fun (W : World) (v1 uf v2 pv : Value) (x : DIn W ⟨db, fl, has, jr⟩ v1 uf v2) (y : SIn W ⟨1, sp, sx, sps⟩ pv) => implDo_in W ⟨db, fl, has, jr⟩ ⟨1, sp, sx, sps⟩ v1 uf v2 pv x y)
    rw [hA] at CI
    dsimp only at CI
    have CS := hide (fun (W : World) (v1 uf v2 pv : Value) (x : DIn W ⟨db, fl, has, jr⟩ v1 uf v2) (y : SIn W ⟨1, sp, sx, sps⟩ pv) => specDo_in W ⟨db, fl, has, jr⟩ ⟨1, sp, sx, sps⟩ v1 uf v2 pv x y)
    rw [hA] at CS
    dsimp only at CS
    have HO2 := hide hO2
    have CY := hide (fun (W : World) (v1 uf v2 pv : Value) (x : DIn W ⟨db, fl, true, sps⟩ v1 uf v2) (y : SIn W ⟨1, sp, sx, sps⟩ pv) => implDo_in W ⟨db, fl, true, sps⟩ ⟨1, sp, sx, sps⟩ v1 uf v2 pv x y)
    rw [hA2] at CY
    dsimp only at CY
    clear hA hA2 hO2 hok hsok hpp hxx hps
    go_wp2_with fail
    generalize hX : u0.heap.size = X3 at *
    clear hX
    generalize World.alloc _ _ = u1 at *
    obtain ⟨x30, x31, x32, x33⟩ : _ ∧ _ ∧ _ ∧ _ := ⟨cellOf (unhide HB3) 0, cellOf (unhide HB3) 1, cellOf (unhide HB3) 2, cellOf (unhide HB3) 3⟩
    obtain ⟨x40, x41, x42, x43⟩ : _ ∧ _ ∧ _ ∧ _ := ⟨cellOf (unhide HB4) 0, cellOf (unhide HB4) 1, cellOf (unhide HB4) 2, cellOf (unhide HB4) 3⟩
    refine ((unhide CS) _ _ _ _ _ (unhide HD3) (unhide HS4)).mono ?_
    rintro e u2 ⟨q1, qf, q2, rfl, hd, b⟩
    replace HB3 := hide ((b.block _ (heapLt (unhide HB3))).trans (unhide HB3))
    replace HB4 := hide ((b.block _ (heapLt (unhide HB4))).trans (unhide HB4))
    replace HD3 := hide ((unhide HD3).later b)
    replace HS4 := hide ((unhide HS4).later b)
    replace BW := hide ((unhide BW).trans (b.mono (unhide BW).size))
    clear b
    clear x30 x31 x32 x33
    clear x40 x41 x42 x43
    obtain ⟨qa, qx, qb, qy, qc, qz, i1, i2, i3⟩ := hd.forms
    (try dsimp only at i1 i2 i3)
    subst i1 i2 i3
    have HD5 := hide hd
    clear hd
    dsimp only [dkV]
    have bX := below1 u2 (.cells #[.slice qa db.length qx, .slice qb fl.length qy, .bool true, .slice qc sps.length qz] 26)
    have HB5 := hide (heap_alloc_new u2 (.cells #[.slice qa db.length qx, .slice qb fl.length qy, .bool true, .slice qc sps.length qz] 26))
    replace HB3 := hide ((bX.block _ (heapLt (unhide HB3))).trans (unhide HB3))
    replace HB4 := hide ((bX.block _ (heapLt (unhide HB4))).trans (unhide HB4))
    replace HD3 := hide ((unhide HD3).later bX)
    replace HD5 := hide ((unhide HD5).later bX)
    replace HS4 := hide ((unhide HS4).later bX)
    replace BW := hide ((unhide BW).trans (bX.mono (unhide BW).size))
    clear bX
    obtain ⟨x30, x31, x32, x33⟩ : _ ∧ _ ∧ _ ∧ _ := ⟨cellOf (unhide HB3) 0, cellOf (unhide HB3) 1, cellOf (unhide HB3) 2, cellOf (unhide HB3) 3⟩
    obtain ⟨x40, x41, x42, x43⟩ : _ ∧ _ ∧ _ ∧ _ := ⟨cellOf (unhide HB4) 0, cellOf (unhide HB4) 1, cellOf (unhide HB4) 2, cellOf (unhide HB4) 3⟩
    go_wp2_with fail
    generalize u2.heap.size = X5 at *
    generalize u2.alloc _ = u3 at *
    refine ((unhide CI) _ _ _ _ _ (unhide HD3) (unhide HS4)).mono ?_
    rintro e u4 ⟨q1, qf, q2, rfl, hd, b⟩
    replace HB3 := hide ((b.block _ (heapLt (unhide HB3))).trans (unhide HB3))
    replace HB4 := hide ((b.block _ (heapLt (unhide HB4))).trans (unhide HB4))
    replace HB5 := hide ((b.block _ (heapLt (unhide HB5))).trans (unhide HB5))
    replace HD3 := hide ((unhide HD3).later b)
    replace HD5 := hide ((unhide HD5).later b)
    replace HS4 := hide ((unhide HS4).later b)
    replace BW := hide ((unhide BW).trans (b.mono (unhide BW).size))
    clear b
    clear x30 x31 x32 x33
    clear x40 x41 x42 x43
    obtain ⟨ra, rx, rb, ry, rc, rz, i1, i2, i3⟩ := hd.forms
    (try dsimp only at i1 i2 i3)
    subst i1 i2 i3
    have HD7 := hide hd
    clear hd
    dsimp only [dkV]
    have bX := below1 u4 (.cells #[.slice ra db.length rx, .slice rb fl.length ry, .bool true, .slice rc sps.length rz] 26)
    have HB7 := hide (heap_alloc_new u4 (.cells #[.slice ra db.length rx, .slice rb fl.length ry, .bool true, .slice rc sps.length rz] 26))
    replace HB3 := hide ((bX.block _ (heapLt (unhide HB3))).trans (unhide HB3))
    replace HB4 := hide ((bX.block _ (heapLt (unhide HB4))).trans (unhide HB4))
    replace HB5 := hide ((bX.block _ (heapLt (unhide HB5))).trans (unhide HB5))
    replace HD3 := hide ((unhide HD3).later bX)
    replace HD5 := hide ((unhide HD5).later bX)
    replace HD7 := hide ((unhide HD7).later bX)
    replace HS4 := hide ((unhide HS4).later bX)
    replace BW := hide ((unhide BW).trans (bX.mono (unhide BW).size))
    clear bX
    obtain ⟨x70, x71, x72, x73⟩ : _ ∧ _ ∧ _ ∧ _ := ⟨cellOf (unhide HB7) 0, cellOf (unhide HB7) 1, cellOf (unhide HB7) 2, cellOf (unhide HB7) 3⟩
    obtain ⟨x50, x51, x52, x53⟩ : _ ∧ _ ∧ _ ∧ _ := ⟨cellOf (unhide HB5) 0, cellOf (unhide HB5) 1, cellOf (unhide HB5) 2, cellOf (unhide HB5) 3⟩
    go_wp2_with fail
    generalize u4.heap.size = X7 at *
    generalize u4.alloc _ = u5 at *
    refine (luDisk_in _ ⟨db, fl, true, sps⟩ _ _ _ _ _ _ (unhide HD7) (unhide HD5)).mono ?_
    rintro e u6 ⟨rfl, b⟩
    replace HB3 := hide ((b.block _ (heapLt (unhide HB3))).trans (unhide HB3))
    replace HB4 := hide ((b.block _ (heapLt (unhide HB4))).trans (unhide HB4))
    replace HB5 := hide ((b.block _ (heapLt (unhide HB5))).trans (unhide HB5))
    replace HB7 := hide ((b.block _ (heapLt (unhide HB7))).trans (unhide HB7))
    replace HD3 := hide ((unhide HD3).later b)
    replace HD5 := hide ((unhide HD5).later b)
    replace HD7 := hide ((unhide HD7).later b)
    replace HS4 := hide ((unhide HS4).later b)
    replace BW := hide ((unhide BW).trans (b.mono (unhide BW).size))
    clear b
    clear x70 x71 x72 x73
    clear x50 x51 x52 x53
    obtain ⟨x70, x71, x72, x73⟩ : _ ∧ _ ∧ _ ∧ _ := ⟨cellOf (unhide HB7) 0, cellOf (unhide HB7) 1, cellOf (unhide HB7) 2, cellOf (unhide HB7) 3⟩
    obtain ⟨x40, x41, x42, x43⟩ : _ ∧ _ ∧ _ ∧ _ := ⟨cellOf (unhide HB4) 0, cellOf (unhide HB4) 1, cellOf (unhide HB4) 2, cellOf (unhide HB4) 3⟩
    go_wp2_with fail
    refine ((unhide CY) _ _ _ _ _ (unhide HD7) (unhide HS4)).mono ?_
    rintro e u7 ⟨q1, qf, q2, rfl, hd, b⟩
    replace HB3 := hide ((b.block _ (heapLt (unhide HB3))).trans (unhide HB3))
    replace HB4 := hide ((b.block _ (heapLt (unhide HB4))).trans (unhide HB4))
    replace HB5 := hide ((b.block _ (heapLt (unhide HB5))).trans (unhide HB5))
    replace HB7 := hide ((b.block _ (heapLt (unhide HB7))).trans (unhide HB7))
    replace HD3 := hide ((unhide HD3).later b)
    replace HD5 := hide ((unhide HD5).later b)
    replace HD7 := hide ((unhide HD7).later b)
    replace HS4 := hide ((unhide HS4).later b)
    replace BW := hide ((unhide BW).trans (b.mono (unhide BW).size))
    clear b
    clear x70 x71 x72 x73
    clear x40 x41 x42 x43
    obtain ⟨ta, tx, tb, ty, tc, tz, i1, i2, i3⟩ := hd.forms
    (try dsimp only at i1 i2 i3)
    subst i1 i2 i3
    have HD9 := hide hd
    clear hd
    dsimp only [dkV]
    have bX := below1 u7 (.cells #[.slice ta db.length tx, .slice tb fl.length ty, .bool true, .slice tc sps.length tz] 26)
    have HB9 := hide (heap_alloc_new u7 (.cells #[.slice ta db.length tx, .slice tb fl.length ty, .bool true, .slice tc sps.length tz] 26))
    replace HB3 := hide ((bX.block _ (heapLt (unhide HB3))).trans (unhide HB3))
    replace HB4 := hide ((bX.block _ (heapLt (unhide HB4))).trans (unhide HB4))
    replace HB5 := hide ((bX.block _ (heapLt (unhide HB5))).trans (unhide HB5))
    replace HB7 := hide ((bX.block _ (heapLt (unhide HB7))).trans (unhide HB7))
    replace HD3 := hide ((unhide HD3).later bX)
    replace HD5 := hide ((unhide HD5).later bX)
    replace HD7 := hide ((unhide HD7).later bX)
    replace HD9 := hide ((unhide HD9).later bX)
    replace HS4 := hide ((unhide HS4).later bX)
    replace BW := hide ((unhide BW).trans (bX.mono (unhide BW).size))
    clear bX
    obtain ⟨x70, x71, x72, x73⟩ : _ ∧ _ ∧ _ ∧ _ := ⟨cellOf (unhide HB7) 0, cellOf (unhide HB7) 1, cellOf (unhide HB7) 2, cellOf (unhide HB7) 3⟩
    go_wp2_with fail
    generalize u7.heap.size = X9 at *
    generalize u7.alloc _ = u8 at *
    clear x70 x71 x72 x73
    refine (luDisk_in _ ⟨db, fl, true, sps⟩ _ _ _ _ _ _ (unhide HD7) (unhide HD9)).mono ?_
    rintro e u9 ⟨rfl, b⟩
    replace HB3 := hide ((b.block _ (heapLt (unhide HB3))).trans (unhide HB3))
    replace HB4 := hide ((b.block _ (heapLt (unhide HB4))).trans (unhide HB4))
    replace HB5 := hide ((b.block _ (heapLt (unhide HB5))).trans (unhide HB5))
    replace HB7 := hide ((b.block _ (heapLt (unhide HB7))).trans (unhide HB7))
    replace HB9 := hide ((b.block _ (heapLt (unhide HB9))).trans (unhide HB9))
    replace HD3 := hide ((unhide HD3).later b)
    replace HD5 := hide ((unhide HD5).later b)
    replace HD7 := hide ((unhide HD7).later b)
    replace HD9 := hide ((unhide HD9).later b)
    replace HS4 := hide ((unhide HS4).later b)
    replace BW := hide ((unhide BW).trans (b.mono (unhide BW).size))
    clear b
    obtain ⟨x70, x71, x72, x73⟩ : _ ∧ _ ∧ _ ∧ _ := ⟨cellOf (unhide HB7) 0, cellOf (unhide HB7) 1, cellOf (unhide HB7) 2, cellOf (unhide HB7) 3⟩
    go_wp2_with fail
    refine (implDiskOk_any _ ⟨db, fl, true, sps⟩ _ _ _ (unhide HD7).p1 (unhide HD7).r1 (unhide HD7).pf (unhide HD7).p2 (unhide HD7).r2).mono ?_
    rintro e u10 ⟨rfl, b⟩
    replace HB3 := hide ((b.block _ (heapLt (unhide HB3))).trans (unhide HB3))
    replace HB4 := hide ((b.block _ (heapLt (unhide HB4))).trans (unhide HB4))
    replace HB5 := hide ((b.block _ (heapLt (unhide HB5))).trans (unhide HB5))
    replace HB7 := hide ((b.block _ (heapLt (unhide HB7))).trans (unhide HB7))
    replace HB9 := hide ((b.block _ (heapLt (unhide HB9))).trans (unhide HB9))
    replace HD3 := hide ((unhide HD3).later b)
    replace HD5 := hide ((unhide HD5).later b)
    replace HD7 := hide ((unhide HD7).later b)
    replace HD9 := hide ((unhide HD9).later b)
    replace HS4 := hide ((unhide HS4).later b)
    replace BW := hide ((unhide BW).trans (b.mono (unhide BW).size))
    clear b
    clear x70 x71 x72 x73
    rw [unhide HO2]
    obtain ⟨x70, x71, x72, x73⟩ : _ ∧ _ ∧ _ ∧ _ := ⟨cellOf (unhide HB7) 0, cellOf (unhide HB7) 1, cellOf (unhide HB7) 2, cellOf (unhide HB7) 3⟩
    have BU := hide (below1 u10 (.cells #[.slice ra db.length rx, .slice rb fl.length ry, .bool true, .slice rc sps.length rz] 26))
    have HZ := hide (heap_alloc_new u10 (.cells #[.slice ra db.length rx, .slice rb fl.length ry, .bool true, .slice rc sps.length rz] 26))
    have x40 := cellOf (((unhide BU).block _ (heapLt (unhide HB4))).trans (unhide HB4)) 0
    go_upto_region 14 with fail
    generalize World.alloc u10 _ = z1 at *
    clear x40
    clear x70 x71 x72 x73
    obtain ⟨x30, x31, x32, x33⟩ : _ ∧ _ ∧ _ ∧ _ := ⟨cellOf (((unhide BU).block _ (heapLt (unhide HB3))).trans (unhide HB3)) 0, cellOf (((unhide BU).block _ (heapLt (unhide HB3))).trans (unhide HB3)) 1, cellOf (((unhide BU).block _ (heapLt (unhide HB3))).trans (unhide HB3)) 2, cellOf (((unhide BU).block _ (heapLt (unhide HB3))).trans (unhide HB3)) 3⟩
    obtain ⟨x70, x71, x72, x73⟩ : _ ∧ _ ∧ _ ∧ _ := ⟨cellOf (((unhide BU).block _ (heapLt (unhide HB7))).trans (unhide HB7)) 0, cellOf (((unhide BU).block _ (heapLt (unhide HB7))).trans (unhide HB7)) 1, cellOf (((unhide BU).block _ (heapLt (unhide HB7))).trans (unhide HB7)) 2, cellOf (((unhide BU).block _ (heapLt (unhide HB7))).trans (unhide HB7)) 3⟩
    obtain ⟨x40, x41, x42, x43⟩ : _ ∧ _ ∧ _ ∧ _ := ⟨cellOf (((unhide BU).block _ (heapLt (unhide HB4))).trans (unhide HB4)) 0, cellOf (((unhide BU).block _ (heapLt (unhide HB4))).trans (unhide HB4)) 1, cellOf (((unhide BU).block _ (heapLt (unhide HB4))).trans (unhide HB4)) 2, cellOf (((unhide BU).block _ (heapLt (unhide HB4))).trans (unhide HB4)) 3⟩
    obtain ⟨⟨y0, f0⟩, ⟨y1, f1⟩, ⟨y2, f2⟩, y3, f3⟩ : (_ ∧ _) ∧ (_ ∧ _) ∧ (_ ∧ _) ∧ _ ∧ _ := ⟨⟨cellOf (unhide HZ) 0, frozenOf (unhide HZ) 0⟩, ⟨cellOf (unhide HZ) 1, frozenOf (unhide HZ) 1⟩, ⟨cellOf (unhide HZ) 2, frozenOf (unhide HZ) 2⟩, cellOf (unhide HZ) 3, frozenOf (unhide HZ) 3⟩
    have BUn := hide (below_set (o := 2) (u := .bool has) (X := u10.heap.size) (unhide BU) (Nat.le_refl _))
    have HZn := hide (heapSet (o := 2) (v := .bool has) (unhide HZ))
    go_upto_region 15 with fail
    clear y0 y1 y2 y3 f0 f1 f2 f3
    clear BU HZ
    have BU := BUn
    have HZ := HZn
    clear BUn HZn
    generalize World.setCell _ _ _ = z2 at *
    clear x30 x31 x32 x33
    clear x70 x71 x72 x73
    clear x40 x41 x42 x43
    obtain ⟨x30, x31, x32, x33⟩ : _ ∧ _ ∧ _ ∧ _ := ⟨cellOf (((unhide BU).block _ (heapLt (unhide HB3))).trans (unhide HB3)) 0, cellOf (((unhide BU).block _ (heapLt (unhide HB3))).trans (unhide HB3)) 1, cellOf (((unhide BU).block _ (heapLt (unhide HB3))).trans (unhide HB3)) 2, cellOf (((unhide BU).block _ (heapLt (unhide HB3))).trans (unhide HB3)) 3⟩
    obtain ⟨x70, x71, x72, x73⟩ : _ ∧ _ ∧ _ ∧ _ := ⟨cellOf (((unhide BU).block _ (heapLt (unhide HB7))).trans (unhide HB7)) 0, cellOf (((unhide BU).block _ (heapLt (unhide HB7))).trans (unhide HB7)) 1, cellOf (((unhide BU).block _ (heapLt (unhide HB7))).trans (unhide HB7)) 2, cellOf (((unhide BU).block _ (heapLt (unhide HB7))).trans (unhide HB7)) 3⟩
    obtain ⟨x40, x41, x42, x43⟩ : _ ∧ _ ∧ _ ∧ _ := ⟨cellOf (((unhide BU).block _ (heapLt (unhide HB4))).trans (unhide HB4)) 0, cellOf (((unhide BU).block _ (heapLt (unhide HB4))).trans (unhide HB4)) 1, cellOf (((unhide BU).block _ (heapLt (unhide HB4))).trans (unhide HB4)) 2, cellOf (((unhide BU).block _ (heapLt (unhide HB4))).trans (unhide HB4)) 3⟩
    obtain ⟨⟨y0, f0⟩, ⟨y1, f1⟩, ⟨y2, f2⟩, y3, f3⟩ : (_ ∧ _) ∧ (_ ∧ _) ∧ (_ ∧ _) ∧ _ ∧ _ := ⟨⟨cellOf (unhide HZ) 0, frozenOf (unhide HZ) 0⟩, ⟨cellOf (unhide HZ) 1, frozenOf (unhide HZ) 1⟩, ⟨cellOf (unhide HZ) 2, frozenOf (unhide HZ) 2⟩, cellOf (unhide HZ) 3, frozenOf (unhide HZ) 3⟩
    have BUn := hide (below_set (o := 3) (u := .slice pc jr.length pz) (X := u10.heap.size) (unhide BU) (Nat.le_refl _))
    have HZn := hide (heapSet (o := 3) (v := .slice pc jr.length pz) (unhide HZ))
    go_upto_region 16 with fail
    clear y0 y1 y2 y3 f0 f1 f2 f3
    clear BU HZ
    have BU := BUn
    have HZ := HZn
    clear BUn HZn
    generalize World.setCell _ _ _ = z3 at *
    clear x30 x31 x32 x33
    clear x70 x71 x72 x73
    clear x40 x41 x42 x43
    obtain ⟨x30, x31, x32, x33⟩ : _ ∧ _ ∧ _ ∧ _ := ⟨cellOf (((unhide BU).block _ (heapLt (unhide HB3))).trans (unhide HB3)) 0, cellOf (((unhide BU).block _ (heapLt (unhide HB3))).trans (unhide HB3)) 1, cellOf (((unhide BU).block _ (heapLt (unhide HB3))).trans (unhide HB3)) 2, cellOf (((unhide BU).block _ (heapLt (unhide HB3))).trans (unhide HB3)) 3⟩
    obtain ⟨x70, x71, x72, x73⟩ : _ ∧ _ ∧ _ ∧ _ := ⟨cellOf (((unhide BU).block _ (heapLt (unhide HB7))).trans (unhide HB7)) 0, cellOf (((unhide BU).block _ (heapLt (unhide HB7))).trans (unhide HB7)) 1, cellOf (((unhide BU).block _ (heapLt (unhide HB7))).trans (unhide HB7)) 2, cellOf (((unhide BU).block _ (heapLt (unhide HB7))).trans (unhide HB7)) 3⟩
    obtain ⟨x40, x41, x42, x43⟩ : _ ∧ _ ∧ _ ∧ _ := ⟨cellOf (((unhide BU).block _ (heapLt (unhide HB4))).trans (unhide HB4)) 0, cellOf (((unhide BU).block _ (heapLt (unhide HB4))).trans (unhide HB4)) 1, cellOf (((unhide BU).block _ (heapLt (unhide HB4))).trans (unhide HB4)) 2, cellOf (((unhide BU).block _ (heapLt (unhide HB4))).trans (unhide HB4)) 3⟩
    go_wp2_with fail
    refine (luPkgs_same _ _ _ sps ((unhide HD7).later (unhide BU)).p2 ((unhide HS4).later (unhide BU)).p).mono ?_
    rintro e z4 ⟨rfl, b⟩
    replace HZ := hide ((b.block _ (heapLt (unhide HZ))).trans (unhide HZ))
    replace BU := hide ((unhide BU).trans (b.mono (unhide BU).size))
    clear b
    clear x30 x31 x32 x33
    clear x70 x71 x72 x73
    clear x40 x41 x42 x43
    obtain ⟨x30, x31, x32, x33⟩ : _ ∧ _ ∧ _ ∧ _ := ⟨cellOf (((unhide BU).block _ (heapLt (unhide HB3))).trans (unhide HB3)) 0, cellOf (((unhide BU).block _ (heapLt (unhide HB3))).trans (unhide HB3)) 1, cellOf (((unhide BU).block _ (heapLt (unhide HB3))).trans (unhide HB3)) 2, cellOf (((unhide BU).block _ (heapLt (unhide HB3))).trans (unhide HB3)) 3⟩
    obtain ⟨⟨y0, f0⟩, ⟨y1, f1⟩, ⟨y2, f2⟩, y3, f3⟩ : (_ ∧ _) ∧ (_ ∧ _) ∧ (_ ∧ _) ∧ _ ∧ _ := ⟨⟨cellOf (unhide HZ) 0, frozenOf (unhide HZ) 0⟩, ⟨cellOf (unhide HZ) 1, frozenOf (unhide HZ) 1⟩, ⟨cellOf (unhide HZ) 2, frozenOf (unhide HZ) 2⟩, cellOf (unhide HZ) 3, frozenOf (unhide HZ) 3⟩
    go_wp2_with fail
    refine (luDisk_in _ ⟨db, fl, has, jr⟩ _ _ _ _ _ _ ⟨((unhide HD7).later (unhide BU)).p1, ((unhide HD7).later (unhide BU)).r1, ((unhide HD7).later (unhide BU)).pf, ((unhide HD3).later (unhide BU)).p2, ((unhide HD3).later (unhide BU)).r2⟩ ((unhide HD3).later (unhide BU))).mono ?_
    rintro e z5 ⟨rfl, b⟩
    replace HZ := hide ((b.block _ (heapLt (unhide HZ))).trans (unhide HZ))
    replace BU := hide ((unhide BU).trans (b.mono (unhide BU).size))
    clear b
    clear x30 x31 x32 x33
    clear y0 y1 y2 y3 f0 f1 f2 f3
    go_wp2
    go_ret
    exact ⟨rfl, (unhide BW).trans ((unhide BU).mono (unhide BW).size)⟩
  · have hA := doA_yes hok hsok
    have hA2 := doA_yes (Dk.ok_step hok hsok) hsok
    have hO2 := Dk.ok_step hok hsok
    rw [Dk.step_step] at hA2
    rw [Dk.step_file _ _ rfl] at hA hA2 hO2
    dsimp only at hA hA2 hO2
    obtain ⟨n, rfl⟩ := Int.eq_ofNat_of_zero_le hpp.1
    rw [Int.toNat_natCast] at hA hA2 hO2
    have h60 : fl.length = 6 := (Dk.files_get (Dk.ok_get hok).1).1
    have hn6 : n < fl.length := by have := hpp.2; omega
    obtain ⟨fl2, hfl2⟩ : ∃ fl2, fl2 = fl.set n sx := ⟨_, rfl⟩
    rw [← hfl2] at hA hA2 hO2
    have hln : fl2.length = fl.length := by rw [hfl2, List.length_set]
    have hnx : Ky.nth fl2 n = sx := by
      unfold Ky.nth
      rw [hfl2, List.getD_eq_getElem?_getD, List.getElem?_set_self hn6]
      rfl
    have hbk : fl2.set n (Ky.nth fl n) = fl := by
      rw [hfl2, List.set_set]
      unfold Ky.nth
      rw [List.getD_eq_getElem?_getD, List.getElem?_eq_getElem hn6]
      show fl.set n fl[n] = fl
      exact List.set_getElem_self hn6
    have HL6 := hide h60
    clear h60
    have HF2 := hide (And.intro hln (And.intro hnx (And.intro hbk hn6)))
    have hn62 : n < 6 := by have := hpp.2; omega
    clear hfl2 hln hnx hbk hn6
    have CI := hide (fun (W : World) (v1 uf v2 pv : Value) (x : DIn W ⟨db, fl, has, jr⟩ v1 uf v2) (y : SIn W ⟨2, (n : Int), sx, sps⟩ pv) => implDo_in W ⟨db, fl, has, jr⟩ ⟨2, (n : Int), sx, sps⟩ v1 uf v2 pv x y)
    rw [hA] at CI
    dsimp only at CI
    have CS := hide (fun (W : World) (v1 uf v2 pv : Value) (x : DIn W ⟨db, fl, has, jr⟩ v1 uf v2) (y : SIn W ⟨2, (n : Int), sx, sps⟩ pv) => specDo_in W ⟨db, fl, has, jr⟩ ⟨2, (n : Int), sx, sps⟩ v1 uf v2 pv x y)
    rw [hA] at CS
    dsimp only at CS
    have HO2 := hide hO2
    have CY := hide (fun (W : World) (v1 uf v2 pv : Value) (x : DIn W ⟨db, fl2, has, jr⟩ v1 uf v2) (y : SIn W ⟨2, (n : Int), sx, sps⟩ pv) => implDo_in W ⟨db, fl2, has, jr⟩ ⟨2, (n : Int), sx, sps⟩ v1 uf v2 pv x y)
    rw [hA2] at CY
    dsimp only at CY
    clear hA hA2 hO2 hok hsok hpp hxx hps
    go_wp2_with fail
    generalize hX : u0.heap.size = X3 at *
    clear hX
    generalize World.alloc _ _ = u1 at *
    obtain ⟨x30, x31, x32, x33⟩ : _ ∧ _ ∧ _ ∧ _ := ⟨cellOf (unhide HB3) 0, cellOf (unhide HB3) 1, cellOf (unhide HB3) 2, cellOf (unhide HB3) 3⟩
    obtain ⟨x40, x41, x42, x43⟩ : _ ∧ _ ∧ _ ∧ _ := ⟨cellOf (unhide HB4) 0, cellOf (unhide HB4) 1, cellOf (unhide HB4) 2, cellOf (unhide HB4) 3⟩
    refine ((unhide CS) _ _ _ _ _ (unhide HD3) (unhide HS4)).mono ?_
    rintro e u2 ⟨q1, qf, q2, rfl, hd, b⟩
    replace HB3 := hide ((b.block _ (heapLt (unhide HB3))).trans (unhide HB3))
    replace HB4 := hide ((b.block _ (heapLt (unhide HB4))).trans (unhide HB4))
    replace HD3 := hide ((unhide HD3).later b)
    replace HS4 := hide ((unhide HS4).later b)
    replace BW := hide ((unhide BW).trans (b.mono (unhide BW).size))
    clear b
    clear x30 x31 x32 x33
    clear x40 x41 x42 x43
    obtain ⟨qa, qx, qb, qy, qc, qz, i1, i2, i3⟩ := hd.forms
    (try dsimp only at i1 i2 i3)
    subst i1 i2 i3
    have HD5 := hide hd
    clear hd
    dsimp only [dkV]
    have bX := below1 u2 (.cells #[.slice qa db.length qx, .slice qb fl2.length qy, .bool has, .slice qc jr.length qz] 26)
    have HB5 := hide (heap_alloc_new u2 (.cells #[.slice qa db.length qx, .slice qb fl2.length qy, .bool has, .slice qc jr.length qz] 26))
    replace HB3 := hide ((bX.block _ (heapLt (unhide HB3))).trans (unhide HB3))
    replace HB4 := hide ((bX.block _ (heapLt (unhide HB4))).trans (unhide HB4))
    replace HD3 := hide ((unhide HD3).later bX)
    replace HD5 := hide ((unhide HD5).later bX)
    replace HS4 := hide ((unhide HS4).later bX)
    replace BW := hide ((unhide BW).trans (bX.mono (unhide BW).size))
    clear bX
    obtain ⟨x30, x31, x32, x33⟩ : _ ∧ _ ∧ _ ∧ _ := ⟨cellOf (unhide HB3) 0, cellOf (unhide HB3) 1, cellOf (unhide HB3) 2, cellOf (unhide HB3) 3⟩
    obtain ⟨x40, x41, x42, x43⟩ : _ ∧ _ ∧ _ ∧ _ := ⟨cellOf (unhide HB4) 0, cellOf (unhide HB4) 1, cellOf (unhide HB4) 2, cellOf (unhide HB4) 3⟩
    go_wp2_with fail
    generalize u2.heap.size = X5 at *
    generalize u2.alloc _ = u3 at *
    refine ((unhide CI) _ _ _ _ _ (unhide HD3) (unhide HS4)).mono ?_
    rintro e u4 ⟨q1, qf, q2, rfl, hd, b⟩
    replace HB3 := hide ((b.block _ (heapLt (unhide HB3))).trans (unhide HB3))
    replace HB4 := hide ((b.block _ (heapLt (unhide HB4))).trans (unhide HB4))
    replace HB5 := hide ((b.block _ (heapLt (unhide HB5))).trans (unhide HB5))
    replace HD3 := hide ((unhide HD3).later b)
    replace HD5 := hide ((unhide HD5).later b)
    replace HS4 := hide ((unhide HS4).later b)
    replace BW := hide ((unhide BW).trans (b.mono (unhide BW).size))
    clear b
    clear x30 x31 x32 x33
    clear x40 x41 x42 x43
    obtain ⟨ra, rx, rb, ry, rc, rz, i1, i2, i3⟩ := hd.forms
    (try dsimp only at i1 i2 i3)
    subst i1 i2 i3
    have HD7 := hide hd
    clear hd
    dsimp only [dkV]
    have bX := below1 u4 (.cells #[.slice ra db.length rx, .slice rb fl2.length ry, .bool has, .slice rc jr.length rz] 26)
    have HB7 := hide (heap_alloc_new u4 (.cells #[.slice ra db.length rx, .slice rb fl2.length ry, .bool has, .slice rc jr.length rz] 26))
    replace HB3 := hide ((bX.block _ (heapLt (unhide HB3))).trans (unhide HB3))
    replace HB4 := hide ((bX.block _ (heapLt (unhide HB4))).trans (unhide HB4))
    replace HB5 := hide ((bX.block _ (heapLt (unhide HB5))).trans (unhide HB5))
    replace HD3 := hide ((unhide HD3).later bX)
    replace HD5 := hide ((unhide HD5).later bX)
    replace HD7 := hide ((unhide HD7).later bX)
    replace HS4 := hide ((unhide HS4).later bX)
    replace BW := hide ((unhide BW).trans (bX.mono (unhide BW).size))
    clear bX
    obtain ⟨x70, x71, x72, x73⟩ : _ ∧ _ ∧ _ ∧ _ := ⟨cellOf (unhide HB7) 0, cellOf (unhide HB7) 1, cellOf (unhide HB7) 2, cellOf (unhide HB7) 3⟩
    obtain ⟨x50, x51, x52, x53⟩ : _ ∧ _ ∧ _ ∧ _ := ⟨cellOf (unhide HB5) 0, cellOf (unhide HB5) 1, cellOf (unhide HB5) 2, cellOf (unhide HB5) 3⟩
    go_wp2_with fail
    generalize u4.heap.size = X7 at *
    generalize u4.alloc _ = u5 at *
    refine (luDisk_in _ ⟨db, fl2, has, jr⟩ _ _ _ _ _ _ (unhide HD7) (unhide HD5)).mono ?_
    rintro e u6 ⟨rfl, b⟩
    replace HB3 := hide ((b.block _ (heapLt (unhide HB3))).trans (unhide HB3))
    replace HB4 := hide ((b.block _ (heapLt (unhide HB4))).trans (unhide HB4))
    replace HB5 := hide ((b.block _ (heapLt (unhide HB5))).trans (unhide HB5))
    replace HB7 := hide ((b.block _ (heapLt (unhide HB7))).trans (unhide HB7))
    replace HD3 := hide ((unhide HD3).later b)
    replace HD5 := hide ((unhide HD5).later b)
    replace HD7 := hide ((unhide HD7).later b)
    replace HS4 := hide ((unhide HS4).later b)
    replace BW := hide ((unhide BW).trans (b.mono (unhide BW).size))
    clear b
    clear x70 x71 x72 x73
    clear x50 x51 x52 x53
    obtain ⟨x70, x71, x72, x73⟩ : _ ∧ _ ∧ _ ∧ _ := ⟨cellOf (unhide HB7) 0, cellOf (unhide HB7) 1, cellOf (unhide HB7) 2, cellOf (unhide HB7) 3⟩
    obtain ⟨x40, x41, x42, x43⟩ : _ ∧ _ ∧ _ ∧ _ := ⟨cellOf (unhide HB4) 0, cellOf (unhide HB4) 1, cellOf (unhide HB4) 2, cellOf (unhide HB4) 3⟩
    go_wp2_with fail
    refine ((unhide CY) _ _ _ _ _ (unhide HD7) (unhide HS4)).mono ?_
    rintro e u7 ⟨q1, qf, q2, rfl, hd, b⟩
    replace HB3 := hide ((b.block _ (heapLt (unhide HB3))).trans (unhide HB3))
    replace HB4 := hide ((b.block _ (heapLt (unhide HB4))).trans (unhide HB4))
    replace HB5 := hide ((b.block _ (heapLt (unhide HB5))).trans (unhide HB5))
    replace HB7 := hide ((b.block _ (heapLt (unhide HB7))).trans (unhide HB7))
    replace HD3 := hide ((unhide HD3).later b)
    replace HD5 := hide ((unhide HD5).later b)
    replace HD7 := hide ((unhide HD7).later b)
    replace HS4 := hide ((unhide HS4).later b)
    replace BW := hide ((unhide BW).trans (b.mono (unhide BW).size))
    clear b
    clear x70 x71 x72 x73
    clear x40 x41 x42 x43
    obtain ⟨ta, tx, tb, ty, tc, tz, i1, i2, i3⟩ := hd.forms
    (try dsimp only at i1 i2 i3)
    subst i1 i2 i3
    have HD9 := hide hd
    clear hd
    dsimp only [dkV]
    have bX := below1 u7 (.cells #[.slice ta db.length tx, .slice tb fl2.length ty, .bool has, .slice tc jr.length tz] 26)
    have HB9 := hide (heap_alloc_new u7 (.cells #[.slice ta db.length tx, .slice tb fl2.length ty, .bool has, .slice tc jr.length tz] 26))
    replace HB3 := hide ((bX.block _ (heapLt (unhide HB3))).trans (unhide HB3))
    replace HB4 := hide ((bX.block _ (heapLt (unhide HB4))).trans (unhide HB4))
    replace HB5 := hide ((bX.block _ (heapLt (unhide HB5))).trans (unhide HB5))
    replace HB7 := hide ((bX.block _ (heapLt (unhide HB7))).trans (unhide HB7))
    replace HD3 := hide ((unhide HD3).later bX)
    replace HD5 := hide ((unhide HD5).later bX)
    replace HD7 := hide ((unhide HD7).later bX)
    replace HD9 := hide ((unhide HD9).later bX)
    replace HS4 := hide ((unhide HS4).later bX)
    replace BW := hide ((unhide BW).trans (bX.mono (unhide BW).size))
    clear bX
    obtain ⟨x70, x71, x72, x73⟩ : _ ∧ _ ∧ _ ∧ _ := ⟨cellOf (unhide HB7) 0, cellOf (unhide HB7) 1, cellOf (unhide HB7) 2, cellOf (unhide HB7) 3⟩
    go_wp2_with fail
    generalize u7.heap.size = X9 at *
    generalize u7.alloc _ = u8 at *
    clear x70 x71 x72 x73
    refine (luDisk_in _ ⟨db, fl2, has, jr⟩ _ _ _ _ _ _ (unhide HD7) (unhide HD9)).mono ?_
    rintro e u9 ⟨rfl, b⟩
    replace HB3 := hide ((b.block _ (heapLt (unhide HB3))).trans (unhide HB3))
    replace HB4 := hide ((b.block _ (heapLt (unhide HB4))).trans (unhide HB4))
    replace HB5 := hide ((b.block _ (heapLt (unhide HB5))).trans (unhide HB5))
    replace HB7 := hide ((b.block _ (heapLt (unhide HB7))).trans (unhide HB7))
    replace HB9 := hide ((b.block _ (heapLt (unhide HB9))).trans (unhide HB9))
    replace HD3 := hide ((unhide HD3).later b)
    replace HD5 := hide ((unhide HD5).later b)
    replace HD7 := hide ((unhide HD7).later b)
    replace HD9 := hide ((unhide HD9).later b)
    replace HS4 := hide ((unhide HS4).later b)
    replace BW := hide ((unhide BW).trans (b.mono (unhide BW).size))
    clear b
    obtain ⟨x70, x71, x72, x73⟩ : _ ∧ _ ∧ _ ∧ _ := ⟨cellOf (unhide HB7) 0, cellOf (unhide HB7) 1, cellOf (unhide HB7) 2, cellOf (unhide HB7) 3⟩
    go_wp2_with fail
    refine (implDiskOk_any _ ⟨db, fl2, has, jr⟩ _ _ _ (unhide HD7).p1 (unhide HD7).r1 (unhide HD7).pf (unhide HD7).p2 (unhide HD7).r2).mono ?_
    rintro e u10 ⟨rfl, b⟩
    replace HB3 := hide ((b.block _ (heapLt (unhide HB3))).trans (unhide HB3))
    replace HB4 := hide ((b.block _ (heapLt (unhide HB4))).trans (unhide HB4))
    replace HB5 := hide ((b.block _ (heapLt (unhide HB5))).trans (unhide HB5))
    replace HB7 := hide ((b.block _ (heapLt (unhide HB7))).trans (unhide HB7))
    replace HB9 := hide ((b.block _ (heapLt (unhide HB9))).trans (unhide HB9))
    replace HD3 := hide ((unhide HD3).later b)
    replace HD5 := hide ((unhide HD5).later b)
    replace HD7 := hide ((unhide HD7).later b)
    replace HD9 := hide ((unhide HD9).later b)
    replace HS4 := hide ((unhide HS4).later b)
    replace BW := hide ((unhide BW).trans (b.mono (unhide BW).size))
    clear b
    clear x70 x71 x72 x73
    rw [unhide HO2]
    obtain ⟨x70, x71, x72, x73⟩ : _ ∧ _ ∧ _ ∧ _ := ⟨cellOf (unhide HB7) 0, cellOf (unhide HB7) 1, cellOf (unhide HB7) 2, cellOf (unhide HB7) 3⟩
    have BU := hide (below1 u10 (.cells #[.slice ra db.length rx, .slice rb fl2.length ry, .bool has, .slice rc jr.length rz] 26))
    have HZ := hide (heap_alloc_new u10 (.cells #[.slice ra db.length rx, .slice rb fl2.length ry, .bool has, .slice rc jr.length rz] 26))
    have x40 := cellOf (((unhide BU).block _ (heapLt (unhide HB4))).trans (unhide HB4)) 0
    go_upto_region 18 with fail
    generalize World.alloc u10 _ = z1 at *
    clear x40
    clear x70 x71 x72 x73
    obtain ⟨i0, hI0, hz0, hz1, hz2⟩ := info_parts infoI'
    have hE := heap_alloc_new z1 (.cells #[] 3)
    have bE := below1 z1 (.cells #[] 3)
    have HEO := hide (empty_own (sz := 1) (B := u10.heap.size) hE (unhide BU).size)
    replace BU := hide ((unhide BU).trans (bE.mono (unhide BU).size))
    replace HZ := hide ((bE.block _ (heapLt (unhide HZ))).trans (unhide HZ))
    have HXF := hide ((unhide HD7).later (unhide BU)).pf
    have x71 := cellOf (((unhide BU).block _ (heapLt (unhide HB7))).trans (unhide HB7)) 1
    clear hE bE
    go_wp2_with (at_builtin; refine wpList_append_all _ rfl _ _ _ rfl u10.heap.size 3 i0 _ 1 8 Tryd.underlying24 hI0 hz0 hz1 hz2 rfl (by omega) (.slice (some ⟨z1.heap.size, 0, none⟩) 0 0) rfl (unhide HEO) rb fl2.length ry (fl2.map (Value.int .i64)) rfl (by simp) (ins_news (unhide HXF)) (int_cells fl2) (by unfold maxLen; have om1 := (unhide HF2).1; have om2 := (unhide HF2).2.2.2; have om3 : fl.length = 6 := unhide HL6; omega) (by have om1 := (unhide HF2).1; have om2 := (unhide HF2).2.2.2; have om3 : fl.length = 6 := unhide HL6; omega) (unhide BU).size ?_; intro v' z2 hown hgrow; have hZ2 := (grown_other (unhide HEO) hgrow (unhide HZ) (by decide)).trans (unhide HZ); have hB2 := grown_below (unhide HEO) hgrow (unhide BU) (unhide BU).size; have y1 := cellOf hZ2 1; have f1 := frozenOf hZ2 1; obtain ⟨va, vc, hv'⟩ := own_formS hown; subst hv'; have HV := hide (own_set (o := 1) (u := .slice va fl2.length vc) hown hZ2 (by decide)); have BUn := hide (below_set (o := 1) (u := .slice va fl2.length vc) (X := u10.heap.size) hB2 (Nat.le_refl _)); have HZn := hide (heapSet (o := 1) (v := .slice va fl2.length vc) hZ2); clear hown hgrow hZ2 hB2)
    clear y1 f1 x71 BU HZ HXF HEO
    have BU := BUn
    have HZ := HZn
    clear BUn HZn
    generalize World.setCell _ _ _ = z3 at *
    have hOV : OwI u10.heap.size z3 (.slice va fl2.length vc) fl2 := unhide HV
    obtain ⟨gv, vc', e, hgb, hgl⟩ := hOV.form (by have om1 := (unhide HF2).1; have om2 := (unhide HF2).2.2.2; have om3 : fl.length = 6 := unhide HL6; omega)
    injection e with e1 _ e3
    subst e1 e3
    have hbd := below_drew z3
    replace BU := hide ((unhide BU).trans (hbd.mono (unhide BU).size))
    replace HZ := hide ((hbd.block _ (heapLt (unhide HZ))).trans (unhide HZ))
    replace HV := hide (own_later hOV hbd)
    clear hOV hbd
    obtain ⟨_, _, e, _, hr3⟩ := ((unhide HD3).later (unhide BU)).pf
    injection e with e1 _ e3
    subst e1 e3
    obtain ⟨b3, o3, rfl, _, hc3⟩ := hr3 (by have om1 := (unhide HF2).1; have om2 := (unhide HF2).2.2.2; have om3 : fl.length = 6 := unhide HL6; omega)
    have c3n := hc3 n (unhide HF2).2.2.2
    have x31 := cellOf (((unhide BU).block _ (heapLt (unhide HB3))).trans (unhide HB3)) 1
    have x41 := cellOf (((unhide BU).block _ (heapLt (unhide HB4))).trans (unhide HB4)) 1
    have y1 := cellOf (unhide HZ) 1
    have hOV := unhide HV
    have g0 : z3.drew.cell? ⟨gv, n, none⟩ = some (.int .i64 (Ky.nth fl2 n)) := own_cell (cap := vc) hOV _ _ (nth_at (by have om1 := (unhide HF2).1; have om2 := (unhide HF2).2.2.2; have om3 : fl.length = 6 := unhide HL6; omega))
    have g1 : z3.drew.frozen? ⟨gv, n, none⟩ = false := by
      obtain ⟨_, cc, hcc⟩ := own_row hOV gv rfl
      exact frozenOf hcc n
    have hpt := OwI.put (p := n) (x := Ky.nth fl n) hOV
    have hZv : u10.heap.size ≠ gv := fun e => own_ne hOV (unhide HZ) (by decide) (by rw [e]; rfl)
    have BUn : Hid (Below u10.heap.size u10 (z3.setCell ⟨gv, n, none⟩ (.int .i64 (Ky.nth fl n))).drew) := below_set (o := n) (u := .int .i64 (Ky.nth fl n)) (X := gv) (unhide BU) hgb
    have HZn : Hid ((z3.setCell ⟨gv, n, none⟩ (.int .i64 (Ky.nth fl n))).drew.heap[u10.heap.size]? = _) := (Below.heap_setCell _ _ _ _ hZv).trans (unhide HZ)
    have HVn : Hid (OwI u10.heap.size (z3.setCell ⟨gv, n, none⟩ (.int .i64 (Ky.nth fl n))).drew (.slice (some ⟨gv, 0, none⟩) fl2.length vc) (fl2.set n (Ky.nth fl n))) := hpt.1
    have hi0 : (0 : Int) ≤ (n : Int) := Int.natCast_nonneg _
    have hi1 : (n : Int) < (fl.length : Int) := by have om1 := (unhide HF2).1; have om2 := (unhide HF2).2.2.2; have om3 : fl.length = 6 := unhide HL6; omega
    have hi2 : (n : Int) < (fl2.length : Int) := by have om1 := (unhide HF2).1; have om2 := (unhide HF2).2.2.2; have om3 : fl.length = 6 := unhide HL6; omega
    clear hr3 hc3 hOV hpt
    go_wp2_with fail
    have hSS : z3.drew.cell? ⟨u10.heap.size, 1, none⟩ = some (.slice (some ⟨gv, 0, none⟩) fl2.length vc) ∧ z3.drew.cell? ⟨X3, 1, none⟩ = some (.slice (some ⟨b3, o3, none⟩) fl.length py) ∧ z3.drew.cell? ⟨X3 + 1, 1, none⟩ = some (.int .i64 (n : Int)) ∧ z3.drew.cell? ⟨b3, o3 + n, none⟩ = some (.int .i64 (Ky.nth fl n)) := ⟨y1, x31, x41, c3n⟩
    refine wl_region (S := fun w' => w'.cell? ⟨u10.heap.size, 1, none⟩ = some (.slice (some ⟨gv, 0, none⟩) fl2.length vc) ∧ w'.cell? ⟨X3, 1, none⟩ = some (.slice (some ⟨b3, o3, none⟩) fl.length py) ∧ w'.cell? ⟨X3 + 1, 1, none⟩ = some (.int .i64 (n : Int)) ∧ w'.cell? ⟨b3, o3 + n, none⟩ = some (.int .i64 (Ky.nth fl n))) (s := 11) (by kernel_rfl) hSS (fun hHeld => ?_)
    clear x31 x41 y1 c3n
    refine wl_take (i := 0) (d := some 100) rfl rfl (by kernel_rfl) (by kernel_rfl) (by kernel_rfl) (by kernel_rfl) (by kernel_rfl) (fun _ _ _ h => h) (by rfl) (v := ?_) ?_ (by assumption) ?_
    rotate_left
    · (intro w hSw; (try dsimp only at hSw); go_simp <;> with_reducible rfl)
    simp only [Act.put, List.setIfInBounds_toArray, List.set_cons_zero, List.set_cons_succ]
    refine wl_take (i := 1) (d := some 101) rfl rfl (by kernel_rfl) (by kernel_rfl) (by kernel_rfl) (by kernel_rfl) (by kernel_rfl) (fun _ _ _ h => h) (by rfl) (v := ?_) ?_ (by assumption) ?_
    rotate_left
    · (intro w hSw; (try dsimp only at hSw); go_simp <;> with_reducible rfl)
    simp only [Act.put, List.setIfInBounds_toArray, List.set_cons_zero, List.set_cons_succ]
    refine wl_take (i := 2) (d := some 102) rfl rfl (by kernel_rfl) (by kernel_rfl) (by kernel_rfl) (by kernel_rfl) (by kernel_rfl) (fun _ _ _ h => h) (by rfl) (v := ?_) ?_ (by assumption) ?_
    rotate_left
    · (intro w hSw; (try dsimp only at hSw); go_simp <;> with_reducible rfl)
    simp only [Act.put, List.setIfInBounds_toArray, List.set_cons_zero, List.set_cons_succ]
    refine wl_take (i := 3) (d := some 103) rfl rfl (by kernel_rfl) (by kernel_rfl) (by kernel_rfl) (by kernel_rfl) (by kernel_rfl) (fun _ _ _ h => h) (by rfl) (v := ?_) ?_ (by assumption) ?_
    rotate_left
    · (intro w hSw; (try dsimp only at hSw); go_simp <;> with_reducible rfl)
    simp only [Act.put, List.setIfInBounds_toArray, List.set_cons_zero, List.set_cons_succ]
    refine wl_take (i := 4) (d := some 104) rfl rfl (by kernel_rfl) (by kernel_rfl) (by kernel_rfl) (by kernel_rfl) (by kernel_rfl) (fun _ _ _ h => h) (by rfl) (v := ?_) ?_ (by assumption) ?_
    rotate_left
    · (intro w hSw; (try dsimp only at hSw); go_simp <;> with_reducible rfl)
    simp only [Act.put, List.setIfInBounds_toArray, List.set_cons_zero, List.set_cons_succ]
    refine wl_take (i := 5) (d := some 105) rfl rfl (by kernel_rfl) (by kernel_rfl) (by kernel_rfl) (by kernel_rfl) (by kernel_rfl) (fun _ _ _ h => h) (by rfl) (v := ?_) ?_ (by assumption) ?_
    rotate_left
    · (intro w hSw; (try dsimp only at hSw); go_simp <;> with_reducible rfl)
    simp only [Act.put, List.setIfInBounds_toArray, List.set_cons_zero, List.set_cons_succ]
    refine wl_take (i := 6) (d := some 106) rfl rfl (by kernel_rfl) (by kernel_rfl) (by kernel_rfl) (by kernel_rfl) (by kernel_rfl) (fun _ _ _ h => h) (by rfl) (v := ?_) ?_ (by assumption) ?_
    rotate_left
    · (intro w hSw; (try dsimp only at hSw); go_simp <;> with_reducible rfl)
    simp only [Act.put, List.setIfInBounds_toArray, List.set_cons_zero, List.set_cons_succ]
    refine wl_take (i := 7) (d := some 107) rfl rfl (by kernel_rfl) (by kernel_rfl) (by kernel_rfl) (by kernel_rfl) (by kernel_rfl) (fun _ _ _ h => h) (by rfl) (v := ?_) ?_ (by assumption) ?_
    rotate_left
    · (intro w hSw; (try dsimp only at hSw); go_simp <;> with_reducible rfl)
    simp only [Act.put, List.setIfInBounds_toArray, List.set_cons_zero, List.set_cons_succ]
    refine wl_take (i := 8) (d := some 108) rfl rfl (by kernel_rfl) (by kernel_rfl) (by kernel_rfl) (by kernel_rfl) (by kernel_rfl) (fun _ _ _ h => h) (by rfl) (v := ?_) ?_ (by assumption) ?_
    rotate_left
    · (intro w hSw; (try dsimp only at hSw); go_simp <;> with_reducible rfl)
    simp only [Act.put, List.setIfInBounds_toArray, List.set_cons_zero, List.set_cons_succ]
    refine wl_take (i := 9) (d := some 109) rfl rfl (by kernel_rfl) (by kernel_rfl) (by kernel_rfl) (by kernel_rfl) (by kernel_rfl) (fun _ _ _ h => h) (by rfl) (v := ?_) ?_ (by assumption) ?_
    rotate_left
    · (intro w hSw; (try dsimp only at hSw); go_simp <;> with_reducible rfl)
    simp only [Act.put, List.setIfInBounds_toArray, List.set_cons_zero, List.set_cons_succ]
    refine wl_take (i := 10) (d := some 110) rfl rfl (by kernel_rfl) (by kernel_rfl) (by kernel_rfl) (by kernel_rfl) (by kernel_rfl) (fun _ _ _ h => h) (by rfl) (v := ?_) ?_ (by assumption) ?_
    rotate_left
    · (intro w hSw; (try dsimp only at hSw); go_simp <;> with_reducible rfl)
    simp only [Act.put, List.setIfInBounds_toArray, List.set_cons_zero, List.set_cons_succ]
    refine wl_one (i := 11) (by kernel_rfl) rfl (by rfl) (fun K hK => ?_)
    go_simp
    refine hK.out _ _ (fun h => absurd rfl h) ?_
    clear hK K
    refine wl_done (by kernel_rfl) ?_
    clear g0 g1 hSS hHeld hZv BU HZ HV
    have BU := BUn
    have HZ := HZn
    have hOV := unhide HVn
    rw [(unhide HF2).2.2.1, (unhide HF2).1] at hOV
    have HV := hide hOV
    clear BUn HZn HVn hOV
    generalize World.drew (World.setCell z3 _ _) = z4 at *
    rw [(unhide HF2).1]
    have hbd := below_drew z4
    replace BU := hide ((unhide BU).trans (hbd.mono (unhide BU).size))
    replace HZ := hide ((hbd.block _ (heapLt (unhide HZ))).trans (unhide HZ))
    replace HV := hide (own_later (unhide HV) hbd)
    clear hbd
    obtain ⟨_, _, e, _, hr7⟩ := ((unhide HD7).later (unhide BU)).pf
    injection e with e1 _ e3
    subst e1 e3
    obtain ⟨b7, o7, rfl, hb7l, hc7⟩ := hr7 (by have om1 := (unhide HF2).1; have om2 := (unhide HF2).2.2.2; have om3 : fl.length = 6 := unhide HL6; omega)
    have c7n := hc7 n (by have om1 := (unhide HF2).1; have om2 := (unhide HF2).2.2.2; have om3 : fl.length = 6 := unhide HL6; omega)
    rw [(unhide HF2).2.1] at c7n
    have hh3 := ((unhide BU).block _ (heapLt (unhide HB3))).trans (unhide HB3)
    have hh4 := ((unhide BU).block _ (heapLt (unhide HB4))).trans (unhide HB4)
    have hh7 := ((unhide BU).block _ (heapLt (unhide HB7))).trans (unhide HB7)
    have hq1 : ∀ w', Below z4.drew.heap.size z4.drew w' → ((w'.cell? ⟨u10.heap.size, 0, none⟩ = some (.slice ra db.length rx) ∧ w'.cell? ⟨u10.heap.size, 1, none⟩ = some (.slice (some ⟨gv, 0, none⟩) fl.length vc) ∧ w'.cell? ⟨u10.heap.size, 2, none⟩ = some (.bool has) ∧ w'.cell? ⟨u10.heap.size, 3, none⟩ = some (.slice rc jr.length rz)) ∧ (w'.cell? ⟨X3, 0, none⟩ = some (.slice pa db.length px) ∧ w'.cell? ⟨X3, 1, none⟩ = some (.slice (some ⟨b3, o3, none⟩) fl.length py) ∧ w'.cell? ⟨X3, 2, none⟩ = some (.bool has) ∧ w'.cell? ⟨X3, 3, none⟩ = some (.slice pc jr.length pz)) ∧ w'.cell? ⟨X7, 1, none⟩ = some (.slice (some ⟨b7, o7, none⟩) fl2.length ry) ∧ w'.cell? ⟨X3 + 1, 1, none⟩ = some (.int .i64 (n : Int)) ∧ w'.cell? ⟨X3 + 1, 2, none⟩ = some (.int .i64 sx) ∧ w'.cell? ⟨b7, o7 + n, none⟩ = some (.int .i64 sx)) := fun w' hw' => by
      have a1 := (hw'.block _ (heapLt (unhide HZ))).trans (unhide HZ)
      have a3 := (hw'.block _ (heapLt hh3)).trans hh3
      have a4 := (hw'.block _ (heapLt hh4)).trans hh4
      have a7 := (hw'.block _ (heapLt hh7)).trans hh7
      rw [(unhide HF2).1] at a1
      exact ⟨⟨cellOf a1 0, cellOf a1 1, cellOf a1 2, cellOf a1 3⟩, ⟨cellOf a3 0, cellOf a3 1, cellOf a3 2, cellOf a3 3⟩, cellOf a7 1, cellOf a4 1, cellOf a4 2, (World.cell?_of_block (hw'.block _ hb7l)).trans c7n⟩
    have HQ1 := hide hq1
    clear hq1 hh3 hh4 hh7 hr7 hc7 c7n hb7l
    have hl6' : fl.length ≤ 1048576 := by have om3 : fl.length = 6 := unhide HL6; omega
    have HVI := hide (OwI.wide (l := fl) (unhide HV) hl6')
    clear hl6'
    go_wp2_with fail
    refine wp_region_held_drew (S := fun w' => (w'.cell? ⟨u10.heap.size, 0, none⟩ = some (.slice ra db.length rx) ∧ w'.cell? ⟨u10.heap.size, 1, none⟩ = some (.slice (some ⟨gv, 0, none⟩) fl.length vc) ∧ w'.cell? ⟨u10.heap.size, 2, none⟩ = some (.bool has) ∧ w'.cell? ⟨u10.heap.size, 3, none⟩ = some (.slice rc jr.length rz)) ∧ (w'.cell? ⟨X3, 0, none⟩ = some (.slice pa db.length px) ∧ w'.cell? ⟨X3, 1, none⟩ = some (.slice (some ⟨b3, o3, none⟩) fl.length py) ∧ w'.cell? ⟨X3, 2, none⟩ = some (.bool has) ∧ w'.cell? ⟨X3, 3, none⟩ = some (.slice pc jr.length pz)) ∧ w'.cell? ⟨X7, 1, none⟩ = some (.slice (some ⟨b7, o7, none⟩) fl2.length ry) ∧ w'.cell? ⟨X3 + 1, 1, none⟩ = some (.int .i64 (n : Int)) ∧ w'.cell? ⟨X3 + 1, 2, none⟩ = some (.int .i64 sx) ∧ w'.cell? ⟨b7, o7 + n, none⟩ = some (.int .i64 sx)) (by kernel_rfl) (unhide HQ1 z4.drew (Below.refl _ _)) (fun hHeld => ?_)
    refine anyH_at (i := 0) (d := some 111) rfl rfl (by kernel_rfl) (by kernel_rfl) (by kernel_rfl) (fun _ _ _ h => h) (by rfl) (v := ?_) ?_ (by assumption) ?_
    rotate_left
    · (intro w hSw; (try dsimp only at hSw); go_simp <;> with_reducible rfl)
    simp only [Act.put, List.setIfInBounds_toArray, List.set_cons_zero, List.set_cons_succ]
    refine anyH_at (i := 1) (d := some 112) rfl rfl (by kernel_rfl) (by kernel_rfl) (by kernel_rfl) (fun _ _ _ h => h) (by rfl) (v := ?_) ?_ (by assumption) ?_
    rotate_left
    · (intro w hSw; (try dsimp only at hSw); go_simp <;> with_reducible rfl)
    simp only [Act.put, List.setIfInBounds_toArray, List.set_cons_zero, List.set_cons_succ]
    refine anyH_at (i := 2) (d := some 113) rfl rfl (by kernel_rfl) (by kernel_rfl) (by kernel_rfl) (fun _ _ _ h => h) (by rfl) (v := ?_) ?_ (by assumption) ?_
    rotate_left
    · (intro w hSw; (try dsimp only at hSw); go_simp <;> with_reducible rfl)
    simp only [Act.put, List.setIfInBounds_toArray, List.set_cons_zero, List.set_cons_succ]
    refine anyH_at (i := 3) (d := some 114) rfl rfl (by kernel_rfl) (by kernel_rfl) (by kernel_rfl) (fun _ _ _ h => h) (by rfl) (v := ?_) ?_ (by assumption) ?_
    rotate_left
    · (intro w hSw; (try dsimp only at hSw); go_simp <;> with_reducible rfl)
    simp only [Act.put, List.setIfInBounds_toArray, List.set_cons_zero, List.set_cons_succ]
    refine anyH_at (i := 4) (d := some 115) rfl rfl (by kernel_rfl) (by kernel_rfl) (by kernel_rfl) (fun _ _ _ h => h) (by rfl) (v := ?_) ?_ (by assumption) ?_
    rotate_left
    · (intro w hSw; (try dsimp only at hSw); go_simp <;> with_reducible rfl)
    simp only [Act.put, List.setIfInBounds_toArray, List.set_cons_zero, List.set_cons_succ]
    refine anyH_at (i := 5) (d := some 116) rfl rfl (by kernel_rfl) (by kernel_rfl) (by kernel_rfl) (fun _ _ _ h => h) (by rfl) (v := ?_) ?_ (by assumption) ?_
    rotate_left
    · (intro w hSw; (try dsimp only at hSw); go_simp <;> with_reducible rfl)
    simp only [Act.put, List.setIfInBounds_toArray, List.set_cons_zero, List.set_cons_succ]
    refine anyH_at (i := 6) (d := some 117) rfl rfl (by kernel_rfl) (by kernel_rfl) (by kernel_rfl) (fun _ _ _ h => h) (by rfl) (v := ?_) ?_ (by assumption) ?_
    rotate_left
    · (intro w hSw; (try dsimp only at hSw); go_simp <;> with_reducible rfl)
    simp only [Act.put, List.setIfInBounds_toArray, List.set_cons_zero, List.set_cons_succ]
    refine anyH_at (i := 7) (d := some 118) rfl rfl (by kernel_rfl) (by kernel_rfl) (by kernel_rfl) (fun _ _ _ h => h) (by rfl) (v := ?_) ?_ (by assumption) ?_
    rotate_left
    · (intro w hSw; (try dsimp only at hSw); go_simp <;> with_reducible rfl)
    simp only [Act.put, List.setIfInBounds_toArray, List.set_cons_zero, List.set_cons_succ]
    refine anyH_at (i := 8) (d := some 119) rfl rfl (by kernel_rfl) (by kernel_rfl) (by kernel_rfl) (fun _ _ _ h => h) (by rfl) (v := ?_) ?_ (by assumption) ?_
    rotate_left
    · (intro w hSw; (try dsimp only at hSw); go_simp <;> with_reducible rfl)
    simp only [Act.put, List.setIfInBounds_toArray, List.set_cons_zero, List.set_cons_succ]
    (try rw [beq_self_eq_true])
    refine anyH_at (i := 9) (d := some 120) rfl rfl (by kernel_rfl) (by kernel_rfl) (by kernel_rfl) (fun _ _ _ h => h) (by rfl) (v := ?_) ?_ (by assumption) ?_
    rotate_left
    · (intro w hSw; (try dsimp only at hSw); go_simp <;> with_reducible rfl)
    simp only [Act.put, List.setIfInBounds_toArray, List.set_cons_zero, List.set_cons_succ]
    refine anyH_at (i := 10) (d := some 121) rfl rfl (by kernel_rfl) (by kernel_rfl) (by kernel_rfl) (fun _ _ _ h => h) (by rfl) (v := ?_) ?_ (by assumption) ?_
    rotate_left
    · (intro w hSw; (try dsimp only at hSw); go_simp <;> with_reducible rfl)
    simp only [Act.put, List.setIfInBounds_toArray, List.set_cons_zero, List.set_cons_succ]
    refine anyH_at (i := 11) (d := some 122) rfl rfl (by kernel_rfl) (by kernel_rfl) (by kernel_rfl) (fun _ _ _ h => h) (by rfl) (v := ?_) ?_ (by assumption) ?_
    rotate_left
    · (intro w hSw; (try dsimp only at hSw); go_simp <;> with_reducible rfl)
    simp only [Act.put, List.setIfInBounds_toArray, List.set_cons_zero, List.set_cons_succ]
    refine wpAnyH_ready (rs := [12]) (by kernel_rfl) (by simp) ?_
    refine AllReadyH.cons rfl (fun K hK => ?_) AllReadyH.nil
    go_simp
    refine (luDisk_in _ ⟨db, fl, has, jr⟩ _ _ _ _ _ _ ⟨((unhide HD7).later (unhide BU)).p1, ((unhide HD7).later (unhide BU)).r1, unhide HVI, ((unhide HD7).later (unhide BU)).p2, ((unhide HD7).later (unhide BU)).r2⟩ ((unhide HD3).later (unhide BU))).mono ?_
    rintro e z5 ⟨rfl, b⟩
    have hB5 := hide ((unhide BU).trans (b.mono (unhide BU).size))
    have hS5 := unhide HQ1 _ b
    clear b BU
    have BU := hB5
    go_wp2_with fail
    refine hK.out _ _ ?_ (fun hHeldN => ?_)
    · exact hS5
    clear hHeld
    have hHeld := hHeldN
    clear hHeldN
    clear hK K
    try simp only [Act.put, List.setIfInBounds_toArray, List.set_cons_zero, List.set_cons_succ]
    refine anyH_at (i := 13) (d := some 124) rfl rfl (by kernel_rfl) (by kernel_rfl) (by kernel_rfl) (fun _ _ _ h => h) (by rfl) (v := ?_) ?_ (by assumption) ?_
    rotate_left
    · (intro w hSw; (try dsimp only at hSw); go_simp <;> with_reducible rfl)
    simp only [Act.put, List.setIfInBounds_toArray, List.set_cons_zero, List.set_cons_succ]
    refine anyH_at (i := 14) (d := some 2) rfl rfl (by kernel_rfl) (by kernel_rfl) (by kernel_rfl) (fun _ _ _ h => h) (by rfl) (v := ?_) ?_ (by assumption) ?_
    rotate_left
    · (intro w hSw; (try dsimp only at hSw); go_simp <;> with_reducible rfl)
    simp only [Act.put, List.setIfInBounds_toArray, List.set_cons_zero, List.set_cons_succ]
    refine wpAnyH_done (by kernel_rfl) ?_ _
    go_wp2
    go_ret
    exact ⟨rfl, (unhide BW).trans ((unhide BU).mono (unhide BW).size)⟩
  · have hA := doA_yes hok hsok
    have hA2 := doA_yes (Dk.ok_step hok hsok) hsok
    have hO2 := Dk.ok_step hok hsok
    rw [Dk.step_step] at hA2
    rw [Dk.step_db _ _ rfl] at hA hA2 hO2
    dsimp only at hA hA2 hO2
    have CI := hide (fun (W : World) (v1 uf v2 pv : Value) (x : DIn W ⟨db, fl, has, jr⟩ v1 uf v2) (y : SIn W ⟨3, sp, sx, sps⟩ pv) => implDo_in W ⟨db, fl, has, jr⟩ ⟨3, sp, sx, sps⟩ v1 uf v2 pv x y)
    rw [hA] at CI
    dsimp only at CI
    have CS := hide (fun (W : World) (v1 uf v2 pv : Value) (x : DIn W ⟨db, fl, has, jr⟩ v1 uf v2) (y : SIn W ⟨3, sp, sx, sps⟩ pv) => specDo_in W ⟨db, fl, has, jr⟩ ⟨3, sp, sx, sps⟩ v1 uf v2 pv x y)
    rw [hA] at CS
    dsimp only at CS
    have HO2 := hide hO2
    have CY := hide (fun (W : World) (v1 uf v2 pv : Value) (x : DIn W ⟨sps, fl, has, jr⟩ v1 uf v2) (y : SIn W ⟨3, sp, sx, sps⟩ pv) => implDo_in W ⟨sps, fl, has, jr⟩ ⟨3, sp, sx, sps⟩ v1 uf v2 pv x y)
    rw [hA2] at CY
    dsimp only at CY
    clear hA hA2 hO2 hok hsok hpp hxx hps
    go_wp2_with fail
    generalize hX : u0.heap.size = X3 at *
    clear hX
    generalize World.alloc _ _ = u1 at *
    obtain ⟨x30, x31, x32, x33⟩ : _ ∧ _ ∧ _ ∧ _ := ⟨cellOf (unhide HB3) 0, cellOf (unhide HB3) 1, cellOf (unhide HB3) 2, cellOf (unhide HB3) 3⟩
    obtain ⟨x40, x41, x42, x43⟩ : _ ∧ _ ∧ _ ∧ _ := ⟨cellOf (unhide HB4) 0, cellOf (unhide HB4) 1, cellOf (unhide HB4) 2, cellOf (unhide HB4) 3⟩
    refine ((unhide CS) _ _ _ _ _ (unhide HD3) (unhide HS4)).mono ?_
    rintro e u2 ⟨q1, qf, q2, rfl, hd, b⟩
    replace HB3 := hide ((b.block _ (heapLt (unhide HB3))).trans (unhide HB3))
    replace HB4 := hide ((b.block _ (heapLt (unhide HB4))).trans (unhide HB4))
    replace HD3 := hide ((unhide HD3).later b)
    replace HS4 := hide ((unhide HS4).later b)
    replace BW := hide ((unhide BW).trans (b.mono (unhide BW).size))
    clear b
    clear x30 x31 x32 x33
    clear x40 x41 x42 x43
    obtain ⟨qa, qx, qb, qy, qc, qz, i1, i2, i3⟩ := hd.forms
    (try dsimp only at i1 i2 i3)
    subst i1 i2 i3
    have HD5 := hide hd
    clear hd
    dsimp only [dkV]
    have bX := below1 u2 (.cells #[.slice qa sps.length qx, .slice qb fl.length qy, .bool has, .slice qc jr.length qz] 26)
    have HB5 := hide (heap_alloc_new u2 (.cells #[.slice qa sps.length qx, .slice qb fl.length qy, .bool has, .slice qc jr.length qz] 26))
    replace HB3 := hide ((bX.block _ (heapLt (unhide HB3))).trans (unhide HB3))
    replace HB4 := hide ((bX.block _ (heapLt (unhide HB4))).trans (unhide HB4))
    replace HD3 := hide ((unhide HD3).later bX)
    replace HD5 := hide ((unhide HD5).later bX)
    replace HS4 := hide ((unhide HS4).later bX)
    replace BW := hide ((unhide BW).trans (bX.mono (unhide BW).size))
    clear bX
    obtain ⟨x30, x31, x32, x33⟩ : _ ∧ _ ∧ _ ∧ _ := ⟨cellOf (unhide HB3) 0, cellOf (unhide HB3) 1, cellOf (unhide HB3) 2, cellOf (unhide HB3) 3⟩
    obtain ⟨x40, x41, x42, x43⟩ : _ ∧ _ ∧ _ ∧ _ := ⟨cellOf (unhide HB4) 0, cellOf (unhide HB4) 1, cellOf (unhide HB4) 2, cellOf (unhide HB4) 3⟩
    go_wp2_with fail
    generalize u2.heap.size = X5 at *
    generalize u2.alloc _ = u3 at *
    refine ((unhide CI) _ _ _ _ _ (unhide HD3) (unhide HS4)).mono ?_
    rintro e u4 ⟨q1, qf, q2, rfl, hd, b⟩
    replace HB3 := hide ((b.block _ (heapLt (unhide HB3))).trans (unhide HB3))
    replace HB4 := hide ((b.block _ (heapLt (unhide HB4))).trans (unhide HB4))
    replace HB5 := hide ((b.block _ (heapLt (unhide HB5))).trans (unhide HB5))
    replace HD3 := hide ((unhide HD3).later b)
    replace HD5 := hide ((unhide HD5).later b)
    replace HS4 := hide ((unhide HS4).later b)
    replace BW := hide ((unhide BW).trans (b.mono (unhide BW).size))
    clear b
    clear x30 x31 x32 x33
    clear x40 x41 x42 x43
    obtain ⟨ra, rx, rb, ry, rc, rz, i1, i2, i3⟩ := hd.forms
    (try dsimp only at i1 i2 i3)
    subst i1 i2 i3
    have HD7 := hide hd
    clear hd
    dsimp only [dkV]
    have bX := below1 u4 (.cells #[.slice ra sps.length rx, .slice rb fl.length ry, .bool has, .slice rc jr.length rz] 26)
    have HB7 := hide (heap_alloc_new u4 (.cells #[.slice ra sps.length rx, .slice rb fl.length ry, .bool has, .slice rc jr.length rz] 26))
    replace HB3 := hide ((bX.block _ (heapLt (unhide HB3))).trans (unhide HB3))
    replace HB4 := hide ((bX.block _ (heapLt (unhide HB4))).trans (unhide HB4))
    replace HB5 := hide ((bX.block _ (heapLt (unhide HB5))).trans (unhide HB5))
    replace HD3 := hide ((unhide HD3).later bX)
    replace HD5 := hide ((unhide HD5).later bX)
    replace HD7 := hide ((unhide HD7).later bX)
    replace HS4 := hide ((unhide HS4).later bX)
    replace BW := hide ((unhide BW).trans (bX.mono (unhide BW).size))
    clear bX
    obtain ⟨x70, x71, x72, x73⟩ : _ ∧ _ ∧ _ ∧ _ := ⟨cellOf (unhide HB7) 0, cellOf (unhide HB7) 1, cellOf (unhide HB7) 2, cellOf (unhide HB7) 3⟩
    obtain ⟨x50, x51, x52, x53⟩ : _ ∧ _ ∧ _ ∧ _ := ⟨cellOf (unhide HB5) 0, cellOf (unhide HB5) 1, cellOf (unhide HB5) 2, cellOf (unhide HB5) 3⟩
    go_wp2_with fail
    generalize u4.heap.size = X7 at *
    generalize u4.alloc _ = u5 at *
    refine (luDisk_in _ ⟨sps, fl, has, jr⟩ _ _ _ _ _ _ (unhide HD7) (unhide HD5)).mono ?_
    rintro e u6 ⟨rfl, b⟩
    replace HB3 := hide ((b.block _ (heapLt (unhide HB3))).trans (unhide HB3))
    replace HB4 := hide ((b.block _ (heapLt (unhide HB4))).trans (unhide HB4))
    replace HB5 := hide ((b.block _ (heapLt (unhide HB5))).trans (unhide HB5))
    replace HB7 := hide ((b.block _ (heapLt (unhide HB7))).trans (unhide HB7))
    replace HD3 := hide ((unhide HD3).later b)
    replace HD5 := hide ((unhide HD5).later b)
    replace HD7 := hide ((unhide HD7).later b)
    replace HS4 := hide ((unhide HS4).later b)
    replace BW := hide ((unhide BW).trans (b.mono (unhide BW).size))
    clear b
    clear x70 x71 x72 x73
    clear x50 x51 x52 x53
    obtain ⟨x70, x71, x72, x73⟩ : _ ∧ _ ∧ _ ∧ _ := ⟨cellOf (unhide HB7) 0, cellOf (unhide HB7) 1, cellOf (unhide HB7) 2, cellOf (unhide HB7) 3⟩
    obtain ⟨x40, x41, x42, x43⟩ : _ ∧ _ ∧ _ ∧ _ := ⟨cellOf (unhide HB4) 0, cellOf (unhide HB4) 1, cellOf (unhide HB4) 2, cellOf (unhide HB4) 3⟩
    go_wp2_with fail
    refine ((unhide CY) _ _ _ _ _ (unhide HD7) (unhide HS4)).mono ?_
    rintro e u7 ⟨q1, qf, q2, rfl, hd, b⟩
    replace HB3 := hide ((b.block _ (heapLt (unhide HB3))).trans (unhide HB3))
    replace HB4 := hide ((b.block _ (heapLt (unhide HB4))).trans (unhide HB4))
    replace HB5 := hide ((b.block _ (heapLt (unhide HB5))).trans (unhide HB5))
    replace HB7 := hide ((b.block _ (heapLt (unhide HB7))).trans (unhide HB7))
    replace HD3 := hide ((unhide HD3).later b)
    replace HD5 := hide ((unhide HD5).later b)
    replace HD7 := hide ((unhide HD7).later b)
    replace HS4 := hide ((unhide HS4).later b)
    replace BW := hide ((unhide BW).trans (b.mono (unhide BW).size))
    clear b
    clear x70 x71 x72 x73
    clear x40 x41 x42 x43
    obtain ⟨ta, tx, tb, ty, tc, tz, i1, i2, i3⟩ := hd.forms
    (try dsimp only at i1 i2 i3)
    subst i1 i2 i3
    have HD9 := hide hd
    clear hd
    dsimp only [dkV]
    have bX := below1 u7 (.cells #[.slice ta sps.length tx, .slice tb fl.length ty, .bool has, .slice tc jr.length tz] 26)
    have HB9 := hide (heap_alloc_new u7 (.cells #[.slice ta sps.length tx, .slice tb fl.length ty, .bool has, .slice tc jr.length tz] 26))
    replace HB3 := hide ((bX.block _ (heapLt (unhide HB3))).trans (unhide HB3))
    replace HB4 := hide ((bX.block _ (heapLt (unhide HB4))).trans (unhide HB4))
    replace HB5 := hide ((bX.block _ (heapLt (unhide HB5))).trans (unhide HB5))
    replace HB7 := hide ((bX.block _ (heapLt (unhide HB7))).trans (unhide HB7))
    replace HD3 := hide ((unhide HD3).later bX)
    replace HD5 := hide ((unhide HD5).later bX)
    replace HD7 := hide ((unhide HD7).later bX)
    replace HD9 := hide ((unhide HD9).later bX)
    replace HS4 := hide ((unhide HS4).later bX)
    replace BW := hide ((unhide BW).trans (bX.mono (unhide BW).size))
    clear bX
    obtain ⟨x70, x71, x72, x73⟩ : _ ∧ _ ∧ _ ∧ _ := ⟨cellOf (unhide HB7) 0, cellOf (unhide HB7) 1, cellOf (unhide HB7) 2, cellOf (unhide HB7) 3⟩
    go_wp2_with fail
    generalize u7.heap.size = X9 at *
    generalize u7.alloc _ = u8 at *
    clear x70 x71 x72 x73
    refine (luDisk_in _ ⟨sps, fl, has, jr⟩ _ _ _ _ _ _ (unhide HD7) (unhide HD9)).mono ?_
    rintro e u9 ⟨rfl, b⟩
    replace HB3 := hide ((b.block _ (heapLt (unhide HB3))).trans (unhide HB3))
    replace HB4 := hide ((b.block _ (heapLt (unhide HB4))).trans (unhide HB4))
    replace HB5 := hide ((b.block _ (heapLt (unhide HB5))).trans (unhide HB5))
    replace HB7 := hide ((b.block _ (heapLt (unhide HB7))).trans (unhide HB7))
    replace HB9 := hide ((b.block _ (heapLt (unhide HB9))).trans (unhide HB9))
    replace HD3 := hide ((unhide HD3).later b)
    replace HD5 := hide ((unhide HD5).later b)
    replace HD7 := hide ((unhide HD7).later b)
    replace HD9 := hide ((unhide HD9).later b)
    replace HS4 := hide ((unhide HS4).later b)
    replace BW := hide ((unhide BW).trans (b.mono (unhide BW).size))
    clear b
    obtain ⟨x70, x71, x72, x73⟩ : _ ∧ _ ∧ _ ∧ _ := ⟨cellOf (unhide HB7) 0, cellOf (unhide HB7) 1, cellOf (unhide HB7) 2, cellOf (unhide HB7) 3⟩
    go_wp2_with fail
    refine (implDiskOk_any _ ⟨sps, fl, has, jr⟩ _ _ _ (unhide HD7).p1 (unhide HD7).r1 (unhide HD7).pf (unhide HD7).p2 (unhide HD7).r2).mono ?_
    rintro e u10 ⟨rfl, b⟩
    replace HB3 := hide ((b.block _ (heapLt (unhide HB3))).trans (unhide HB3))
    replace HB4 := hide ((b.block _ (heapLt (unhide HB4))).trans (unhide HB4))
    replace HB5 := hide ((b.block _ (heapLt (unhide HB5))).trans (unhide HB5))
    replace HB7 := hide ((b.block _ (heapLt (unhide HB7))).trans (unhide HB7))
    replace HB9 := hide ((b.block _ (heapLt (unhide HB9))).trans (unhide HB9))
    replace HD3 := hide ((unhide HD3).later b)
    replace HD5 := hide ((unhide HD5).later b)
    replace HD7 := hide ((unhide HD7).later b)
    replace HD9 := hide ((unhide HD9).later b)
    replace HS4 := hide ((unhide HS4).later b)
    replace BW := hide ((unhide BW).trans (b.mono (unhide BW).size))
    clear b
    clear x70 x71 x72 x73
    rw [unhide HO2]
    obtain ⟨x70, x71, x72, x73⟩ : _ ∧ _ ∧ _ ∧ _ := ⟨cellOf (unhide HB7) 0, cellOf (unhide HB7) 1, cellOf (unhide HB7) 2, cellOf (unhide HB7) 3⟩
    have BU := hide (below1 u10 (.cells #[.slice ra sps.length rx, .slice rb fl.length ry, .bool has, .slice rc jr.length rz] 26))
    have HZ := hide (heap_alloc_new u10 (.cells #[.slice ra sps.length rx, .slice rb fl.length ry, .bool has, .slice rc jr.length rz] 26))
    have x40 := cellOf (((unhide BU).block _ (heapLt (unhide HB4))).trans (unhide HB4)) 0
    go_upto_region 22 with fail
    generalize World.alloc u10 _ = z1 at *
    clear x40
    clear x70 x71 x72 x73
    obtain ⟨x30, x31, x32, x33⟩ : _ ∧ _ ∧ _ ∧ _ := ⟨cellOf (((unhide BU).block _ (heapLt (unhide HB3))).trans (unhide HB3)) 0, cellOf (((unhide BU).block _ (heapLt (unhide HB3))).trans (unhide HB3)) 1, cellOf (((unhide BU).block _ (heapLt (unhide HB3))).trans (unhide HB3)) 2, cellOf (((unhide BU).block _ (heapLt (unhide HB3))).trans (unhide HB3)) 3⟩
    obtain ⟨x70, x71, x72, x73⟩ : _ ∧ _ ∧ _ ∧ _ := ⟨cellOf (((unhide BU).block _ (heapLt (unhide HB7))).trans (unhide HB7)) 0, cellOf (((unhide BU).block _ (heapLt (unhide HB7))).trans (unhide HB7)) 1, cellOf (((unhide BU).block _ (heapLt (unhide HB7))).trans (unhide HB7)) 2, cellOf (((unhide BU).block _ (heapLt (unhide HB7))).trans (unhide HB7)) 3⟩
    obtain ⟨x40, x41, x42, x43⟩ : _ ∧ _ ∧ _ ∧ _ := ⟨cellOf (((unhide BU).block _ (heapLt (unhide HB4))).trans (unhide HB4)) 0, cellOf (((unhide BU).block _ (heapLt (unhide HB4))).trans (unhide HB4)) 1, cellOf (((unhide BU).block _ (heapLt (unhide HB4))).trans (unhide HB4)) 2, cellOf (((unhide BU).block _ (heapLt (unhide HB4))).trans (unhide HB4)) 3⟩
    obtain ⟨⟨y0, f0⟩, ⟨y1, f1⟩, ⟨y2, f2⟩, y3, f3⟩ : (_ ∧ _) ∧ (_ ∧ _) ∧ (_ ∧ _) ∧ _ ∧ _ := ⟨⟨cellOf (unhide HZ) 0, frozenOf (unhide HZ) 0⟩, ⟨cellOf (unhide HZ) 1, frozenOf (unhide HZ) 1⟩, ⟨cellOf (unhide HZ) 2, frozenOf (unhide HZ) 2⟩, cellOf (unhide HZ) 3, frozenOf (unhide HZ) 3⟩
    have BUn := hide (below_set (o := 0) (u := .slice pa db.length px) (X := u10.heap.size) (unhide BU) (Nat.le_refl _))
    have HZn := hide (heapSet (o := 0) (v := .slice pa db.length px) (unhide HZ))
    go_upto_region 23 with fail
    clear y0 y1 y2 y3 f0 f1 f2 f3
    clear BU HZ
    have BU := BUn
    have HZ := HZn
    clear BUn HZn
    generalize World.setCell _ _ _ = z2 at *
    clear x30 x31 x32 x33
    clear x70 x71 x72 x73
    clear x40 x41 x42 x43
    obtain ⟨x30, x31, x32, x33⟩ : _ ∧ _ ∧ _ ∧ _ := ⟨cellOf (((unhide BU).block _ (heapLt (unhide HB3))).trans (unhide HB3)) 0, cellOf (((unhide BU).block _ (heapLt (unhide HB3))).trans (unhide HB3)) 1, cellOf (((unhide BU).block _ (heapLt (unhide HB3))).trans (unhide HB3)) 2, cellOf (((unhide BU).block _ (heapLt (unhide HB3))).trans (unhide HB3)) 3⟩
    obtain ⟨x70, x71, x72, x73⟩ : _ ∧ _ ∧ _ ∧ _ := ⟨cellOf (((unhide BU).block _ (heapLt (unhide HB7))).trans (unhide HB7)) 0, cellOf (((unhide BU).block _ (heapLt (unhide HB7))).trans (unhide HB7)) 1, cellOf (((unhide BU).block _ (heapLt (unhide HB7))).trans (unhide HB7)) 2, cellOf (((unhide BU).block _ (heapLt (unhide HB7))).trans (unhide HB7)) 3⟩
    obtain ⟨x40, x41, x42, x43⟩ : _ ∧ _ ∧ _ ∧ _ := ⟨cellOf (((unhide BU).block _ (heapLt (unhide HB4))).trans (unhide HB4)) 0, cellOf (((unhide BU).block _ (heapLt (unhide HB4))).trans (unhide HB4)) 1, cellOf (((unhide BU).block _ (heapLt (unhide HB4))).trans (unhide HB4)) 2, cellOf (((unhide BU).block _ (heapLt (unhide HB4))).trans (unhide HB4)) 3⟩
    go_wp2_with fail
    refine (luPkgs_same _ _ _ sps ((unhide HD7).later (unhide BU)).p1 ((unhide HS4).later (unhide BU)).p).mono ?_
    rintro e z3 ⟨rfl, b⟩
    replace HZ := hide ((b.block _ (heapLt (unhide HZ))).trans (unhide HZ))
    replace BU := hide ((unhide BU).trans (b.mono (unhide BU).size))
    clear b
    clear x30 x31 x32 x33
    clear x70 x71 x72 x73
    clear x40 x41 x42 x43
    obtain ⟨x30, x31, x32, x33⟩ : _ ∧ _ ∧ _ ∧ _ := ⟨cellOf (((unhide BU).block _ (heapLt (unhide HB3))).trans (unhide HB3)) 0, cellOf (((unhide BU).block _ (heapLt (unhide HB3))).trans (unhide HB3)) 1, cellOf (((unhide BU).block _ (heapLt (unhide HB3))).trans (unhide HB3)) 2, cellOf (((unhide BU).block _ (heapLt (unhide HB3))).trans (unhide HB3)) 3⟩
    obtain ⟨⟨y0, f0⟩, ⟨y1, f1⟩, ⟨y2, f2⟩, y3, f3⟩ : (_ ∧ _) ∧ (_ ∧ _) ∧ (_ ∧ _) ∧ _ ∧ _ := ⟨⟨cellOf (unhide HZ) 0, frozenOf (unhide HZ) 0⟩, ⟨cellOf (unhide HZ) 1, frozenOf (unhide HZ) 1⟩, ⟨cellOf (unhide HZ) 2, frozenOf (unhide HZ) 2⟩, cellOf (unhide HZ) 3, frozenOf (unhide HZ) 3⟩
    go_wp2_with fail
    refine (luDisk_in _ ⟨db, fl, has, jr⟩ _ _ _ _ _ _ ⟨((unhide HD3).later (unhide BU)).p1, ((unhide HD3).later (unhide BU)).r1, ((unhide HD7).later (unhide BU)).pf, ((unhide HD7).later (unhide BU)).p2, ((unhide HD7).later (unhide BU)).r2⟩ ((unhide HD3).later (unhide BU))).mono ?_
    rintro e z4 ⟨rfl, b⟩
    replace HZ := hide ((b.block _ (heapLt (unhide HZ))).trans (unhide HZ))
    replace BU := hide ((unhide BU).trans (b.mono (unhide BU).size))
    clear b
    clear x30 x31 x32 x33
    clear y0 y1 y2 y3 f0 f1 f2 f3
    go_wp2
    go_ret
    exact ⟨rfl, (unhide BW).trans ((unhide BU).mono (unhide BW).size)⟩
  · have hA := doA_yes hok hsok
    have hA2 := doA_yes (Dk.ok_step hok hsok) hsok
    have hO2 := Dk.ok_step hok hsok
    rw [Dk.step_step] at hA2
    rw [Dk.step_done _ _ rfl] at hA hA2 hO2
    dsimp only at hA hA2 hO2
    generalize ([] : List Ix.Pg) = jr2 at *
    have CI := hide (fun (W : World) (v1 uf v2 pv : Value) (x : DIn W ⟨db, fl, has, jr⟩ v1 uf v2) (y : SIn W ⟨4, sp, sx, sps⟩ pv) => implDo_in W ⟨db, fl, has, jr⟩ ⟨4, sp, sx, sps⟩ v1 uf v2 pv x y)
    rw [hA] at CI
    dsimp only at CI
    have CS := hide (fun (W : World) (v1 uf v2 pv : Value) (x : DIn W ⟨db, fl, has, jr⟩ v1 uf v2) (y : SIn W ⟨4, sp, sx, sps⟩ pv) => specDo_in W ⟨db, fl, has, jr⟩ ⟨4, sp, sx, sps⟩ v1 uf v2 pv x y)
    rw [hA] at CS
    dsimp only at CS
    have HO2 := hide hO2
    have CY := hide (fun (W : World) (v1 uf v2 pv : Value) (x : DIn W ⟨db, fl, false, jr2⟩ v1 uf v2) (y : SIn W ⟨4, sp, sx, sps⟩ pv) => implDo_in W ⟨db, fl, false, jr2⟩ ⟨4, sp, sx, sps⟩ v1 uf v2 pv x y)
    rw [hA2] at CY
    dsimp only at CY
    clear hA hA2 hO2 hok hsok hpp hxx hps
    go_wp2_with fail
    generalize hX : u0.heap.size = X3 at *
    clear hX
    generalize World.alloc _ _ = u1 at *
    obtain ⟨x30, x31, x32, x33⟩ : _ ∧ _ ∧ _ ∧ _ := ⟨cellOf (unhide HB3) 0, cellOf (unhide HB3) 1, cellOf (unhide HB3) 2, cellOf (unhide HB3) 3⟩
    obtain ⟨x40, x41, x42, x43⟩ : _ ∧ _ ∧ _ ∧ _ := ⟨cellOf (unhide HB4) 0, cellOf (unhide HB4) 1, cellOf (unhide HB4) 2, cellOf (unhide HB4) 3⟩
    refine ((unhide CS) _ _ _ _ _ (unhide HD3) (unhide HS4)).mono ?_
    rintro e u2 ⟨q1, qf, q2, rfl, hd, b⟩
    replace HB3 := hide ((b.block _ (heapLt (unhide HB3))).trans (unhide HB3))
    replace HB4 := hide ((b.block _ (heapLt (unhide HB4))).trans (unhide HB4))
    replace HD3 := hide ((unhide HD3).later b)
    replace HS4 := hide ((unhide HS4).later b)
    replace BW := hide ((unhide BW).trans (b.mono (unhide BW).size))
    clear b
    clear x30 x31 x32 x33
    clear x40 x41 x42 x43
    obtain ⟨qa, qx, qb, qy, qc, qz, i1, i2, i3⟩ := hd.forms
    (try dsimp only at i1 i2 i3)
    subst i1 i2 i3
    have HD5 := hide hd
    clear hd
    dsimp only [dkV]
    have bX := below1 u2 (.cells #[.slice qa db.length qx, .slice qb fl.length qy, .bool false, .slice qc jr2.length qz] 26)
    have HB5 := hide (heap_alloc_new u2 (.cells #[.slice qa db.length qx, .slice qb fl.length qy, .bool false, .slice qc jr2.length qz] 26))
    replace HB3 := hide ((bX.block _ (heapLt (unhide HB3))).trans (unhide HB3))
    replace HB4 := hide ((bX.block _ (heapLt (unhide HB4))).trans (unhide HB4))
    replace HD3 := hide ((unhide HD3).later bX)
    replace HD5 := hide ((unhide HD5).later bX)
    replace HS4 := hide ((unhide HS4).later bX)
    replace BW := hide ((unhide BW).trans (bX.mono (unhide BW).size))
    clear bX
    obtain ⟨x30, x31, x32, x33⟩ : _ ∧ _ ∧ _ ∧ _ := ⟨cellOf (unhide HB3) 0, cellOf (unhide HB3) 1, cellOf (unhide HB3) 2, cellOf (unhide HB3) 3⟩
    obtain ⟨x40, x41, x42, x43⟩ : _ ∧ _ ∧ _ ∧ _ := ⟨cellOf (unhide HB4) 0, cellOf (unhide HB4) 1, cellOf (unhide HB4) 2, cellOf (unhide HB4) 3⟩
    go_wp2_with fail
    generalize u2.heap.size = X5 at *
    generalize u2.alloc _ = u3 at *
    refine ((unhide CI) _ _ _ _ _ (unhide HD3) (unhide HS4)).mono ?_
    rintro e u4 ⟨q1, qf, q2, rfl, hd, b⟩
    replace HB3 := hide ((b.block _ (heapLt (unhide HB3))).trans (unhide HB3))
    replace HB4 := hide ((b.block _ (heapLt (unhide HB4))).trans (unhide HB4))
    replace HB5 := hide ((b.block _ (heapLt (unhide HB5))).trans (unhide HB5))
    replace HD3 := hide ((unhide HD3).later b)
    replace HD5 := hide ((unhide HD5).later b)
    replace HS4 := hide ((unhide HS4).later b)
    replace BW := hide ((unhide BW).trans (b.mono (unhide BW).size))
    clear b
    clear x30 x31 x32 x33
    clear x40 x41 x42 x43
    obtain ⟨ra, rx, rb, ry, rc, rz, i1, i2, i3⟩ := hd.forms
    (try dsimp only at i1 i2 i3)
    subst i1 i2 i3
    have HD7 := hide hd
    clear hd
    dsimp only [dkV]
    have bX := below1 u4 (.cells #[.slice ra db.length rx, .slice rb fl.length ry, .bool false, .slice rc jr2.length rz] 26)
    have HB7 := hide (heap_alloc_new u4 (.cells #[.slice ra db.length rx, .slice rb fl.length ry, .bool false, .slice rc jr2.length rz] 26))
    replace HB3 := hide ((bX.block _ (heapLt (unhide HB3))).trans (unhide HB3))
    replace HB4 := hide ((bX.block _ (heapLt (unhide HB4))).trans (unhide HB4))
    replace HB5 := hide ((bX.block _ (heapLt (unhide HB5))).trans (unhide HB5))
    replace HD3 := hide ((unhide HD3).later bX)
    replace HD5 := hide ((unhide HD5).later bX)
    replace HD7 := hide ((unhide HD7).later bX)
    replace HS4 := hide ((unhide HS4).later bX)
    replace BW := hide ((unhide BW).trans (bX.mono (unhide BW).size))
    clear bX
    obtain ⟨x70, x71, x72, x73⟩ : _ ∧ _ ∧ _ ∧ _ := ⟨cellOf (unhide HB7) 0, cellOf (unhide HB7) 1, cellOf (unhide HB7) 2, cellOf (unhide HB7) 3⟩
    obtain ⟨x50, x51, x52, x53⟩ : _ ∧ _ ∧ _ ∧ _ := ⟨cellOf (unhide HB5) 0, cellOf (unhide HB5) 1, cellOf (unhide HB5) 2, cellOf (unhide HB5) 3⟩
    go_wp2_with fail
    generalize u4.heap.size = X7 at *
    generalize u4.alloc _ = u5 at *
    refine (luDisk_in _ ⟨db, fl, false, jr2⟩ _ _ _ _ _ _ (unhide HD7) (unhide HD5)).mono ?_
    rintro e u6 ⟨rfl, b⟩
    replace HB3 := hide ((b.block _ (heapLt (unhide HB3))).trans (unhide HB3))
    replace HB4 := hide ((b.block _ (heapLt (unhide HB4))).trans (unhide HB4))
    replace HB5 := hide ((b.block _ (heapLt (unhide HB5))).trans (unhide HB5))
    replace HB7 := hide ((b.block _ (heapLt (unhide HB7))).trans (unhide HB7))
    replace HD3 := hide ((unhide HD3).later b)
    replace HD5 := hide ((unhide HD5).later b)
    replace HD7 := hide ((unhide HD7).later b)
    replace HS4 := hide ((unhide HS4).later b)
    replace BW := hide ((unhide BW).trans (b.mono (unhide BW).size))
    clear b
    clear x70 x71 x72 x73
    clear x50 x51 x52 x53
    obtain ⟨x70, x71, x72, x73⟩ : _ ∧ _ ∧ _ ∧ _ := ⟨cellOf (unhide HB7) 0, cellOf (unhide HB7) 1, cellOf (unhide HB7) 2, cellOf (unhide HB7) 3⟩
    obtain ⟨x40, x41, x42, x43⟩ : _ ∧ _ ∧ _ ∧ _ := ⟨cellOf (unhide HB4) 0, cellOf (unhide HB4) 1, cellOf (unhide HB4) 2, cellOf (unhide HB4) 3⟩
    go_wp2_with fail
    refine ((unhide CY) _ _ _ _ _ (unhide HD7) (unhide HS4)).mono ?_
    rintro e u7 ⟨q1, qf, q2, rfl, hd, b⟩
    replace HB3 := hide ((b.block _ (heapLt (unhide HB3))).trans (unhide HB3))
    replace HB4 := hide ((b.block _ (heapLt (unhide HB4))).trans (unhide HB4))
    replace HB5 := hide ((b.block _ (heapLt (unhide HB5))).trans (unhide HB5))
    replace HB7 := hide ((b.block _ (heapLt (unhide HB7))).trans (unhide HB7))
    replace HD3 := hide ((unhide HD3).later b)
    replace HD5 := hide ((unhide HD5).later b)
    replace HD7 := hide ((unhide HD7).later b)
    replace HS4 := hide ((unhide HS4).later b)
    replace BW := hide ((unhide BW).trans (b.mono (unhide BW).size))
    clear b
    clear x70 x71 x72 x73
    clear x40 x41 x42 x43
    obtain ⟨ta, tx, tb, ty, tc, tz, i1, i2, i3⟩ := hd.forms
    (try dsimp only at i1 i2 i3)
    subst i1 i2 i3
    have HD9 := hide hd
    clear hd
    dsimp only [dkV]
    have bX := below1 u7 (.cells #[.slice ta db.length tx, .slice tb fl.length ty, .bool false, .slice tc jr2.length tz] 26)
    have HB9 := hide (heap_alloc_new u7 (.cells #[.slice ta db.length tx, .slice tb fl.length ty, .bool false, .slice tc jr2.length tz] 26))
    replace HB3 := hide ((bX.block _ (heapLt (unhide HB3))).trans (unhide HB3))
    replace HB4 := hide ((bX.block _ (heapLt (unhide HB4))).trans (unhide HB4))
    replace HB5 := hide ((bX.block _ (heapLt (unhide HB5))).trans (unhide HB5))
    replace HB7 := hide ((bX.block _ (heapLt (unhide HB7))).trans (unhide HB7))
    replace HD3 := hide ((unhide HD3).later bX)
    replace HD5 := hide ((unhide HD5).later bX)
    replace HD7 := hide ((unhide HD7).later bX)
    replace HD9 := hide ((unhide HD9).later bX)
    replace HS4 := hide ((unhide HS4).later bX)
    replace BW := hide ((unhide BW).trans (bX.mono (unhide BW).size))
    clear bX
    obtain ⟨x70, x71, x72, x73⟩ : _ ∧ _ ∧ _ ∧ _ := ⟨cellOf (unhide HB7) 0, cellOf (unhide HB7) 1, cellOf (unhide HB7) 2, cellOf (unhide HB7) 3⟩
    go_wp2_with fail
    generalize u7.heap.size = X9 at *
    generalize u7.alloc _ = u8 at *
    clear x70 x71 x72 x73
    refine (luDisk_in _ ⟨db, fl, false, jr2⟩ _ _ _ _ _ _ (unhide HD7) (unhide HD9)).mono ?_
    rintro e u9 ⟨rfl, b⟩
    replace HB3 := hide ((b.block _ (heapLt (unhide HB3))).trans (unhide HB3))
    replace HB4 := hide ((b.block _ (heapLt (unhide HB4))).trans (unhide HB4))
    replace HB5 := hide ((b.block _ (heapLt (unhide HB5))).trans (unhide HB5))
    replace HB7 := hide ((b.block _ (heapLt (unhide HB7))).trans (unhide HB7))
    replace HB9 := hide ((b.block _ (heapLt (unhide HB9))).trans (unhide HB9))
    replace HD3 := hide ((unhide HD3).later b)
    replace HD5 := hide ((unhide HD5).later b)
    replace HD7 := hide ((unhide HD7).later b)
    replace HD9 := hide ((unhide HD9).later b)
    replace HS4 := hide ((unhide HS4).later b)
    replace BW := hide ((unhide BW).trans (b.mono (unhide BW).size))
    clear b
    obtain ⟨x70, x71, x72, x73⟩ : _ ∧ _ ∧ _ ∧ _ := ⟨cellOf (unhide HB7) 0, cellOf (unhide HB7) 1, cellOf (unhide HB7) 2, cellOf (unhide HB7) 3⟩
    go_wp2_with fail
    refine (implDiskOk_any _ ⟨db, fl, false, jr2⟩ _ _ _ (unhide HD7).p1 (unhide HD7).r1 (unhide HD7).pf (unhide HD7).p2 (unhide HD7).r2).mono ?_
    rintro e u10 ⟨rfl, b⟩
    replace HB3 := hide ((b.block _ (heapLt (unhide HB3))).trans (unhide HB3))
    replace HB4 := hide ((b.block _ (heapLt (unhide HB4))).trans (unhide HB4))
    replace HB5 := hide ((b.block _ (heapLt (unhide HB5))).trans (unhide HB5))
    replace HB7 := hide ((b.block _ (heapLt (unhide HB7))).trans (unhide HB7))
    replace HB9 := hide ((b.block _ (heapLt (unhide HB9))).trans (unhide HB9))
    replace HD3 := hide ((unhide HD3).later b)
    replace HD5 := hide ((unhide HD5).later b)
    replace HD7 := hide ((unhide HD7).later b)
    replace HD9 := hide ((unhide HD9).later b)
    replace HS4 := hide ((unhide HS4).later b)
    replace BW := hide ((unhide BW).trans (b.mono (unhide BW).size))
    clear b
    clear x70 x71 x72 x73
    rw [unhide HO2]
    obtain ⟨x70, x71, x72, x73⟩ : _ ∧ _ ∧ _ ∧ _ := ⟨cellOf (unhide HB7) 0, cellOf (unhide HB7) 1, cellOf (unhide HB7) 2, cellOf (unhide HB7) 3⟩
    have BU := hide (below1 u10 (.cells #[.slice ra db.length rx, .slice rb fl.length ry, .bool false, .slice rc jr2.length rz] 26))
    have HZ := hide (heap_alloc_new u10 (.cells #[.slice ra db.length rx, .slice rb fl.length ry, .bool false, .slice rc jr2.length rz] 26))
    have x40 := cellOf (((unhide BU).block _ (heapLt (unhide HB4))).trans (unhide HB4)) 0
    go_upto_region 24 with fail
    generalize World.alloc u10 _ = z1 at *
    clear x40
    clear x70 x71 x72 x73
    obtain ⟨x30, x31, x32, x33⟩ : _ ∧ _ ∧ _ ∧ _ := ⟨cellOf (((unhide BU).block _ (heapLt (unhide HB3))).trans (unhide HB3)) 0, cellOf (((unhide BU).block _ (heapLt (unhide HB3))).trans (unhide HB3)) 1, cellOf (((unhide BU).block _ (heapLt (unhide HB3))).trans (unhide HB3)) 2, cellOf (((unhide BU).block _ (heapLt (unhide HB3))).trans (unhide HB3)) 3⟩
    obtain ⟨x70, x71, x72, x73⟩ : _ ∧ _ ∧ _ ∧ _ := ⟨cellOf (((unhide BU).block _ (heapLt (unhide HB7))).trans (unhide HB7)) 0, cellOf (((unhide BU).block _ (heapLt (unhide HB7))).trans (unhide HB7)) 1, cellOf (((unhide BU).block _ (heapLt (unhide HB7))).trans (unhide HB7)) 2, cellOf (((unhide BU).block _ (heapLt (unhide HB7))).trans (unhide HB7)) 3⟩
    obtain ⟨x40, x41, x42, x43⟩ : _ ∧ _ ∧ _ ∧ _ := ⟨cellOf (((unhide BU).block _ (heapLt (unhide HB4))).trans (unhide HB4)) 0, cellOf (((unhide BU).block _ (heapLt (unhide HB4))).trans (unhide HB4)) 1, cellOf (((unhide BU).block _ (heapLt (unhide HB4))).trans (unhide HB4)) 2, cellOf (((unhide BU).block _ (heapLt (unhide HB4))).trans (unhide HB4)) 3⟩
    obtain ⟨⟨y0, f0⟩, ⟨y1, f1⟩, ⟨y2, f2⟩, y3, f3⟩ : (_ ∧ _) ∧ (_ ∧ _) ∧ (_ ∧ _) ∧ _ ∧ _ := ⟨⟨cellOf (unhide HZ) 0, frozenOf (unhide HZ) 0⟩, ⟨cellOf (unhide HZ) 1, frozenOf (unhide HZ) 1⟩, ⟨cellOf (unhide HZ) 2, frozenOf (unhide HZ) 2⟩, cellOf (unhide HZ) 3, frozenOf (unhide HZ) 3⟩
    have BUn := hide (below_set (o := 2) (u := .bool has) (X := u10.heap.size) (unhide BU) (Nat.le_refl _))
    have HZn := hide (heapSet (o := 2) (v := .bool has) (unhide HZ))
    go_upto_region 25 with fail
    clear y0 y1 y2 y3 f0 f1 f2 f3
    clear BU HZ
    have BU := BUn
    have HZ := HZn
    clear BUn HZn
    generalize World.setCell _ _ _ = z2 at *
    clear x30 x31 x32 x33
    clear x70 x71 x72 x73
    clear x40 x41 x42 x43
    obtain ⟨x30, x31, x32, x33⟩ : _ ∧ _ ∧ _ ∧ _ := ⟨cellOf (((unhide BU).block _ (heapLt (unhide HB3))).trans (unhide HB3)) 0, cellOf (((unhide BU).block _ (heapLt (unhide HB3))).trans (unhide HB3)) 1, cellOf (((unhide BU).block _ (heapLt (unhide HB3))).trans (unhide HB3)) 2, cellOf (((unhide BU).block _ (heapLt (unhide HB3))).trans (unhide HB3)) 3⟩
    obtain ⟨x70, x71, x72, x73⟩ : _ ∧ _ ∧ _ ∧ _ := ⟨cellOf (((unhide BU).block _ (heapLt (unhide HB7))).trans (unhide HB7)) 0, cellOf (((unhide BU).block _ (heapLt (unhide HB7))).trans (unhide HB7)) 1, cellOf (((unhide BU).block _ (heapLt (unhide HB7))).trans (unhide HB7)) 2, cellOf (((unhide BU).block _ (heapLt (unhide HB7))).trans (unhide HB7)) 3⟩
    obtain ⟨x40, x41, x42, x43⟩ : _ ∧ _ ∧ _ ∧ _ := ⟨cellOf (((unhide BU).block _ (heapLt (unhide HB4))).trans (unhide HB4)) 0, cellOf (((unhide BU).block _ (heapLt (unhide HB4))).trans (unhide HB4)) 1, cellOf (((unhide BU).block _ (heapLt (unhide HB4))).trans (unhide HB4)) 2, cellOf (((unhide BU).block _ (heapLt (unhide HB4))).trans (unhide HB4)) 3⟩
    obtain ⟨⟨y0, f0⟩, ⟨y1, f1⟩, ⟨y2, f2⟩, y3, f3⟩ : (_ ∧ _) ∧ (_ ∧ _) ∧ (_ ∧ _) ∧ _ ∧ _ := ⟨⟨cellOf (unhide HZ) 0, frozenOf (unhide HZ) 0⟩, ⟨cellOf (unhide HZ) 1, frozenOf (unhide HZ) 1⟩, ⟨cellOf (unhide HZ) 2, frozenOf (unhide HZ) 2⟩, cellOf (unhide HZ) 3, frozenOf (unhide HZ) 3⟩
    have BUn := hide (below_set (o := 3) (u := .slice pc jr.length pz) (X := u10.heap.size) (unhide BU) (Nat.le_refl _))
    have HZn := hide (heapSet (o := 3) (v := .slice pc jr.length pz) (unhide HZ))
    go_upto_region 26 with fail
    clear y0 y1 y2 y3 f0 f1 f2 f3
    clear BU HZ
    have BU := BUn
    have HZ := HZn
    clear BUn HZn
    generalize World.setCell _ _ _ = z3 at *
    clear x30 x31 x32 x33
    clear x70 x71 x72 x73
    clear x40 x41 x42 x43
    obtain ⟨x30, x31, x32, x33⟩ : _ ∧ _ ∧ _ ∧ _ := ⟨cellOf (((unhide BU).block _ (heapLt (unhide HB3))).trans (unhide HB3)) 0, cellOf (((unhide BU).block _ (heapLt (unhide HB3))).trans (unhide HB3)) 1, cellOf (((unhide BU).block _ (heapLt (unhide HB3))).trans (unhide HB3)) 2, cellOf (((unhide BU).block _ (heapLt (unhide HB3))).trans (unhide HB3)) 3⟩
    obtain ⟨x70, x71, x72, x73⟩ : _ ∧ _ ∧ _ ∧ _ := ⟨cellOf (((unhide BU).block _ (heapLt (unhide HB7))).trans (unhide HB7)) 0, cellOf (((unhide BU).block _ (heapLt (unhide HB7))).trans (unhide HB7)) 1, cellOf (((unhide BU).block _ (heapLt (unhide HB7))).trans (unhide HB7)) 2, cellOf (((unhide BU).block _ (heapLt (unhide HB7))).trans (unhide HB7)) 3⟩
    obtain ⟨x40, x41, x42, x43⟩ : _ ∧ _ ∧ _ ∧ _ := ⟨cellOf (((unhide BU).block _ (heapLt (unhide HB4))).trans (unhide HB4)) 0, cellOf (((unhide BU).block _ (heapLt (unhide HB4))).trans (unhide HB4)) 1, cellOf (((unhide BU).block _ (heapLt (unhide HB4))).trans (unhide HB4)) 2, cellOf (((unhide BU).block _ (heapLt (unhide HB4))).trans (unhide HB4)) 3⟩
    obtain ⟨⟨y0, f0⟩, ⟨y1, f1⟩, ⟨y2, f2⟩, y3, f3⟩ : (_ ∧ _) ∧ (_ ∧ _) ∧ (_ ∧ _) ∧ _ ∧ _ := ⟨⟨cellOf (unhide HZ) 0, frozenOf (unhide HZ) 0⟩, ⟨cellOf (unhide HZ) 1, frozenOf (unhide HZ) 1⟩, ⟨cellOf (unhide HZ) 2, frozenOf (unhide HZ) 2⟩, cellOf (unhide HZ) 3, frozenOf (unhide HZ) 3⟩
    go_wp2_with fail
    refine (luDisk_in _ ⟨db, fl, has, jr⟩ _ _ _ _ _ _ ⟨((unhide HD7).later (unhide BU)).p1, ((unhide HD7).later (unhide BU)).r1, ((unhide HD7).later (unhide BU)).pf, ((unhide HD3).later (unhide BU)).p2, ((unhide HD3).later (unhide BU)).r2⟩ ((unhide HD3).later (unhide BU))).mono ?_
    rintro e z4 ⟨rfl, b⟩
    replace HZ := hide ((b.block _ (heapLt (unhide HZ))).trans (unhide HZ))
    replace BU := hide ((unhide BU).trans (b.mono (unhide BU).size))
    clear b
    clear x30 x31 x32 x33
    clear x70 x71 x72 x73
    clear x40 x41 x42 x43
    clear y0 y1 y2 y3 f0 f1 f2 f3
    go_wp2
    go_ret
    exact ⟨rfl, (unhide BW).trans ((unhide BU).mono (unhide BW).size)⟩
end Go.Proofs.YtpjpgofllnnemaaDoor
