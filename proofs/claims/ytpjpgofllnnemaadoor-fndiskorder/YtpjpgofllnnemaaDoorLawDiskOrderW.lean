import Derived.Test.YtpjpgofllnnemaaDoorMix26
/- The walk of FnDiskOrder: it returns true and leaves what was there; for every row of bytes. -/
namespace Go.Proofs.YtpjpgofllnnemaaDoor
open Go.RowKit

attribute [local go_sem ↓] Go.wp_at_zero Go.wp_at_succ

theorem other_ok (q : Int) (h0 : 0 ≤ q) (h1 : q < 6) : Dk.S.ok ⟨2, q, 3, []⟩ = true := by
  unfold Dk.S.ok Dk.S.own
  rw [if_neg (show ¬ ((2 : Int) = 1 ∨ (2 : Int) = 3) by decide), if_pos rfl, Dk.planOk_nil]
  show ((decide (([] : List Ix.Pg).length = 0)) && (Pk.inB q 0 5 && (Pk.inB 3 (-1) 9 && true))) = true
  rw [Pk.inB_true.2 ⟨h0, by omega⟩]
  rfl
theorem SIn.nil' (w : World) (k p x : Int) : SIn w ⟨k, p, x, []⟩ (.slice none 0 0) := ⟨pks_nil _ _ _, fun _ _ _ => Nat.zero_le _⟩

set_option linter.unusedSimpArgs false in
set_option maxHeartbeats 16000000 in
set_option maxRecDepth 100000 in
theorem diskOrder_walk (w : World) (a : Option Addr) (len cap : Nat) (aM : Option Addr) (lenM capM : Nat) (h : Bytes w a len cap) (_hM : Bytes w aM lenM capM) :
    Calls Tryd.prog 5 #[.slice a len cap, .slice aM lenM capM] w fun e w' => e = .returned (.bool true) ∧ Below w.heap.size w w' := by
  by_cases hbig : (1048576 : Int) < (len : Int)
  · go_enter Tryd.func5, Tryd.ntmps5
    go_wp2
    go_ret
    exact ⟨rfl, Below.refl _ _⟩
  by_cases hbigM : (1048576 : Int) < (lenM : Int)
  · go_enter Tryd.func5, Tryd.ntmps5
    go_wp2
    go_ret
    exact ⟨rfl, Below.refl _ _⟩
  have k0 : (0 : Int) ≤ (lenM : Int) % 6 := Int.emod_nonneg _ (by omega)
  have k1 : (lenM : Int) % 6 < 6 := Int.emod_lt_of_pos _ (by omega)
  have HOK := hide (other_ok _ k0 k1)

  have CD := hide (drawDiskDo_any w a len cap h)
  clear h
  go_enter Tryd.func5, Tryd.ntmps5
  go_wp2_with fail
  refine (unhide CD).mono ?_
  rintro e u0 ⟨D, v1, uf, v2, s, pv, rfl, hd, hs, b1⟩
  obtain ⟨db, fl, has, jr⟩ := D
  obtain ⟨sk, sp, sx, sps⟩ := s
  obtain ⟨pa, px, pb, py, pc, pz, i1, i2, i3⟩ := hd.forms
  obtain ⟨sa, sc, i4⟩ := hs.p.slice
  dsimp only at i1 i2 i3 i4
  subst i1 i2 i3 i4
  obtain ⟨k0, k1, k2⟩ := two_boxesD u0 (.cells #[.slice pa db.length px, .slice pb fl.length py, .bool has, .slice pc jr.length pz] 26) (.cells #[.int .i64 sk, .int .i64 sp, .int .i64 sx, .slice sa sps.length sc] 34)
  have HB3 := hide k1
  have HB4 := hide k2
  have HD3 := hide (hd.later k0)
  have HS4 := hide (hs.later k0)
  have BW := hide (b1.trans (k0.mono b1.size))
  clear hd hs b1 k0 k1 k2 CD
  dsimp only [dkV, stV]
  by_cases hyes : Dk.D.ok ⟨db, fl, has, jr⟩ = true ∧ Dk.S.ok ⟨sk, sp, sx, sps⟩ = true
  rotate_left
  · have hA := doA_no hyes
    clear hyes
    generalize (⟨[], [], false, []⟩ : Dk.D) = D2 at *
    obtain ⟨db2, fl2, has2, jr2⟩ := D2
    have CI := hide (fun (W : World) (v1 uf v2 pv : Value) (x : DIn W ⟨db, fl, has, jr⟩ v1 uf v2) (y : SIn W ⟨sk, sp, sx, sps⟩ pv) => implDo_in W ⟨db, fl, has, jr⟩ ⟨sk, sp, sx, sps⟩ v1 uf v2 pv x y)
    rw [hA] at CI
    dsimp only at CI
    have CS := hide (fun (W : World) (v1 uf v2 pv : Value) (x : DIn W ⟨db, fl, has, jr⟩ v1 uf v2) (y : SIn W ⟨sk, sp, sx, sps⟩ pv) => specDo_in W ⟨db, fl, has, jr⟩ ⟨sk, sp, sx, sps⟩ v1 uf v2 pv x y)
    rw [hA] at CS
    dsimp only at CS
    go_wp2_with fail
    generalize hX : u0.heap.size = X3 at *
    clear hX
    generalize World.alloc _ _ = u1 at *
    obtain ⟨x30, x31, x32, x33⟩ : _ ∧ _ ∧ _ ∧ _ := ⟨cellOf (unhide HB3) 0, cellOf (unhide HB3) 1, cellOf (unhide HB3) 2, cellOf (unhide HB3) 3⟩
    obtain ⟨x40, x41, x42, x43⟩ : _ ∧ _ ∧ _ ∧ _ := ⟨cellOf (unhide HB4) 0, cellOf (unhide HB4) 1, cellOf (unhide HB4) 2, cellOf (unhide HB4) 3⟩
    refine ((unhide CS) _ _ _ _ _ (unhide HD3) (unhide HS4)).mono ?_
    rintro e u2 ⟨q1, qf, q2, rfl, hd, b⟩
    replace HB3 := hide ((b.block _ (heapLt (unhide HB3))).trans (unhide HB3))
    replace HB4 := hide ((b.block _ (heapLt (unhide HB4))).trans (unhide HB4))
    replace HD3 := hide ((unhide HD3).later b)
    replace HS4 := hide ((unhide HS4).later b)
    replace BW := hide ((unhide BW).trans (b.mono (unhide BW).size))
    clear b
    clear x30 x31 x32 x33
    clear x40 x41 x42 x43
    obtain ⟨qa, qx, qb, qy, qc, qz, i1, i2, i3⟩ := hd.forms
    (try dsimp only at i1 i2 i3)
    subst i1 i2 i3
    have HD5 := hide hd
    clear hd
    dsimp only [dkV]
    have bX := below1 u2 (.cells #[.slice qa db2.length qx, .slice qb fl2.length qy, .bool has2, .slice qc jr2.length qz] 26)
    have HB5 := hide (heap_alloc_new u2 (.cells #[.slice qa db2.length qx, .slice qb fl2.length qy, .bool has2, .slice qc jr2.length qz] 26))
    replace HB3 := hide ((bX.block _ (heapLt (unhide HB3))).trans (unhide HB3))
    replace HB4 := hide ((bX.block _ (heapLt (unhide HB4))).trans (unhide HB4))
    replace HD3 := hide ((unhide HD3).later bX)
    replace HD5 := hide ((unhide HD5).later bX)
    replace HS4 := hide ((unhide HS4).later bX)
    replace BW := hide ((unhide BW).trans (bX.mono (unhide BW).size))
    clear bX
    obtain ⟨x30, x31, x32, x33⟩ : _ ∧ _ ∧ _ ∧ _ := ⟨cellOf (unhide HB3) 0, cellOf (unhide HB3) 1, cellOf (unhide HB3) 2, cellOf (unhide HB3) 3⟩
    obtain ⟨x40, x41, x42, x43⟩ : _ ∧ _ ∧ _ ∧ _ := ⟨cellOf (unhide HB4) 0, cellOf (unhide HB4) 1, cellOf (unhide HB4) 2, cellOf (unhide HB4) 3⟩
    go_wp2_with fail
    generalize u2.heap.size = X5 at *
    generalize u2.alloc _ = u3 at *
    refine ((unhide CI) _ _ _ _ _ (unhide HD3) (unhide HS4)).mono ?_
    rintro e u4 ⟨q1, qf, q2, rfl, hd, b⟩
    replace HB3 := hide ((b.block _ (heapLt (unhide HB3))).trans (unhide HB3))
    replace HB4 := hide ((b.block _ (heapLt (unhide HB4))).trans (unhide HB4))
    replace HB5 := hide ((b.block _ (heapLt (unhide HB5))).trans (unhide HB5))
    replace HD3 := hide ((unhide HD3).later b)
    replace HD5 := hide ((unhide HD5).later b)
    replace HS4 := hide ((unhide HS4).later b)
    replace BW := hide ((unhide BW).trans (b.mono (unhide BW).size))
    clear b
    clear x30 x31 x32 x33
    clear x40 x41 x42 x43
    obtain ⟨ra, rx, rb, ry, rc, rz, i1, i2, i3⟩ := hd.forms
    (try dsimp only at i1 i2 i3)
    subst i1 i2 i3
    have HD7 := hide hd
    clear hd
    dsimp only [dkV]
    have bX := below1 u4 (.cells #[.slice ra db2.length rx, .slice rb fl2.length ry, .bool has2, .slice rc jr2.length rz] 26)
    have HB7 := hide (heap_alloc_new u4 (.cells #[.slice ra db2.length rx, .slice rb fl2.length ry, .bool has2, .slice rc jr2.length rz] 26))
    replace HB3 := hide ((bX.block _ (heapLt (unhide HB3))).trans (unhide HB3))
    replace HB4 := hide ((bX.block _ (heapLt (unhide HB4))).trans (unhide HB4))
    replace HB5 := hide ((bX.block _ (heapLt (unhide HB5))).trans (unhide HB5))
    replace HD3 := hide ((unhide HD3).later bX)
    replace HD5 := hide ((unhide HD5).later bX)
    replace HD7 := hide ((unhide HD7).later bX)
    replace HS4 := hide ((unhide HS4).later bX)
    replace BW := hide ((unhide BW).trans (bX.mono (unhide BW).size))
    clear bX
    obtain ⟨x70, x71, x72, x73⟩ : _ ∧ _ ∧ _ ∧ _ := ⟨cellOf (unhide HB7) 0, cellOf (unhide HB7) 1, cellOf (unhide HB7) 2, cellOf (unhide HB7) 3⟩
    obtain ⟨x50, x51, x52, x53⟩ : _ ∧ _ ∧ _ ∧ _ := ⟨cellOf (unhide HB5) 0, cellOf (unhide HB5) 1, cellOf (unhide HB5) 2, cellOf (unhide HB5) 3⟩
    go_wp2_with fail
    generalize u4.heap.size = X7 at *
    generalize u4.alloc _ = u5 at *
    refine (luDisk_in _ ⟨db2, fl2, has2, jr2⟩ _ _ _ _ _ _ (unhide HD7) (unhide HD5)).mono ?_
    rintro e u6 ⟨rfl, b⟩
    replace HB3 := hide ((b.block _ (heapLt (unhide HB3))).trans (unhide HB3))
    replace HB4 := hide ((b.block _ (heapLt (unhide HB4))).trans (unhide HB4))
    replace HB5 := hide ((b.block _ (heapLt (unhide HB5))).trans (unhide HB5))
    replace HB7 := hide ((b.block _ (heapLt (unhide HB7))).trans (unhide HB7))
    replace HD3 := hide ((unhide HD3).later b)
    replace HD5 := hide ((unhide HD5).later b)
    replace HD7 := hide ((unhide HD7).later b)
    replace HS4 := hide ((unhide HS4).later b)
    replace BW := hide ((unhide BW).trans (b.mono (unhide BW).size))
    clear b
    clear x70 x71 x72 x73
    clear x50 x51 x52 x53
    obtain ⟨x70, x71, x72, x73⟩ : _ ∧ _ ∧ _ ∧ _ := ⟨cellOf (unhide HB7) 0, cellOf (unhide HB7) 1, cellOf (unhide HB7) 2, cellOf (unhide HB7) 3⟩
    obtain ⟨x50, x51, x52, x53⟩ : _ ∧ _ ∧ _ ∧ _ := ⟨cellOf (unhide HB5) 0, cellOf (unhide HB5) 1, cellOf (unhide HB5) 2, cellOf (unhide HB5) 3⟩
    go_wp2_with fail
    refine (luDisk_in _ ⟨db2, fl2, has2, jr2⟩ _ _ _ _ _ _ (unhide HD7) (unhide HD5)).mono ?_
    rintro e u7 ⟨rfl, b⟩
    replace HB3 := hide ((b.block _ (heapLt (unhide HB3))).trans (unhide HB3))
    replace HB4 := hide ((b.block _ (heapLt (unhide HB4))).trans (unhide HB4))
    replace HB5 := hide ((b.block _ (heapLt (unhide HB5))).trans (unhide HB5))
    replace HB7 := hide ((b.block _ (heapLt (unhide HB7))).trans (unhide HB7))
    replace HD3 := hide ((unhide HD3).later b)
    replace HD5 := hide ((unhide HD5).later b)
    replace HD7 := hide ((unhide HD7).later b)
    replace HS4 := hide ((unhide HS4).later b)
    replace BW := hide ((unhide BW).trans (b.mono (unhide BW).size))
    clear b
    go_wp2
    go_ret
    exact ⟨rfl, unhide BW⟩
  obtain ⟨hok, hsok⟩ := hyes
  obtain ⟨hkk, hpp, hxx, hps⟩ := Dk.S.ok_get hsok
  dsimp only at hkk hpp hxx hps
  rcases hkk with rfl | rfl | rfl | rfl
  · have hA := doA_yes hok hsok
    generalize Dk.D.step ⟨db, fl, has, jr⟩ ⟨1, sp, sx, sps⟩ = D2 at *
    obtain ⟨db2, fl2, has2, jr2⟩ := D2
    have CI := hide (fun (W : World) (v1 uf v2 pv : Value) (x : DIn W ⟨db, fl, has, jr⟩ v1 uf v2) (y : SIn W ⟨1, sp, sx, sps⟩ pv) => implDo_in W ⟨db, fl, has, jr⟩ ⟨1, sp, sx, sps⟩ v1 uf v2 pv x y)
    rw [hA] at CI
    dsimp only at CI
    have CS := hide (fun (W : World) (v1 uf v2 pv : Value) (x : DIn W ⟨db, fl, has, jr⟩ v1 uf v2) (y : SIn W ⟨1, sp, sx, sps⟩ pv) => specDo_in W ⟨db, fl, has, jr⟩ ⟨1, sp, sx, sps⟩ v1 uf v2 pv x y)
    rw [hA] at CS
    dsimp only at CS
    clear hA hok hsok hpp hxx hps
    go_wp2_with fail
    generalize hX : u0.heap.size = X3 at *
    clear hX
    generalize World.alloc _ _ = u1 at *
    obtain ⟨x30, x31, x32, x33⟩ : _ ∧ _ ∧ _ ∧ _ := ⟨cellOf (unhide HB3) 0, cellOf (unhide HB3) 1, cellOf (unhide HB3) 2, cellOf (unhide HB3) 3⟩
    obtain ⟨x40, x41, x42, x43⟩ : _ ∧ _ ∧ _ ∧ _ := ⟨cellOf (unhide HB4) 0, cellOf (unhide HB4) 1, cellOf (unhide HB4) 2, cellOf (unhide HB4) 3⟩
    refine ((unhide CS) _ _ _ _ _ (unhide HD3) (unhide HS4)).mono ?_
    rintro e u2 ⟨q1, qf, q2, rfl, hd, b⟩
    replace HB3 := hide ((b.block _ (heapLt (unhide HB3))).trans (unhide HB3))
    replace HB4 := hide ((b.block _ (heapLt (unhide HB4))).trans (unhide HB4))
    replace HD3 := hide ((unhide HD3).later b)
    replace HS4 := hide ((unhide HS4).later b)
    replace BW := hide ((unhide BW).trans (b.mono (unhide BW).size))
    clear b
    clear x30 x31 x32 x33
    clear x40 x41 x42 x43
    obtain ⟨qa, qx, qb, qy, qc, qz, i1, i2, i3⟩ := hd.forms
    (try dsimp only at i1 i2 i3)
    subst i1 i2 i3
    have HD5 := hide hd
    clear hd
    dsimp only [dkV]
    have bX := below1 u2 (.cells #[.slice qa db2.length qx, .slice qb fl2.length qy, .bool has2, .slice qc jr2.length qz] 26)
    have HB5 := hide (heap_alloc_new u2 (.cells #[.slice qa db2.length qx, .slice qb fl2.length qy, .bool has2, .slice qc jr2.length qz] 26))
    replace HB3 := hide ((bX.block _ (heapLt (unhide HB3))).trans (unhide HB3))
    replace HB4 := hide ((bX.block _ (heapLt (unhide HB4))).trans (unhide HB4))
    replace HD3 := hide ((unhide HD3).later bX)
    replace HD5 := hide ((unhide HD5).later bX)
    replace HS4 := hide ((unhide HS4).later bX)
    replace BW := hide ((unhide BW).trans (bX.mono (unhide BW).size))
    clear bX
    obtain ⟨x30, x31, x32, x33⟩ : _ ∧ _ ∧ _ ∧ _ := ⟨cellOf (unhide HB3) 0, cellOf (unhide HB3) 1, cellOf (unhide HB3) 2, cellOf (unhide HB3) 3⟩
    obtain ⟨x40, x41, x42, x43⟩ : _ ∧ _ ∧ _ ∧ _ := ⟨cellOf (unhide HB4) 0, cellOf (unhide HB4) 1, cellOf (unhide HB4) 2, cellOf (unhide HB4) 3⟩
    go_wp2_with fail
    generalize u2.heap.size = X5 at *
    generalize u2.alloc _ = u3 at *
    refine ((unhide CI) _ _ _ _ _ (unhide HD3) (unhide HS4)).mono ?_
    rintro e u4 ⟨q1, qf, q2, rfl, hd, b⟩
    replace HB3 := hide ((b.block _ (heapLt (unhide HB3))).trans (unhide HB3))
    replace HB4 := hide ((b.block _ (heapLt (unhide HB4))).trans (unhide HB4))
    replace HB5 := hide ((b.block _ (heapLt (unhide HB5))).trans (unhide HB5))
    replace HD3 := hide ((unhide HD3).later b)
    replace HD5 := hide ((unhide HD5).later b)
    replace HS4 := hide ((unhide HS4).later b)
    replace BW := hide ((unhide BW).trans (b.mono (unhide BW).size))
    clear b
    clear x30 x31 x32 x33
    clear x40 x41 x42 x43
    obtain ⟨ra, rx, rb, ry, rc, rz, i1, i2, i3⟩ := hd.forms
    (try dsimp only at i1 i2 i3)
    subst i1 i2 i3
    have HD7 := hide hd
    clear hd
    dsimp only [dkV]
    have bX := below1 u4 (.cells #[.slice ra db2.length rx, .slice rb fl2.length ry, .bool has2, .slice rc jr2.length rz] 26)
    have HB7 := hide (heap_alloc_new u4 (.cells #[.slice ra db2.length rx, .slice rb fl2.length ry, .bool has2, .slice rc jr2.length rz] 26))
    replace HB3 := hide ((bX.block _ (heapLt (unhide HB3))).trans (unhide HB3))
    replace HB4 := hide ((bX.block _ (heapLt (unhide HB4))).trans (unhide HB4))
    replace HB5 := hide ((bX.block _ (heapLt (unhide HB5))).trans (unhide HB5))
    replace HD3 := hide ((unhide HD3).later bX)
    replace HD5 := hide ((unhide HD5).later bX)
    replace HD7 := hide ((unhide HD7).later bX)
    replace HS4 := hide ((unhide HS4).later bX)
    replace BW := hide ((unhide BW).trans (bX.mono (unhide BW).size))
    clear bX
    obtain ⟨x70, x71, x72, x73⟩ : _ ∧ _ ∧ _ ∧ _ := ⟨cellOf (unhide HB7) 0, cellOf (unhide HB7) 1, cellOf (unhide HB7) 2, cellOf (unhide HB7) 3⟩
    obtain ⟨x50, x51, x52, x53⟩ : _ ∧ _ ∧ _ ∧ _ := ⟨cellOf (unhide HB5) 0, cellOf (unhide HB5) 1, cellOf (unhide HB5) 2, cellOf (unhide HB5) 3⟩
    go_wp2_with fail
    generalize u4.heap.size = X7 at *
    generalize u4.alloc _ = u5 at *
    refine (luDisk_in _ ⟨db2, fl2, has2, jr2⟩ _ _ _ _ _ _ (unhide HD7) (unhide HD5)).mono ?_
    rintro e u6 ⟨rfl, b⟩
    replace HB3 := hide ((b.block _ (heapLt (unhide HB3))).trans (unhide HB3))
    replace HB4 := hide ((b.block _ (heapLt (unhide HB4))).trans (unhide HB4))
    replace HB5 := hide ((b.block _ (heapLt (unhide HB5))).trans (unhide HB5))
    replace HB7 := hide ((b.block _ (heapLt (unhide HB7))).trans (unhide HB7))
    replace HD3 := hide ((unhide HD3).later b)
    replace HD5 := hide ((unhide HD5).later b)
    replace HD7 := hide ((unhide HD7).later b)
    replace HS4 := hide ((unhide HS4).later b)
    replace BW := hide ((unhide BW).trans (b.mono (unhide BW).size))
    clear b
    clear x70 x71 x72 x73
    clear x50 x51 x52 x53
    obtain ⟨x40, x41, x42, x43⟩ : _ ∧ _ ∧ _ ∧ _ := ⟨cellOf (unhide HB4) 0, cellOf (unhide HB4) 1, cellOf (unhide HB4) 2, cellOf (unhide HB4) 3⟩
    obtain ⟨x70, x71, x72, x73⟩ : _ ∧ _ ∧ _ ∧ _ := ⟨cellOf (unhide HB7) 0, cellOf (unhide HB7) 1, cellOf (unhide HB7) 2, cellOf (unhide HB7) 3⟩
    obtain ⟨x50, x51, x52, x53⟩ : _ ∧ _ ∧ _ ∧ _ := ⟨cellOf (unhide HB5) 0, cellOf (unhide HB5) 1, cellOf (unhide HB5) 2, cellOf (unhide HB5) 3⟩
    go_wp2_with fail
    refine (luDisk_in _ ⟨db2, fl2, has2, jr2⟩ _ _ _ _ _ _ (unhide HD7) (unhide HD5)).mono ?_
    rintro e u7 ⟨rfl, b⟩
    replace HB3 := hide ((b.block _ (heapLt (unhide HB3))).trans (unhide HB3))
    replace HB4 := hide ((b.block _ (heapLt (unhide HB4))).trans (unhide HB4))
    replace HB5 := hide ((b.block _ (heapLt (unhide HB5))).trans (unhide HB5))
    replace HB7 := hide ((b.block _ (heapLt (unhide HB7))).trans (unhide HB7))
    replace HD3 := hide ((unhide HD3).later b)
    replace HD5 := hide ((unhide HD5).later b)
    replace HD7 := hide ((unhide HD7).later b)
    replace HS4 := hide ((unhide HS4).later b)
    replace BW := hide ((unhide BW).trans (b.mono (unhide BW).size))
    clear b
    go_wp2
    go_ret
    exact ⟨rfl, unhide BW⟩
  · by_cases hpq : sp = (lenM : Int) % 6
    · have hA := doA_yes hok hsok
      have hok2 := Dk.ok_step hok hsok
      have hA2 := doA_yes hok2 (unhide HOK)
      have hA3 := doA_yes hok (unhide HOK)
      have hok3 := Dk.ok_step hok (unhide HOK)
      have hE := Dk.step_twice ⟨db, fl, has, jr⟩ ⟨2, sp, sx, sps⟩ ⟨2, (lenM : Int) % 6, 3, []⟩ rfl rfl hpq
      rw [hE] at hA2
      generalize Dk.D.step ⟨db, fl, has, jr⟩ ⟨2, sp, sx, sps⟩ = D2 at *
      generalize Dk.D.step ⟨db, fl, has, jr⟩ ⟨2, (lenM : Int) % 6, 3, []⟩ = DY at *
      clear hok2 hok3 hE
      obtain ⟨db2, fl2, has2, jr2⟩ := D2
      obtain ⟨dby, fly, hasy, jry⟩ := DY
      have CI := hide (fun (W : World) (v1 uf v2 pv : Value) (x : DIn W ⟨db, fl, has, jr⟩ v1 uf v2) (y : SIn W ⟨2, sp, sx, sps⟩ pv) => implDo_in W ⟨db, fl, has, jr⟩ ⟨2, sp, sx, sps⟩ v1 uf v2 pv x y)
      rw [hA] at CI
      dsimp only at CI
      have CS := hide (fun (W : World) (v1 uf v2 pv : Value) (x : DIn W ⟨db, fl, has, jr⟩ v1 uf v2) (y : SIn W ⟨2, sp, sx, sps⟩ pv) => specDo_in W ⟨db, fl, has, jr⟩ ⟨2, sp, sx, sps⟩ v1 uf v2 pv x y)
      rw [hA] at CS
      dsimp only at CS
      have C2 := hide (fun (W : World) (v1 uf v2 pv : Value) (x : DIn W ⟨db2, fl2, has2, jr2⟩ v1 uf v2) (y : SIn W ⟨2, (lenM : Int) % 6, 3, []⟩ pv) => implDo_in W ⟨db2, fl2, has2, jr2⟩ ⟨2, (lenM : Int) % 6, 3, []⟩ v1 uf v2 pv x y)
      rw [hA2] at C2
      (try dsimp only at C2)
      have C3 := hide (fun (W : World) (v1 uf v2 pv : Value) (x : DIn W ⟨db, fl, has, jr⟩ v1 uf v2) (y : SIn W ⟨2, (lenM : Int) % 6, 3, []⟩ pv) => implDo_in W ⟨db, fl, has, jr⟩ ⟨2, (lenM : Int) % 6, 3, []⟩ v1 uf v2 pv x y)
      rw [hA3] at C3
      (try dsimp only at C3)
      clear hA hA2 hA3 hok hsok hpp hxx hps
      have hpe : (sp == (lenM : Int) % 6) = true := by rw [beq_iff_eq]; exact hpq
      clear hpq
      go_wp2_with fail
      generalize hX : u0.heap.size = X3 at *
      clear hX
      generalize World.alloc _ _ = u1 at *
      obtain ⟨x30, x31, x32, x33⟩ : _ ∧ _ ∧ _ ∧ _ := ⟨cellOf (unhide HB3) 0, cellOf (unhide HB3) 1, cellOf (unhide HB3) 2, cellOf (unhide HB3) 3⟩
      obtain ⟨x40, x41, x42, x43⟩ : _ ∧ _ ∧ _ ∧ _ := ⟨cellOf (unhide HB4) 0, cellOf (unhide HB4) 1, cellOf (unhide HB4) 2, cellOf (unhide HB4) 3⟩
      refine ((unhide CS) _ _ _ _ _ (unhide HD3) (unhide HS4)).mono ?_
      rintro e u2 ⟨q1, qf, q2, rfl, hd, b⟩
      replace HB3 := hide ((b.block _ (heapLt (unhide HB3))).trans (unhide HB3))
      replace HB4 := hide ((b.block _ (heapLt (unhide HB4))).trans (unhide HB4))
      replace HD3 := hide ((unhide HD3).later b)
      replace HS4 := hide ((unhide HS4).later b)
      replace BW := hide ((unhide BW).trans (b.mono (unhide BW).size))
      clear b
      clear x30 x31 x32 x33
      clear x40 x41 x42 x43
      obtain ⟨qa, qx, qb, qy, qc, qz, i1, i2, i3⟩ := hd.forms
      (try dsimp only at i1 i2 i3)
      subst i1 i2 i3
      have HD5 := hide hd
      clear hd
      dsimp only [dkV]
      have bX := below1 u2 (.cells #[.slice qa db2.length qx, .slice qb fl2.length qy, .bool has2, .slice qc jr2.length qz] 26)
      have HB5 := hide (heap_alloc_new u2 (.cells #[.slice qa db2.length qx, .slice qb fl2.length qy, .bool has2, .slice qc jr2.length qz] 26))
      replace HB3 := hide ((bX.block _ (heapLt (unhide HB3))).trans (unhide HB3))
      replace HB4 := hide ((bX.block _ (heapLt (unhide HB4))).trans (unhide HB4))
      replace HD3 := hide ((unhide HD3).later bX)
      replace HD5 := hide ((unhide HD5).later bX)
      replace HS4 := hide ((unhide HS4).later bX)
      replace BW := hide ((unhide BW).trans (bX.mono (unhide BW).size))
      clear bX
      obtain ⟨x30, x31, x32, x33⟩ : _ ∧ _ ∧ _ ∧ _ := ⟨cellOf (unhide HB3) 0, cellOf (unhide HB3) 1, cellOf (unhide HB3) 2, cellOf (unhide HB3) 3⟩
      obtain ⟨x40, x41, x42, x43⟩ : _ ∧ _ ∧ _ ∧ _ := ⟨cellOf (unhide HB4) 0, cellOf (unhide HB4) 1, cellOf (unhide HB4) 2, cellOf (unhide HB4) 3⟩
      go_wp2_with fail
      generalize u2.heap.size = X5 at *
      generalize u2.alloc _ = u3 at *
      refine ((unhide CI) _ _ _ _ _ (unhide HD3) (unhide HS4)).mono ?_
      rintro e u4 ⟨q1, qf, q2, rfl, hd, b⟩
      replace HB3 := hide ((b.block _ (heapLt (unhide HB3))).trans (unhide HB3))
      replace HB4 := hide ((b.block _ (heapLt (unhide HB4))).trans (unhide HB4))
      replace HB5 := hide ((b.block _ (heapLt (unhide HB5))).trans (unhide HB5))
      replace HD3 := hide ((unhide HD3).later b)
      replace HD5 := hide ((unhide HD5).later b)
      replace HS4 := hide ((unhide HS4).later b)
      replace BW := hide ((unhide BW).trans (b.mono (unhide BW).size))
      clear b
      clear x30 x31 x32 x33
      clear x40 x41 x42 x43
      obtain ⟨ra, rx, rb, ry, rc, rz, i1, i2, i3⟩ := hd.forms
      (try dsimp only at i1 i2 i3)
      subst i1 i2 i3
      have HD7 := hide hd
      clear hd
      dsimp only [dkV]
      have bX := below1 u4 (.cells #[.slice ra db2.length rx, .slice rb fl2.length ry, .bool has2, .slice rc jr2.length rz] 26)
      have HB7 := hide (heap_alloc_new u4 (.cells #[.slice ra db2.length rx, .slice rb fl2.length ry, .bool has2, .slice rc jr2.length rz] 26))
      replace HB3 := hide ((bX.block _ (heapLt (unhide HB3))).trans (unhide HB3))
      replace HB4 := hide ((bX.block _ (heapLt (unhide HB4))).trans (unhide HB4))
      replace HB5 := hide ((bX.block _ (heapLt (unhide HB5))).trans (unhide HB5))
      replace HD3 := hide ((unhide HD3).later bX)
      replace HD5 := hide ((unhide HD5).later bX)
      replace HD7 := hide ((unhide HD7).later bX)
      replace HS4 := hide ((unhide HS4).later bX)
      replace BW := hide ((unhide BW).trans (bX.mono (unhide BW).size))
      clear bX
      obtain ⟨x70, x71, x72, x73⟩ : _ ∧ _ ∧ _ ∧ _ := ⟨cellOf (unhide HB7) 0, cellOf (unhide HB7) 1, cellOf (unhide HB7) 2, cellOf (unhide HB7) 3⟩
      obtain ⟨x50, x51, x52, x53⟩ : _ ∧ _ ∧ _ ∧ _ := ⟨cellOf (unhide HB5) 0, cellOf (unhide HB5) 1, cellOf (unhide HB5) 2, cellOf (unhide HB5) 3⟩
      go_wp2_with fail
      generalize u4.heap.size = X7 at *
      generalize u4.alloc _ = u5 at *
      refine (luDisk_in _ ⟨db2, fl2, has2, jr2⟩ _ _ _ _ _ _ (unhide HD7) (unhide HD5)).mono ?_
      rintro e u6 ⟨rfl, b⟩
      replace HB3 := hide ((b.block _ (heapLt (unhide HB3))).trans (unhide HB3))
      replace HB4 := hide ((b.block _ (heapLt (unhide HB4))).trans (unhide HB4))
      replace HB5 := hide ((b.block _ (heapLt (unhide HB5))).trans (unhide HB5))
      replace HB7 := hide ((b.block _ (heapLt (unhide HB7))).trans (unhide HB7))
      replace HD3 := hide ((unhide HD3).later b)
      replace HD5 := hide ((unhide HD5).later b)
      replace HD7 := hide ((unhide HD7).later b)
      replace HS4 := hide ((unhide HS4).later b)
      replace BW := hide ((unhide BW).trans (b.mono (unhide BW).size))
      clear b
      clear x70 x71 x72 x73
      clear x50 x51 x52 x53
      obtain ⟨x40, x41, x42, x43⟩ : _ ∧ _ ∧ _ ∧ _ := ⟨cellOf (unhide HB4) 0, cellOf (unhide HB4) 1, cellOf (unhide HB4) 2, cellOf (unhide HB4) 3⟩
      have w40 := x40
      clear x40 x41 x42 x43
      have bX := below1 u6 (.cells #[.int .i64 2, .int .i64 ((lenM : Int) % 6), .int .i64 3, .slice none 0 0] 34)
      have HB8 := hide (heap_alloc_new u6 (.cells #[.int .i64 2, .int .i64 ((lenM : Int) % 6), .int .i64 3, .slice none 0 0] 34))
      replace HB3 := hide ((bX.block _ (heapLt (unhide HB3))).trans (unhide HB3))
      replace HB4 := hide ((bX.block _ (heapLt (unhide HB4))).trans (unhide HB4))
      replace HB5 := hide ((bX.block _ (heapLt (unhide HB5))).trans (unhide HB5))
      replace HB7 := hide ((bX.block _ (heapLt (unhide HB7))).trans (unhide HB7))
      replace HD3 := hide ((unhide HD3).later bX)
      replace HD5 := hide ((unhide HD5).later bX)
      replace HD7 := hide ((unhide HD7).later bX)
      replace HS4 := hide ((unhide HS4).later bX)
      replace BW := hide ((unhide BW).trans (bX.mono (unhide BW).size))
      clear bX
      obtain ⟨x40, x41, x42, x43⟩ : _ ∧ _ ∧ _ ∧ _ := ⟨cellOf (unhide HB4) 0, cellOf (unhide HB4) 1, cellOf (unhide HB4) 2, cellOf (unhide HB4) 3⟩
      obtain ⟨x70, x71, x72, x73⟩ : _ ∧ _ ∧ _ ∧ _ := ⟨cellOf (unhide HB7) 0, cellOf (unhide HB7) 1, cellOf (unhide HB7) 2, cellOf (unhide HB7) 3⟩
      obtain ⟨x30, x31, x32, x33⟩ : _ ∧ _ ∧ _ ∧ _ := ⟨cellOf (unhide HB3) 0, cellOf (unhide HB3) 1, cellOf (unhide HB3) 2, cellOf (unhide HB3) 3⟩
      go_wp2_with fail
      generalize u6.heap.size = X8 at *
      generalize u6.alloc _ = u7 at *
      clear w40
      clear x40 x41 x42 x43
      clear x70 x71 x72 x73
      clear x30 x31 x32 x33
      refine ((unhide C2) _ _ _ _ _ (unhide HD7) (SIn.nil' _ _ _ _)).mono ?_
      rintro e u8 ⟨q1, qf, q2, rfl, hd, b⟩
      replace HB3 := hide ((b.block _ (heapLt (unhide HB3))).trans (unhide HB3))
      replace HB4 := hide ((b.block _ (heapLt (unhide HB4))).trans (unhide HB4))
      replace HB5 := hide ((b.block _ (heapLt (unhide HB5))).trans (unhide HB5))
      replace HB7 := hide ((b.block _ (heapLt (unhide HB7))).trans (unhide HB7))
      replace HB8 := hide ((b.block _ (heapLt (unhide HB8))).trans (unhide HB8))
      replace HD3 := hide ((unhide HD3).later b)
      replace HD5 := hide ((unhide HD5).later b)
      replace HD7 := hide ((unhide HD7).later b)
      replace HS4 := hide ((unhide HS4).later b)
      replace BW := hide ((unhide BW).trans (b.mono (unhide BW).size))
      clear b
      obtain ⟨ta, tx, tb, ty, tc, tz, i1, i2, i3⟩ := hd.forms
      (try dsimp only at i1 i2 i3)
      subst i1 i2 i3
      have HD9 := hide hd
      clear hd
      (try dsimp only [dkV])
      have bX := below1 u8 (.cells #[.slice ta dby.length tx, .slice tb fly.length ty, .bool hasy, .slice tc jry.length tz] 26)
      have HB9 := hide (heap_alloc_new u8 (.cells #[.slice ta dby.length tx, .slice tb fly.length ty, .bool hasy, .slice tc jry.length tz] 26))
      replace HB3 := hide ((bX.block _ (heapLt (unhide HB3))).trans (unhide HB3))
      replace HB4 := hide ((bX.block _ (heapLt (unhide HB4))).trans (unhide HB4))
      replace HB5 := hide ((bX.block _ (heapLt (unhide HB5))).trans (unhide HB5))
      replace HB7 := hide ((bX.block _ (heapLt (unhide HB7))).trans (unhide HB7))
      replace HB8 := hide ((bX.block _ (heapLt (unhide HB8))).trans (unhide HB8))
      replace HD3 := hide ((unhide HD3).later bX)
      replace HD5 := hide ((unhide HD5).later bX)
      replace HD7 := hide ((unhide HD7).later bX)
      replace HD9 := hide ((unhide HD9).later bX)
      replace HS4 := hide ((unhide HS4).later bX)
      replace BW := hide ((unhide BW).trans (bX.mono (unhide BW).size))
      clear bX
      obtain ⟨x30, x31, x32, x33⟩ : _ ∧ _ ∧ _ ∧ _ := ⟨cellOf (unhide HB3) 0, cellOf (unhide HB3) 1, cellOf (unhide HB3) 2, cellOf (unhide HB3) 3⟩
      obtain ⟨x80, x81, x82, x83⟩ : _ ∧ _ ∧ _ ∧ _ := ⟨cellOf (unhide HB8) 0, cellOf (unhide HB8) 1, cellOf (unhide HB8) 2, cellOf (unhide HB8) 3⟩
      go_wp2_with fail
      generalize u8.heap.size = X9 at *
      generalize u8.alloc _ = u9 at *
      clear x30 x31 x32 x33
      clear x80 x81 x82 x83
      refine ((unhide C3) _ _ _ _ _ (unhide HD3) (SIn.nil' _ _ _ _)).mono ?_
      rintro e u10 ⟨q1, qf, q2, rfl, hd, b⟩
      replace HB3 := hide ((b.block _ (heapLt (unhide HB3))).trans (unhide HB3))
      replace HB4 := hide ((b.block _ (heapLt (unhide HB4))).trans (unhide HB4))
      replace HB5 := hide ((b.block _ (heapLt (unhide HB5))).trans (unhide HB5))
      replace HB7 := hide ((b.block _ (heapLt (unhide HB7))).trans (unhide HB7))
      replace HB8 := hide ((b.block _ (heapLt (unhide HB8))).trans (unhide HB8))
      replace HB9 := hide ((b.block _ (heapLt (unhide HB9))).trans (unhide HB9))
      replace HD3 := hide ((unhide HD3).later b)
      replace HD5 := hide ((unhide HD5).later b)
      replace HD7 := hide ((unhide HD7).later b)
      replace HD9 := hide ((unhide HD9).later b)
      replace HS4 := hide ((unhide HS4).later b)
      replace BW := hide ((unhide BW).trans (b.mono (unhide BW).size))
      clear b
      obtain ⟨ya, yx, yb, yy, yc, yz, i1, i2, i3⟩ := hd.forms
      (try dsimp only at i1 i2 i3)
      subst i1 i2 i3
      have HD11 := hide hd
      clear hd
      (try dsimp only [dkV])
      have bX := below1 u10 (.cells #[.slice ya dby.length yx, .slice yb fly.length yy, .bool hasy, .slice yc jry.length yz] 26)
      have HB11 := hide (heap_alloc_new u10 (.cells #[.slice ya dby.length yx, .slice yb fly.length yy, .bool hasy, .slice yc jry.length yz] 26))
      replace HB3 := hide ((bX.block _ (heapLt (unhide HB3))).trans (unhide HB3))
      replace HB4 := hide ((bX.block _ (heapLt (unhide HB4))).trans (unhide HB4))
      replace HB5 := hide ((bX.block _ (heapLt (unhide HB5))).trans (unhide HB5))
      replace HB7 := hide ((bX.block _ (heapLt (unhide HB7))).trans (unhide HB7))
      replace HB8 := hide ((bX.block _ (heapLt (unhide HB8))).trans (unhide HB8))
      replace HB9 := hide ((bX.block _ (heapLt (unhide HB9))).trans (unhide HB9))
      replace HD3 := hide ((unhide HD3).later bX)
      replace HD5 := hide ((unhide HD5).later bX)
      replace HD7 := hide ((unhide HD7).later bX)
      replace HD9 := hide ((unhide HD9).later bX)
      replace HD11 := hide ((unhide HD11).later bX)
      replace HS4 := hide ((unhide HS4).later bX)
      replace BW := hide ((unhide BW).trans (bX.mono (unhide BW).size))
      clear bX
      obtain ⟨x90, x91, x92, x93⟩ : _ ∧ _ ∧ _ ∧ _ := ⟨cellOf (unhide HB9) 0, cellOf (unhide HB9) 1, cellOf (unhide HB9) 2, cellOf (unhide HB9) 3⟩
      obtain ⟨x110, x111, x112, x113⟩ : _ ∧ _ ∧ _ ∧ _ := ⟨cellOf (unhide HB11) 0, cellOf (unhide HB11) 1, cellOf (unhide HB11) 2, cellOf (unhide HB11) 3⟩
      go_wp2_with fail
      generalize u10.heap.size = X11 at *
      generalize u10.alloc _ = u11 at *
      clear x90 x91 x92 x93
      clear x110 x111 x112 x113
      refine (luDisk_in _ ⟨dby, fly, hasy, jry⟩ _ _ _ _ _ _ (unhide HD9) (unhide HD11)).mono ?_
      rintro e u12 ⟨rfl, b⟩
      replace HB3 := hide ((b.block _ (heapLt (unhide HB3))).trans (unhide HB3))
      replace HB4 := hide ((b.block _ (heapLt (unhide HB4))).trans (unhide HB4))
      replace HB5 := hide ((b.block _ (heapLt (unhide HB5))).trans (unhide HB5))
      replace HB7 := hide ((b.block _ (heapLt (unhide HB7))).trans (unhide HB7))
      replace HB8 := hide ((b.block _ (heapLt (unhide HB8))).trans (unhide HB8))
      replace HB9 := hide ((b.block _ (heapLt (unhide HB9))).trans (unhide HB9))
      replace HB11 := hide ((b.block _ (heapLt (unhide HB11))).trans (unhide HB11))
      replace HD3 := hide ((unhide HD3).later b)
      replace HD5 := hide ((unhide HD5).later b)
      replace HD7 := hide ((unhide HD7).later b)
      replace HD9 := hide ((unhide HD9).later b)
      replace HD11 := hide ((unhide HD11).later b)
      replace HS4 := hide ((unhide HS4).later b)
      replace BW := hide ((unhide BW).trans (b.mono (unhide BW).size))
      clear b
      go_wp2
      go_ret
      exact ⟨rfl, unhide BW⟩
    · have hA := doA_yes hok hsok
      have hok2 := Dk.ok_step hok hsok
      have hA2 := doA_yes hok2 (unhide HOK)
      have hA3 := doA_yes hok (unhide HOK)
      have hok3 := Dk.ok_step hok (unhide HOK)
      have hA4 := doA_yes hok3 hsok
      have hE := Dk.step_order ⟨db, fl, has, jr⟩ ⟨2, sp, sx, sps⟩ ⟨2, (lenM : Int) % 6, 3, []⟩ rfl (.inr ⟨rfl, fun e => hpq (by have e2 : sp.toNat = ((lenM : Int) % 6).toNat := e; have := hpp.1; omega)⟩)
      rw [← hE] at hA4
      generalize Dk.D.step ⟨db, fl, has, jr⟩ ⟨2, sp, sx, sps⟩ = D2 at *
      generalize Dk.D.step ⟨db, fl, has, jr⟩ ⟨2, (lenM : Int) % 6, 3, []⟩ = DY at *
      generalize Dk.D.step D2 ⟨2, (lenM : Int) % 6, 3, []⟩ = DA at *
      clear hok2 hok3 hE
      obtain ⟨db2, fl2, has2, jr2⟩ := D2
      obtain ⟨dby, fly, hasy, jry⟩ := DY
      obtain ⟨dba, fla, hasa, jra⟩ := DA
      have CI := hide (fun (W : World) (v1 uf v2 pv : Value) (x : DIn W ⟨db, fl, has, jr⟩ v1 uf v2) (y : SIn W ⟨2, sp, sx, sps⟩ pv) => implDo_in W ⟨db, fl, has, jr⟩ ⟨2, sp, sx, sps⟩ v1 uf v2 pv x y)
      rw [hA] at CI
      dsimp only at CI
      have CS := hide (fun (W : World) (v1 uf v2 pv : Value) (x : DIn W ⟨db, fl, has, jr⟩ v1 uf v2) (y : SIn W ⟨2, sp, sx, sps⟩ pv) => specDo_in W ⟨db, fl, has, jr⟩ ⟨2, sp, sx, sps⟩ v1 uf v2 pv x y)
      rw [hA] at CS
      dsimp only at CS
      have C2 := hide (fun (W : World) (v1 uf v2 pv : Value) (x : DIn W ⟨db2, fl2, has2, jr2⟩ v1 uf v2) (y : SIn W ⟨2, (lenM : Int) % 6, 3, []⟩ pv) => implDo_in W ⟨db2, fl2, has2, jr2⟩ ⟨2, (lenM : Int) % 6, 3, []⟩ v1 uf v2 pv x y)
      rw [hA2] at C2
      (try dsimp only at C2)
      have C3 := hide (fun (W : World) (v1 uf v2 pv : Value) (x : DIn W ⟨db, fl, has, jr⟩ v1 uf v2) (y : SIn W ⟨2, (lenM : Int) % 6, 3, []⟩ pv) => implDo_in W ⟨db, fl, has, jr⟩ ⟨2, (lenM : Int) % 6, 3, []⟩ v1 uf v2 pv x y)
      rw [hA3] at C3
      (try dsimp only at C3)
      have C4 := hide (fun (W : World) (v1 uf v2 pv : Value) (x : DIn W ⟨dby, fly, hasy, jry⟩ v1 uf v2) (y : SIn W ⟨2, sp, sx, sps⟩ pv) => implDo_in W ⟨dby, fly, hasy, jry⟩ ⟨2, sp, sx, sps⟩ v1 uf v2 pv x y)
      rw [hA4] at C4
      (try dsimp only at C4)
      clear hA hA2 hA3 hA4 hok hsok hpp hxx hps
      have hpe : (sp == (lenM : Int) % 6) = false := by rw [beq_eq_false_iff_ne]; exact hpq
      clear hpq
      go_wp2_with fail
      generalize hX : u0.heap.size = X3 at *
      clear hX
      generalize World.alloc _ _ = u1 at *
      obtain ⟨x30, x31, x32, x33⟩ : _ ∧ _ ∧ _ ∧ _ := ⟨cellOf (unhide HB3) 0, cellOf (unhide HB3) 1, cellOf (unhide HB3) 2, cellOf (unhide HB3) 3⟩
      obtain ⟨x40, x41, x42, x43⟩ : _ ∧ _ ∧ _ ∧ _ := ⟨cellOf (unhide HB4) 0, cellOf (unhide HB4) 1, cellOf (unhide HB4) 2, cellOf (unhide HB4) 3⟩
      refine ((unhide CS) _ _ _ _ _ (unhide HD3) (unhide HS4)).mono ?_
      rintro e u2 ⟨q1, qf, q2, rfl, hd, b⟩
      replace HB3 := hide ((b.block _ (heapLt (unhide HB3))).trans (unhide HB3))
      replace HB4 := hide ((b.block _ (heapLt (unhide HB4))).trans (unhide HB4))
      replace HD3 := hide ((unhide HD3).later b)
      replace HS4 := hide ((unhide HS4).later b)
      replace BW := hide ((unhide BW).trans (b.mono (unhide BW).size))
      clear b
      clear x30 x31 x32 x33
      clear x40 x41 x42 x43
      obtain ⟨qa, qx, qb, qy, qc, qz, i1, i2, i3⟩ := hd.forms
      (try dsimp only at i1 i2 i3)
      subst i1 i2 i3
      have HD5 := hide hd
      clear hd
      dsimp only [dkV]
      have bX := below1 u2 (.cells #[.slice qa db2.length qx, .slice qb fl2.length qy, .bool has2, .slice qc jr2.length qz] 26)
      have HB5 := hide (heap_alloc_new u2 (.cells #[.slice qa db2.length qx, .slice qb fl2.length qy, .bool has2, .slice qc jr2.length qz] 26))
      replace HB3 := hide ((bX.block _ (heapLt (unhide HB3))).trans (unhide HB3))
      replace HB4 := hide ((bX.block _ (heapLt (unhide HB4))).trans (unhide HB4))
      replace HD3 := hide ((unhide HD3).later bX)
      replace HD5 := hide ((unhide HD5).later bX)
      replace HS4 := hide ((unhide HS4).later bX)
      replace BW := hide ((unhide BW).trans (bX.mono (unhide BW).size))
      clear bX
      obtain ⟨x30, x31, x32, x33⟩ : _ ∧ _ ∧ _ ∧ _ := ⟨cellOf (unhide HB3) 0, cellOf (unhide HB3) 1, cellOf (unhide HB3) 2, cellOf (unhide HB3) 3⟩
      obtain ⟨x40, x41, x42, x43⟩ : _ ∧ _ ∧ _ ∧ _ := ⟨cellOf (unhide HB4) 0, cellOf (unhide HB4) 1, cellOf (unhide HB4) 2, cellOf (unhide HB4) 3⟩
      go_wp2_with fail
      generalize u2.heap.size = X5 at *
      generalize u2.alloc _ = u3 at *
      refine ((unhide CI) _ _ _ _ _ (unhide HD3) (unhide HS4)).mono ?_
      rintro e u4 ⟨q1, qf, q2, rfl, hd, b⟩
      replace HB3 := hide ((b.block _ (heapLt (unhide HB3))).trans (unhide HB3))
      replace HB4 := hide ((b.block _ (heapLt (unhide HB4))).trans (unhide HB4))
      replace HB5 := hide ((b.block _ (heapLt (unhide HB5))).trans (unhide HB5))
      replace HD3 := hide ((unhide HD3).later b)
      replace HD5 := hide ((unhide HD5).later b)
      replace HS4 := hide ((unhide HS4).later b)
      replace BW := hide ((unhide BW).trans (b.mono (unhide BW).size))
      clear b
      clear x30 x31 x32 x33
      clear x40 x41 x42 x43
      obtain ⟨ra, rx, rb, ry, rc, rz, i1, i2, i3⟩ := hd.forms
      (try dsimp only at i1 i2 i3)
      subst i1 i2 i3
      have HD7 := hide hd
      clear hd
      dsimp only [dkV]
      have bX := below1 u4 (.cells #[.slice ra db2.length rx, .slice rb fl2.length ry, .bool has2, .slice rc jr2.length rz] 26)
      have HB7 := hide (heap_alloc_new u4 (.cells #[.slice ra db2.length rx, .slice rb fl2.length ry, .bool has2, .slice rc jr2.length rz] 26))
      replace HB3 := hide ((bX.block _ (heapLt (unhide HB3))).trans (unhide HB3))
      replace HB4 := hide ((bX.block _ (heapLt (unhide HB4))).trans (unhide HB4))
      replace HB5 := hide ((bX.block _ (heapLt (unhide HB5))).trans (unhide HB5))
      replace HD3 := hide ((unhide HD3).later bX)
      replace HD5 := hide ((unhide HD5).later bX)
      replace HD7 := hide ((unhide HD7).later bX)
      replace HS4 := hide ((unhide HS4).later bX)
      replace BW := hide ((unhide BW).trans (bX.mono (unhide BW).size))
      clear bX
      obtain ⟨x70, x71, x72, x73⟩ : _ ∧ _ ∧ _ ∧ _ := ⟨cellOf (unhide HB7) 0, cellOf (unhide HB7) 1, cellOf (unhide HB7) 2, cellOf (unhide HB7) 3⟩
      obtain ⟨x50, x51, x52, x53⟩ : _ ∧ _ ∧ _ ∧ _ := ⟨cellOf (unhide HB5) 0, cellOf (unhide HB5) 1, cellOf (unhide HB5) 2, cellOf (unhide HB5) 3⟩
      go_wp2_with fail
      generalize u4.heap.size = X7 at *
      generalize u4.alloc _ = u5 at *
      refine (luDisk_in _ ⟨db2, fl2, has2, jr2⟩ _ _ _ _ _ _ (unhide HD7) (unhide HD5)).mono ?_
      rintro e u6 ⟨rfl, b⟩
      replace HB3 := hide ((b.block _ (heapLt (unhide HB3))).trans (unhide HB3))
      replace HB4 := hide ((b.block _ (heapLt (unhide HB4))).trans (unhide HB4))
      replace HB5 := hide ((b.block _ (heapLt (unhide HB5))).trans (unhide HB5))
      replace HB7 := hide ((b.block _ (heapLt (unhide HB7))).trans (unhide HB7))
      replace HD3 := hide ((unhide HD3).later b)
      replace HD5 := hide ((unhide HD5).later b)
      replace HD7 := hide ((unhide HD7).later b)
      replace HS4 := hide ((unhide HS4).later b)
      replace BW := hide ((unhide BW).trans (b.mono (unhide BW).size))
      clear b
      clear x70 x71 x72 x73
      clear x50 x51 x52 x53
      obtain ⟨x40, x41, x42, x43⟩ : _ ∧ _ ∧ _ ∧ _ := ⟨cellOf (unhide HB4) 0, cellOf (unhide HB4) 1, cellOf (unhide HB4) 2, cellOf (unhide HB4) 3⟩
      have w40 := x40
      clear x40 x41 x42 x43
      have bX := below1 u6 (.cells #[.int .i64 2, .int .i64 ((lenM : Int) % 6), .int .i64 3, .slice none 0 0] 34)
      have HB8 := hide (heap_alloc_new u6 (.cells #[.int .i64 2, .int .i64 ((lenM : Int) % 6), .int .i64 3, .slice none 0 0] 34))
      replace HB3 := hide ((bX.block _ (heapLt (unhide HB3))).trans (unhide HB3))
      replace HB4 := hide ((bX.block _ (heapLt (unhide HB4))).trans (unhide HB4))
      replace HB5 := hide ((bX.block _ (heapLt (unhide HB5))).trans (unhide HB5))
      replace HB7 := hide ((bX.block _ (heapLt (unhide HB7))).trans (unhide HB7))
      replace HD3 := hide ((unhide HD3).later bX)
      replace HD5 := hide ((unhide HD5).later bX)
      replace HD7 := hide ((unhide HD7).later bX)
      replace HS4 := hide ((unhide HS4).later bX)
      replace BW := hide ((unhide BW).trans (bX.mono (unhide BW).size))
      clear bX
      obtain ⟨x40, x41, x42, x43⟩ : _ ∧ _ ∧ _ ∧ _ := ⟨cellOf (unhide HB4) 0, cellOf (unhide HB4) 1, cellOf (unhide HB4) 2, cellOf (unhide HB4) 3⟩
      obtain ⟨x70, x71, x72, x73⟩ : _ ∧ _ ∧ _ ∧ _ := ⟨cellOf (unhide HB7) 0, cellOf (unhide HB7) 1, cellOf (unhide HB7) 2, cellOf (unhide HB7) 3⟩
      obtain ⟨x30, x31, x32, x33⟩ : _ ∧ _ ∧ _ ∧ _ := ⟨cellOf (unhide HB3) 0, cellOf (unhide HB3) 1, cellOf (unhide HB3) 2, cellOf (unhide HB3) 3⟩
      go_wp2_with fail
      generalize u6.heap.size = X8 at *
      generalize u6.alloc _ = u7 at *
      clear w40
      clear x40 x41 x42 x43
      clear x70 x71 x72 x73
      clear x30 x31 x32 x33
      refine ((unhide C2) _ _ _ _ _ (unhide HD7) (SIn.nil' _ _ _ _)).mono ?_
      rintro e u8 ⟨q1, qf, q2, rfl, hd, b⟩
      replace HB3 := hide ((b.block _ (heapLt (unhide HB3))).trans (unhide HB3))
      replace HB4 := hide ((b.block _ (heapLt (unhide HB4))).trans (unhide HB4))
      replace HB5 := hide ((b.block _ (heapLt (unhide HB5))).trans (unhide HB5))
      replace HB7 := hide ((b.block _ (heapLt (unhide HB7))).trans (unhide HB7))
      replace HB8 := hide ((b.block _ (heapLt (unhide HB8))).trans (unhide HB8))
      replace HD3 := hide ((unhide HD3).later b)
      replace HD5 := hide ((unhide HD5).later b)
      replace HD7 := hide ((unhide HD7).later b)
      replace HS4 := hide ((unhide HS4).later b)
      replace BW := hide ((unhide BW).trans (b.mono (unhide BW).size))
      clear b
      obtain ⟨ta, tx, tb, ty, tc, tz, i1, i2, i3⟩ := hd.forms
      (try dsimp only at i1 i2 i3)
      subst i1 i2 i3
      have HD9 := hide hd
      clear hd
      (try dsimp only [dkV])
      have bX := below1 u8 (.cells #[.slice ta dba.length tx, .slice tb fla.length ty, .bool hasa, .slice tc jra.length tz] 26)
      have HB9 := hide (heap_alloc_new u8 (.cells #[.slice ta dba.length tx, .slice tb fla.length ty, .bool hasa, .slice tc jra.length tz] 26))
      replace HB3 := hide ((bX.block _ (heapLt (unhide HB3))).trans (unhide HB3))
      replace HB4 := hide ((bX.block _ (heapLt (unhide HB4))).trans (unhide HB4))
      replace HB5 := hide ((bX.block _ (heapLt (unhide HB5))).trans (unhide HB5))
      replace HB7 := hide ((bX.block _ (heapLt (unhide HB7))).trans (unhide HB7))
      replace HB8 := hide ((bX.block _ (heapLt (unhide HB8))).trans (unhide HB8))
      replace HD3 := hide ((unhide HD3).later bX)
      replace HD5 := hide ((unhide HD5).later bX)
      replace HD7 := hide ((unhide HD7).later bX)
      replace HD9 := hide ((unhide HD9).later bX)
      replace HS4 := hide ((unhide HS4).later bX)
      replace BW := hide ((unhide BW).trans (bX.mono (unhide BW).size))
      clear bX
      obtain ⟨x30, x31, x32, x33⟩ : _ ∧ _ ∧ _ ∧ _ := ⟨cellOf (unhide HB3) 0, cellOf (unhide HB3) 1, cellOf (unhide HB3) 2, cellOf (unhide HB3) 3⟩
      obtain ⟨x80, x81, x82, x83⟩ : _ ∧ _ ∧ _ ∧ _ := ⟨cellOf (unhide HB8) 0, cellOf (unhide HB8) 1, cellOf (unhide HB8) 2, cellOf (unhide HB8) 3⟩
      go_wp2_with fail
      generalize u8.heap.size = X9 at *
      generalize u8.alloc _ = u9 at *
      clear x30 x31 x32 x33
      clear x80 x81 x82 x83
      refine ((unhide C3) _ _ _ _ _ (unhide HD3) (SIn.nil' _ _ _ _)).mono ?_
      rintro e u10 ⟨q1, qf, q2, rfl, hd, b⟩
      replace HB3 := hide ((b.block _ (heapLt (unhide HB3))).trans (unhide HB3))
      replace HB4 := hide ((b.block _ (heapLt (unhide HB4))).trans (unhide HB4))
      replace HB5 := hide ((b.block _ (heapLt (unhide HB5))).trans (unhide HB5))
      replace HB7 := hide ((b.block _ (heapLt (unhide HB7))).trans (unhide HB7))
      replace HB8 := hide ((b.block _ (heapLt (unhide HB8))).trans (unhide HB8))
      replace HB9 := hide ((b.block _ (heapLt (unhide HB9))).trans (unhide HB9))
      replace HD3 := hide ((unhide HD3).later b)
      replace HD5 := hide ((unhide HD5).later b)
      replace HD7 := hide ((unhide HD7).later b)
      replace HD9 := hide ((unhide HD9).later b)
      replace HS4 := hide ((unhide HS4).later b)
      replace BW := hide ((unhide BW).trans (b.mono (unhide BW).size))
      clear b
      obtain ⟨ya, yx, yb, yy, yc, yz, i1, i2, i3⟩ := hd.forms
      (try dsimp only at i1 i2 i3)
      subst i1 i2 i3
      have HD11 := hide hd
      clear hd
      (try dsimp only [dkV])
      have bX := below1 u10 (.cells #[.slice ya dby.length yx, .slice yb fly.length yy, .bool hasy, .slice yc jry.length yz] 26)
      have HB11 := hide (heap_alloc_new u10 (.cells #[.slice ya dby.length yx, .slice yb fly.length yy, .bool hasy, .slice yc jry.length yz] 26))
      replace HB3 := hide ((bX.block _ (heapLt (unhide HB3))).trans (unhide HB3))
      replace HB4 := hide ((bX.block _ (heapLt (unhide HB4))).trans (unhide HB4))
      replace HB5 := hide ((bX.block _ (heapLt (unhide HB5))).trans (unhide HB5))
      replace HB7 := hide ((bX.block _ (heapLt (unhide HB7))).trans (unhide HB7))
      replace HB8 := hide ((bX.block _ (heapLt (unhide HB8))).trans (unhide HB8))
      replace HB9 := hide ((bX.block _ (heapLt (unhide HB9))).trans (unhide HB9))
      replace HD3 := hide ((unhide HD3).later bX)
      replace HD5 := hide ((unhide HD5).later bX)
      replace HD7 := hide ((unhide HD7).later bX)
      replace HD9 := hide ((unhide HD9).later bX)
      replace HD11 := hide ((unhide HD11).later bX)
      replace HS4 := hide ((unhide HS4).later bX)
      replace BW := hide ((unhide BW).trans (bX.mono (unhide BW).size))
      clear bX
      obtain ⟨x110, x111, x112, x113⟩ : _ ∧ _ ∧ _ ∧ _ := ⟨cellOf (unhide HB11) 0, cellOf (unhide HB11) 1, cellOf (unhide HB11) 2, cellOf (unhide HB11) 3⟩
      obtain ⟨x40, x41, x42, x43⟩ : _ ∧ _ ∧ _ ∧ _ := ⟨cellOf (unhide HB4) 0, cellOf (unhide HB4) 1, cellOf (unhide HB4) 2, cellOf (unhide HB4) 3⟩
      go_wp2_with fail
      generalize u10.heap.size = X11 at *
      generalize u10.alloc _ = u11 at *
      clear x110 x111 x112 x113
      clear x40 x41 x42 x43
      refine ((unhide C4) _ _ _ _ _ (unhide HD11) (unhide HS4)).mono ?_
      rintro e u12 ⟨q1, qf, q2, rfl, hd, b⟩
      replace HB3 := hide ((b.block _ (heapLt (unhide HB3))).trans (unhide HB3))
      replace HB4 := hide ((b.block _ (heapLt (unhide HB4))).trans (unhide HB4))
      replace HB5 := hide ((b.block _ (heapLt (unhide HB5))).trans (unhide HB5))
      replace HB7 := hide ((b.block _ (heapLt (unhide HB7))).trans (unhide HB7))
      replace HB8 := hide ((b.block _ (heapLt (unhide HB8))).trans (unhide HB8))
      replace HB9 := hide ((b.block _ (heapLt (unhide HB9))).trans (unhide HB9))
      replace HB11 := hide ((b.block _ (heapLt (unhide HB11))).trans (unhide HB11))
      replace HD3 := hide ((unhide HD3).later b)
      replace HD5 := hide ((unhide HD5).later b)
      replace HD7 := hide ((unhide HD7).later b)
      replace HD9 := hide ((unhide HD9).later b)
      replace HD11 := hide ((unhide HD11).later b)
      replace HS4 := hide ((unhide HS4).later b)
      replace BW := hide ((unhide BW).trans (b.mono (unhide BW).size))
      clear b
      obtain ⟨va, vx, vb, vy, vc, vz, i1, i2, i3⟩ := hd.forms
      (try dsimp only at i1 i2 i3)
      subst i1 i2 i3
      have HD13 := hide hd
      clear hd
      (try dsimp only [dkV])
      have bX := below1 u12 (.cells #[.slice va dba.length vx, .slice vb fla.length vy, .bool hasa, .slice vc jra.length vz] 26)
      have HB13 := hide (heap_alloc_new u12 (.cells #[.slice va dba.length vx, .slice vb fla.length vy, .bool hasa, .slice vc jra.length vz] 26))
      replace HB3 := hide ((bX.block _ (heapLt (unhide HB3))).trans (unhide HB3))
      replace HB4 := hide ((bX.block _ (heapLt (unhide HB4))).trans (unhide HB4))
      replace HB5 := hide ((bX.block _ (heapLt (unhide HB5))).trans (unhide HB5))
      replace HB7 := hide ((bX.block _ (heapLt (unhide HB7))).trans (unhide HB7))
      replace HB8 := hide ((bX.block _ (heapLt (unhide HB8))).trans (unhide HB8))
      replace HB9 := hide ((bX.block _ (heapLt (unhide HB9))).trans (unhide HB9))
      replace HB11 := hide ((bX.block _ (heapLt (unhide HB11))).trans (unhide HB11))
      replace HD3 := hide ((unhide HD3).later bX)
      replace HD5 := hide ((unhide HD5).later bX)
      replace HD7 := hide ((unhide HD7).later bX)
      replace HD9 := hide ((unhide HD9).later bX)
      replace HD11 := hide ((unhide HD11).later bX)
      replace HD13 := hide ((unhide HD13).later bX)
      replace HS4 := hide ((unhide HS4).later bX)
      replace BW := hide ((unhide BW).trans (bX.mono (unhide BW).size))
      clear bX
      obtain ⟨x90, x91, x92, x93⟩ : _ ∧ _ ∧ _ ∧ _ := ⟨cellOf (unhide HB9) 0, cellOf (unhide HB9) 1, cellOf (unhide HB9) 2, cellOf (unhide HB9) 3⟩
      obtain ⟨x130, x131, x132, x133⟩ : _ ∧ _ ∧ _ ∧ _ := ⟨cellOf (unhide HB13) 0, cellOf (unhide HB13) 1, cellOf (unhide HB13) 2, cellOf (unhide HB13) 3⟩
      go_wp2_with fail
      generalize u12.heap.size = X13 at *
      generalize u12.alloc _ = u13 at *
      clear x90 x91 x92 x93
      clear x130 x131 x132 x133
      refine (luDisk_in _ ⟨dba, fla, hasa, jra⟩ _ _ _ _ _ _ (unhide HD9) (unhide HD13)).mono ?_
      rintro e u14 ⟨rfl, b⟩
      replace HB3 := hide ((b.block _ (heapLt (unhide HB3))).trans (unhide HB3))
      replace HB4 := hide ((b.block _ (heapLt (unhide HB4))).trans (unhide HB4))
      replace HB5 := hide ((b.block _ (heapLt (unhide HB5))).trans (unhide HB5))
      replace HB7 := hide ((b.block _ (heapLt (unhide HB7))).trans (unhide HB7))
      replace HB8 := hide ((b.block _ (heapLt (unhide HB8))).trans (unhide HB8))
      replace HB9 := hide ((b.block _ (heapLt (unhide HB9))).trans (unhide HB9))
      replace HB11 := hide ((b.block _ (heapLt (unhide HB11))).trans (unhide HB11))
      replace HB13 := hide ((b.block _ (heapLt (unhide HB13))).trans (unhide HB13))
      replace HD3 := hide ((unhide HD3).later b)
      replace HD5 := hide ((unhide HD5).later b)
      replace HD7 := hide ((unhide HD7).later b)
      replace HD9 := hide ((unhide HD9).later b)
      replace HD11 := hide ((unhide HD11).later b)
      replace HD13 := hide ((unhide HD13).later b)
      replace HS4 := hide ((unhide HS4).later b)
      replace BW := hide ((unhide BW).trans (b.mono (unhide BW).size))
      clear b
      go_wp2
      go_ret
      exact ⟨rfl, unhide BW⟩
  · have hA := doA_yes hok hsok
    have hok2 := Dk.ok_step hok hsok
    have hA2 := doA_yes hok2 (unhide HOK)
    have hA3 := doA_yes hok (unhide HOK)
    have hok3 := Dk.ok_step hok (unhide HOK)
    have hA4 := doA_yes hok3 hsok
    have hE := Dk.step_order ⟨db, fl, has, jr⟩ ⟨3, sp, sx, sps⟩ ⟨2, (lenM : Int) % 6, 3, []⟩ rfl (.inl rfl)
    rw [← hE] at hA4
    generalize Dk.D.step ⟨db, fl, has, jr⟩ ⟨3, sp, sx, sps⟩ = D2 at *
    generalize Dk.D.step ⟨db, fl, has, jr⟩ ⟨2, (lenM : Int) % 6, 3, []⟩ = DY at *
    generalize Dk.D.step D2 ⟨2, (lenM : Int) % 6, 3, []⟩ = DA at *
    clear hok2 hok3 hE
    obtain ⟨db2, fl2, has2, jr2⟩ := D2
    obtain ⟨dby, fly, hasy, jry⟩ := DY
    obtain ⟨dba, fla, hasa, jra⟩ := DA
    have CI := hide (fun (W : World) (v1 uf v2 pv : Value) (x : DIn W ⟨db, fl, has, jr⟩ v1 uf v2) (y : SIn W ⟨3, sp, sx, sps⟩ pv) => implDo_in W ⟨db, fl, has, jr⟩ ⟨3, sp, sx, sps⟩ v1 uf v2 pv x y)
    rw [hA] at CI
    dsimp only at CI
    have CS := hide (fun (W : World) (v1 uf v2 pv : Value) (x : DIn W ⟨db, fl, has, jr⟩ v1 uf v2) (y : SIn W ⟨3, sp, sx, sps⟩ pv) => specDo_in W ⟨db, fl, has, jr⟩ ⟨3, sp, sx, sps⟩ v1 uf v2 pv x y)
    rw [hA] at CS
    dsimp only at CS
    have C2 := hide (fun (W : World) (v1 uf v2 pv : Value) (x : DIn W ⟨db2, fl2, has2, jr2⟩ v1 uf v2) (y : SIn W ⟨2, (lenM : Int) % 6, 3, []⟩ pv) => implDo_in W ⟨db2, fl2, has2, jr2⟩ ⟨2, (lenM : Int) % 6, 3, []⟩ v1 uf v2 pv x y)
    rw [hA2] at C2
    (try dsimp only at C2)
    have C3 := hide (fun (W : World) (v1 uf v2 pv : Value) (x : DIn W ⟨db, fl, has, jr⟩ v1 uf v2) (y : SIn W ⟨2, (lenM : Int) % 6, 3, []⟩ pv) => implDo_in W ⟨db, fl, has, jr⟩ ⟨2, (lenM : Int) % 6, 3, []⟩ v1 uf v2 pv x y)
    rw [hA3] at C3
    (try dsimp only at C3)
    have C4 := hide (fun (W : World) (v1 uf v2 pv : Value) (x : DIn W ⟨dby, fly, hasy, jry⟩ v1 uf v2) (y : SIn W ⟨3, sp, sx, sps⟩ pv) => implDo_in W ⟨dby, fly, hasy, jry⟩ ⟨3, sp, sx, sps⟩ v1 uf v2 pv x y)
    rw [hA4] at C4
    (try dsimp only at C4)
    clear hA hA2 hA3 hA4 hok hsok hpp hxx hps
    go_wp2_with fail
    generalize hX : u0.heap.size = X3 at *
    clear hX
    generalize World.alloc _ _ = u1 at *
    obtain ⟨x30, x31, x32, x33⟩ : _ ∧ _ ∧ _ ∧ _ := ⟨cellOf (unhide HB3) 0, cellOf (unhide HB3) 1, cellOf (unhide HB3) 2, cellOf (unhide HB3) 3⟩
    obtain ⟨x40, x41, x42, x43⟩ : _ ∧ _ ∧ _ ∧ _ := ⟨cellOf (unhide HB4) 0, cellOf (unhide HB4) 1, cellOf (unhide HB4) 2, cellOf (unhide HB4) 3⟩
    refine ((unhide CS) _ _ _ _ _ (unhide HD3) (unhide HS4)).mono ?_
    rintro e u2 ⟨q1, qf, q2, rfl, hd, b⟩
    replace HB3 := hide ((b.block _ (heapLt (unhide HB3))).trans (unhide HB3))
    replace HB4 := hide ((b.block _ (heapLt (unhide HB4))).trans (unhide HB4))
    replace HD3 := hide ((unhide HD3).later b)
    replace HS4 := hide ((unhide HS4).later b)
    replace BW := hide ((unhide BW).trans (b.mono (unhide BW).size))
    clear b
    clear x30 x31 x32 x33
    clear x40 x41 x42 x43
    obtain ⟨qa, qx, qb, qy, qc, qz, i1, i2, i3⟩ := hd.forms
    (try dsimp only at i1 i2 i3)
    subst i1 i2 i3
    have HD5 := hide hd
    clear hd
    dsimp only [dkV]
    have bX := below1 u2 (.cells #[.slice qa db2.length qx, .slice qb fl2.length qy, .bool has2, .slice qc jr2.length qz] 26)
    have HB5 := hide (heap_alloc_new u2 (.cells #[.slice qa db2.length qx, .slice qb fl2.length qy, .bool has2, .slice qc jr2.length qz] 26))
    replace HB3 := hide ((bX.block _ (heapLt (unhide HB3))).trans (unhide HB3))
    replace HB4 := hide ((bX.block _ (heapLt (unhide HB4))).trans (unhide HB4))
    replace HD3 := hide ((unhide HD3).later bX)
    replace HD5 := hide ((unhide HD5).later bX)
    replace HS4 := hide ((unhide HS4).later bX)
    replace BW := hide ((unhide BW).trans (bX.mono (unhide BW).size))
    clear bX
    obtain ⟨x30, x31, x32, x33⟩ : _ ∧ _ ∧ _ ∧ _ := ⟨cellOf (unhide HB3) 0, cellOf (unhide HB3) 1, cellOf (unhide HB3) 2, cellOf (unhide HB3) 3⟩
    obtain ⟨x40, x41, x42, x43⟩ : _ ∧ _ ∧ _ ∧ _ := ⟨cellOf (unhide HB4) 0, cellOf (unhide HB4) 1, cellOf (unhide HB4) 2, cellOf (unhide HB4) 3⟩
    go_wp2_with fail
    generalize u2.heap.size = X5 at *
    generalize u2.alloc _ = u3 at *
    refine ((unhide CI) _ _ _ _ _ (unhide HD3) (unhide HS4)).mono ?_
    rintro e u4 ⟨q1, qf, q2, rfl, hd, b⟩
    replace HB3 := hide ((b.block _ (heapLt (unhide HB3))).trans (unhide HB3))
    replace HB4 := hide ((b.block _ (heapLt (unhide HB4))).trans (unhide HB4))
    replace HB5 := hide ((b.block _ (heapLt (unhide HB5))).trans (unhide HB5))
    replace HD3 := hide ((unhide HD3).later b)
    replace HD5 := hide ((unhide HD5).later b)
    replace HS4 := hide ((unhide HS4).later b)
    replace BW := hide ((unhide BW).trans (b.mono (unhide BW).size))
    clear b
    clear x30 x31 x32 x33
    clear x40 x41 x42 x43
    obtain ⟨ra, rx, rb, ry, rc, rz, i1, i2, i3⟩ := hd.forms
    (try dsimp only at i1 i2 i3)
    subst i1 i2 i3
    have HD7 := hide hd
    clear hd
    dsimp only [dkV]
    have bX := below1 u4 (.cells #[.slice ra db2.length rx, .slice rb fl2.length ry, .bool has2, .slice rc jr2.length rz] 26)
    have HB7 := hide (heap_alloc_new u4 (.cells #[.slice ra db2.length rx, .slice rb fl2.length ry, .bool has2, .slice rc jr2.length rz] 26))
    replace HB3 := hide ((bX.block _ (heapLt (unhide HB3))).trans (unhide HB3))
    replace HB4 := hide ((bX.block _ (heapLt (unhide HB4))).trans (unhide HB4))
    replace HB5 := hide ((bX.block _ (heapLt (unhide HB5))).trans (unhide HB5))
    replace HD3 := hide ((unhide HD3).later bX)
    replace HD5 := hide ((unhide HD5).later bX)
    replace HD7 := hide ((unhide HD7).later bX)
    replace HS4 := hide ((unhide HS4).later bX)
    replace BW := hide ((unhide BW).trans (bX.mono (unhide BW).size))
    clear bX
    obtain ⟨x70, x71, x72, x73⟩ : _ ∧ _ ∧ _ ∧ _ := ⟨cellOf (unhide HB7) 0, cellOf (unhide HB7) 1, cellOf (unhide HB7) 2, cellOf (unhide HB7) 3⟩
    obtain ⟨x50, x51, x52, x53⟩ : _ ∧ _ ∧ _ ∧ _ := ⟨cellOf (unhide HB5) 0, cellOf (unhide HB5) 1, cellOf (unhide HB5) 2, cellOf (unhide HB5) 3⟩
    go_wp2_with fail
    generalize u4.heap.size = X7 at *
    generalize u4.alloc _ = u5 at *
    refine (luDisk_in _ ⟨db2, fl2, has2, jr2⟩ _ _ _ _ _ _ (unhide HD7) (unhide HD5)).mono ?_
    rintro e u6 ⟨rfl, b⟩
    replace HB3 := hide ((b.block _ (heapLt (unhide HB3))).trans (unhide HB3))
    replace HB4 := hide ((b.block _ (heapLt (unhide HB4))).trans (unhide HB4))
    replace HB5 := hide ((b.block _ (heapLt (unhide HB5))).trans (unhide HB5))
    replace HB7 := hide ((b.block _ (heapLt (unhide HB7))).trans (unhide HB7))
    replace HD3 := hide ((unhide HD3).later b)
    replace HD5 := hide ((unhide HD5).later b)
    replace HD7 := hide ((unhide HD7).later b)
    replace HS4 := hide ((unhide HS4).later b)
    replace BW := hide ((unhide BW).trans (b.mono (unhide BW).size))
    clear b
    clear x70 x71 x72 x73
    clear x50 x51 x52 x53
    obtain ⟨x40, x41, x42, x43⟩ : _ ∧ _ ∧ _ ∧ _ := ⟨cellOf (unhide HB4) 0, cellOf (unhide HB4) 1, cellOf (unhide HB4) 2, cellOf (unhide HB4) 3⟩
    have w40 := x40
    clear x40 x41 x42 x43
    have bX := below1 u6 (.cells #[.int .i64 2, .int .i64 ((lenM : Int) % 6), .int .i64 3, .slice none 0 0] 34)
    have HB8 := hide (heap_alloc_new u6 (.cells #[.int .i64 2, .int .i64 ((lenM : Int) % 6), .int .i64 3, .slice none 0 0] 34))
    replace HB3 := hide ((bX.block _ (heapLt (unhide HB3))).trans (unhide HB3))
    replace HB4 := hide ((bX.block _ (heapLt (unhide HB4))).trans (unhide HB4))
    replace HB5 := hide ((bX.block _ (heapLt (unhide HB5))).trans (unhide HB5))
    replace HB7 := hide ((bX.block _ (heapLt (unhide HB7))).trans (unhide HB7))
    replace HD3 := hide ((unhide HD3).later bX)
    replace HD5 := hide ((unhide HD5).later bX)
    replace HD7 := hide ((unhide HD7).later bX)
    replace HS4 := hide ((unhide HS4).later bX)
    replace BW := hide ((unhide BW).trans (bX.mono (unhide BW).size))
    clear bX
    obtain ⟨x40, x41, x42, x43⟩ : _ ∧ _ ∧ _ ∧ _ := ⟨cellOf (unhide HB4) 0, cellOf (unhide HB4) 1, cellOf (unhide HB4) 2, cellOf (unhide HB4) 3⟩
    obtain ⟨x70, x71, x72, x73⟩ : _ ∧ _ ∧ _ ∧ _ := ⟨cellOf (unhide HB7) 0, cellOf (unhide HB7) 1, cellOf (unhide HB7) 2, cellOf (unhide HB7) 3⟩
    obtain ⟨x30, x31, x32, x33⟩ : _ ∧ _ ∧ _ ∧ _ := ⟨cellOf (unhide HB3) 0, cellOf (unhide HB3) 1, cellOf (unhide HB3) 2, cellOf (unhide HB3) 3⟩
    go_wp2_with fail
    generalize u6.heap.size = X8 at *
    generalize u6.alloc _ = u7 at *
    clear w40
    clear x40 x41 x42 x43
    clear x70 x71 x72 x73
    clear x30 x31 x32 x33
    refine ((unhide C2) _ _ _ _ _ (unhide HD7) (SIn.nil' _ _ _ _)).mono ?_
    rintro e u8 ⟨q1, qf, q2, rfl, hd, b⟩
    replace HB3 := hide ((b.block _ (heapLt (unhide HB3))).trans (unhide HB3))
    replace HB4 := hide ((b.block _ (heapLt (unhide HB4))).trans (unhide HB4))
    replace HB5 := hide ((b.block _ (heapLt (unhide HB5))).trans (unhide HB5))
    replace HB7 := hide ((b.block _ (heapLt (unhide HB7))).trans (unhide HB7))
    replace HB8 := hide ((b.block _ (heapLt (unhide HB8))).trans (unhide HB8))
    replace HD3 := hide ((unhide HD3).later b)
    replace HD5 := hide ((unhide HD5).later b)
    replace HD7 := hide ((unhide HD7).later b)
    replace HS4 := hide ((unhide HS4).later b)
    replace BW := hide ((unhide BW).trans (b.mono (unhide BW).size))
    clear b
    obtain ⟨ta, tx, tb, ty, tc, tz, i1, i2, i3⟩ := hd.forms
    (try dsimp only at i1 i2 i3)
    subst i1 i2 i3
    have HD9 := hide hd
    clear hd
    (try dsimp only [dkV])
    have bX := below1 u8 (.cells #[.slice ta dba.length tx, .slice tb fla.length ty, .bool hasa, .slice tc jra.length tz] 26)
    have HB9 := hide (heap_alloc_new u8 (.cells #[.slice ta dba.length tx, .slice tb fla.length ty, .bool hasa, .slice tc jra.length tz] 26))
    replace HB3 := hide ((bX.block _ (heapLt (unhide HB3))).trans (unhide HB3))
    replace HB4 := hide ((bX.block _ (heapLt (unhide HB4))).trans (unhide HB4))
    replace HB5 := hide ((bX.block _ (heapLt (unhide HB5))).trans (unhide HB5))
    replace HB7 := hide ((bX.block _ (heapLt (unhide HB7))).trans (unhide HB7))
    replace HB8 := hide ((bX.block _ (heapLt (unhide HB8))).trans (unhide HB8))
    replace HD3 := hide ((unhide HD3).later bX)
    replace HD5 := hide ((unhide HD5).later bX)
    replace HD7 := hide ((unhide HD7).later bX)
    replace HD9 := hide ((unhide HD9).later bX)
    replace HS4 := hide ((unhide HS4).later bX)
    replace BW := hide ((unhide BW).trans (bX.mono (unhide BW).size))
    clear bX
    obtain ⟨x30, x31, x32, x33⟩ : _ ∧ _ ∧ _ ∧ _ := ⟨cellOf (unhide HB3) 0, cellOf (unhide HB3) 1, cellOf (unhide HB3) 2, cellOf (unhide HB3) 3⟩
    obtain ⟨x80, x81, x82, x83⟩ : _ ∧ _ ∧ _ ∧ _ := ⟨cellOf (unhide HB8) 0, cellOf (unhide HB8) 1, cellOf (unhide HB8) 2, cellOf (unhide HB8) 3⟩
    go_wp2_with fail
    generalize u8.heap.size = X9 at *
    generalize u8.alloc _ = u9 at *
    clear x30 x31 x32 x33
    clear x80 x81 x82 x83
    refine ((unhide C3) _ _ _ _ _ (unhide HD3) (SIn.nil' _ _ _ _)).mono ?_
    rintro e u10 ⟨q1, qf, q2, rfl, hd, b⟩
    replace HB3 := hide ((b.block _ (heapLt (unhide HB3))).trans (unhide HB3))
    replace HB4 := hide ((b.block _ (heapLt (unhide HB4))).trans (unhide HB4))
    replace HB5 := hide ((b.block _ (heapLt (unhide HB5))).trans (unhide HB5))
    replace HB7 := hide ((b.block _ (heapLt (unhide HB7))).trans (unhide HB7))
    replace HB8 := hide ((b.block _ (heapLt (unhide HB8))).trans (unhide HB8))
    replace HB9 := hide ((b.block _ (heapLt (unhide HB9))).trans (unhide HB9))
    replace HD3 := hide ((unhide HD3).later b)
    replace HD5 := hide ((unhide HD5).later b)
    replace HD7 := hide ((unhide HD7).later b)
    replace HD9 := hide ((unhide HD9).later b)
    replace HS4 := hide ((unhide HS4).later b)
    replace BW := hide ((unhide BW).trans (b.mono (unhide BW).size))
    clear b
    obtain ⟨ya, yx, yb, yy, yc, yz, i1, i2, i3⟩ := hd.forms
    (try dsimp only at i1 i2 i3)
    subst i1 i2 i3
    have HD11 := hide hd
    clear hd
    (try dsimp only [dkV])
    have bX := below1 u10 (.cells #[.slice ya dby.length yx, .slice yb fly.length yy, .bool hasy, .slice yc jry.length yz] 26)
    have HB11 := hide (heap_alloc_new u10 (.cells #[.slice ya dby.length yx, .slice yb fly.length yy, .bool hasy, .slice yc jry.length yz] 26))
    replace HB3 := hide ((bX.block _ (heapLt (unhide HB3))).trans (unhide HB3))
    replace HB4 := hide ((bX.block _ (heapLt (unhide HB4))).trans (unhide HB4))
    replace HB5 := hide ((bX.block _ (heapLt (unhide HB5))).trans (unhide HB5))
    replace HB7 := hide ((bX.block _ (heapLt (unhide HB7))).trans (unhide HB7))
    replace HB8 := hide ((bX.block _ (heapLt (unhide HB8))).trans (unhide HB8))
    replace HB9 := hide ((bX.block _ (heapLt (unhide HB9))).trans (unhide HB9))
    replace HD3 := hide ((unhide HD3).later bX)
    replace HD5 := hide ((unhide HD5).later bX)
    replace HD7 := hide ((unhide HD7).later bX)
    replace HD9 := hide ((unhide HD9).later bX)
    replace HD11 := hide ((unhide HD11).later bX)
    replace HS4 := hide ((unhide HS4).later bX)
    replace BW := hide ((unhide BW).trans (bX.mono (unhide BW).size))
    clear bX
    obtain ⟨x110, x111, x112, x113⟩ : _ ∧ _ ∧ _ ∧ _ := ⟨cellOf (unhide HB11) 0, cellOf (unhide HB11) 1, cellOf (unhide HB11) 2, cellOf (unhide HB11) 3⟩
    obtain ⟨x40, x41, x42, x43⟩ : _ ∧ _ ∧ _ ∧ _ := ⟨cellOf (unhide HB4) 0, cellOf (unhide HB4) 1, cellOf (unhide HB4) 2, cellOf (unhide HB4) 3⟩
    go_wp2_with fail
    generalize u10.heap.size = X11 at *
    generalize u10.alloc _ = u11 at *
    clear x110 x111 x112 x113
    clear x40 x41 x42 x43
    refine ((unhide C4) _ _ _ _ _ (unhide HD11) (unhide HS4)).mono ?_
    rintro e u12 ⟨q1, qf, q2, rfl, hd, b⟩
    replace HB3 := hide ((b.block _ (heapLt (unhide HB3))).trans (unhide HB3))
    replace HB4 := hide ((b.block _ (heapLt (unhide HB4))).trans (unhide HB4))
    replace HB5 := hide ((b.block _ (heapLt (unhide HB5))).trans (unhide HB5))
    replace HB7 := hide ((b.block _ (heapLt (unhide HB7))).trans (unhide HB7))
    replace HB8 := hide ((b.block _ (heapLt (unhide HB8))).trans (unhide HB8))
    replace HB9 := hide ((b.block _ (heapLt (unhide HB9))).trans (unhide HB9))
    replace HB11 := hide ((b.block _ (heapLt (unhide HB11))).trans (unhide HB11))
    replace HD3 := hide ((unhide HD3).later b)
    replace HD5 := hide ((unhide HD5).later b)
    replace HD7 := hide ((unhide HD7).later b)
    replace HD9 := hide ((unhide HD9).later b)
    replace HD11 := hide ((unhide HD11).later b)
    replace HS4 := hide ((unhide HS4).later b)
    replace BW := hide ((unhide BW).trans (b.mono (unhide BW).size))
    clear b
    obtain ⟨va, vx, vb, vy, vc, vz, i1, i2, i3⟩ := hd.forms
    (try dsimp only at i1 i2 i3)
    subst i1 i2 i3
    have HD13 := hide hd
    clear hd
    (try dsimp only [dkV])
    have bX := below1 u12 (.cells #[.slice va dba.length vx, .slice vb fla.length vy, .bool hasa, .slice vc jra.length vz] 26)
    have HB13 := hide (heap_alloc_new u12 (.cells #[.slice va dba.length vx, .slice vb fla.length vy, .bool hasa, .slice vc jra.length vz] 26))
    replace HB3 := hide ((bX.block _ (heapLt (unhide HB3))).trans (unhide HB3))
    replace HB4 := hide ((bX.block _ (heapLt (unhide HB4))).trans (unhide HB4))
    replace HB5 := hide ((bX.block _ (heapLt (unhide HB5))).trans (unhide HB5))
    replace HB7 := hide ((bX.block _ (heapLt (unhide HB7))).trans (unhide HB7))
    replace HB8 := hide ((bX.block _ (heapLt (unhide HB8))).trans (unhide HB8))
    replace HB9 := hide ((bX.block _ (heapLt (unhide HB9))).trans (unhide HB9))
    replace HB11 := hide ((bX.block _ (heapLt (unhide HB11))).trans (unhide HB11))
    replace HD3 := hide ((unhide HD3).later bX)
    replace HD5 := hide ((unhide HD5).later bX)
    replace HD7 := hide ((unhide HD7).later bX)
    replace HD9 := hide ((unhide HD9).later bX)
    replace HD11 := hide ((unhide HD11).later bX)
    replace HD13 := hide ((unhide HD13).later bX)
    replace HS4 := hide ((unhide HS4).later bX)
    replace BW := hide ((unhide BW).trans (bX.mono (unhide BW).size))
    clear bX
    obtain ⟨x90, x91, x92, x93⟩ : _ ∧ _ ∧ _ ∧ _ := ⟨cellOf (unhide HB9) 0, cellOf (unhide HB9) 1, cellOf (unhide HB9) 2, cellOf (unhide HB9) 3⟩
    obtain ⟨x130, x131, x132, x133⟩ : _ ∧ _ ∧ _ ∧ _ := ⟨cellOf (unhide HB13) 0, cellOf (unhide HB13) 1, cellOf (unhide HB13) 2, cellOf (unhide HB13) 3⟩
    go_wp2_with fail
    generalize u12.heap.size = X13 at *
    generalize u12.alloc _ = u13 at *
    clear x90 x91 x92 x93
    clear x130 x131 x132 x133
    refine (luDisk_in _ ⟨dba, fla, hasa, jra⟩ _ _ _ _ _ _ (unhide HD9) (unhide HD13)).mono ?_
    rintro e u14 ⟨rfl, b⟩
    replace HB3 := hide ((b.block _ (heapLt (unhide HB3))).trans (unhide HB3))
    replace HB4 := hide ((b.block _ (heapLt (unhide HB4))).trans (unhide HB4))
    replace HB5 := hide ((b.block _ (heapLt (unhide HB5))).trans (unhide HB5))
    replace HB7 := hide ((b.block _ (heapLt (unhide HB7))).trans (unhide HB7))
    replace HB8 := hide ((b.block _ (heapLt (unhide HB8))).trans (unhide HB8))
    replace HB9 := hide ((b.block _ (heapLt (unhide HB9))).trans (unhide HB9))
    replace HB11 := hide ((b.block _ (heapLt (unhide HB11))).trans (unhide HB11))
    replace HB13 := hide ((b.block _ (heapLt (unhide HB13))).trans (unhide HB13))
    replace HD3 := hide ((unhide HD3).later b)
    replace HD5 := hide ((unhide HD5).later b)
    replace HD7 := hide ((unhide HD7).later b)
    replace HD9 := hide ((unhide HD9).later b)
    replace HD11 := hide ((unhide HD11).later b)
    replace HD13 := hide ((unhide HD13).later b)
    replace HS4 := hide ((unhide HS4).later b)
    replace BW := hide ((unhide BW).trans (b.mono (unhide BW).size))
    clear b
    go_wp2
    go_ret
    exact ⟨rfl, unhide BW⟩
  · have hA := doA_yes hok hsok
    generalize Dk.D.step ⟨db, fl, has, jr⟩ ⟨4, sp, sx, sps⟩ = D2 at *
    obtain ⟨db2, fl2, has2, jr2⟩ := D2
    have CI := hide (fun (W : World) (v1 uf v2 pv : Value) (x : DIn W ⟨db, fl, has, jr⟩ v1 uf v2) (y : SIn W ⟨4, sp, sx, sps⟩ pv) => implDo_in W ⟨db, fl, has, jr⟩ ⟨4, sp, sx, sps⟩ v1 uf v2 pv x y)
    rw [hA] at CI
    dsimp only at CI
    have CS := hide (fun (W : World) (v1 uf v2 pv : Value) (x : DIn W ⟨db, fl, has, jr⟩ v1 uf v2) (y : SIn W ⟨4, sp, sx, sps⟩ pv) => specDo_in W ⟨db, fl, has, jr⟩ ⟨4, sp, sx, sps⟩ v1 uf v2 pv x y)
    rw [hA] at CS
    dsimp only at CS
    clear hA hok hsok hpp hxx hps
    go_wp2_with fail
    generalize hX : u0.heap.size = X3 at *
    clear hX
    generalize World.alloc _ _ = u1 at *
    obtain ⟨x30, x31, x32, x33⟩ : _ ∧ _ ∧ _ ∧ _ := ⟨cellOf (unhide HB3) 0, cellOf (unhide HB3) 1, cellOf (unhide HB3) 2, cellOf (unhide HB3) 3⟩
    obtain ⟨x40, x41, x42, x43⟩ : _ ∧ _ ∧ _ ∧ _ := ⟨cellOf (unhide HB4) 0, cellOf (unhide HB4) 1, cellOf (unhide HB4) 2, cellOf (unhide HB4) 3⟩
    refine ((unhide CS) _ _ _ _ _ (unhide HD3) (unhide HS4)).mono ?_
    rintro e u2 ⟨q1, qf, q2, rfl, hd, b⟩
    replace HB3 := hide ((b.block _ (heapLt (unhide HB3))).trans (unhide HB3))
    replace HB4 := hide ((b.block _ (heapLt (unhide HB4))).trans (unhide HB4))
    replace HD3 := hide ((unhide HD3).later b)
    replace HS4 := hide ((unhide HS4).later b)
    replace BW := hide ((unhide BW).trans (b.mono (unhide BW).size))
    clear b
    clear x30 x31 x32 x33
    clear x40 x41 x42 x43
    obtain ⟨qa, qx, qb, qy, qc, qz, i1, i2, i3⟩ := hd.forms
    (try dsimp only at i1 i2 i3)
    subst i1 i2 i3
    have HD5 := hide hd
    clear hd
    dsimp only [dkV]
    have bX := below1 u2 (.cells #[.slice qa db2.length qx, .slice qb fl2.length qy, .bool has2, .slice qc jr2.length qz] 26)
    have HB5 := hide (heap_alloc_new u2 (.cells #[.slice qa db2.length qx, .slice qb fl2.length qy, .bool has2, .slice qc jr2.length qz] 26))
    replace HB3 := hide ((bX.block _ (heapLt (unhide HB3))).trans (unhide HB3))
    replace HB4 := hide ((bX.block _ (heapLt (unhide HB4))).trans (unhide HB4))
    replace HD3 := hide ((unhide HD3).later bX)
    replace HD5 := hide ((unhide HD5).later bX)
    replace HS4 := hide ((unhide HS4).later bX)
    replace BW := hide ((unhide BW).trans (bX.mono (unhide BW).size))
    clear bX
    obtain ⟨x30, x31, x32, x33⟩ : _ ∧ _ ∧ _ ∧ _ := ⟨cellOf (unhide HB3) 0, cellOf (unhide HB3) 1, cellOf (unhide HB3) 2, cellOf (unhide HB3) 3⟩
    obtain ⟨x40, x41, x42, x43⟩ : _ ∧ _ ∧ _ ∧ _ := ⟨cellOf (unhide HB4) 0, cellOf (unhide HB4) 1, cellOf (unhide HB4) 2, cellOf (unhide HB4) 3⟩
    go_wp2_with fail
    generalize u2.heap.size = X5 at *
    generalize u2.alloc _ = u3 at *
    refine ((unhide CI) _ _ _ _ _ (unhide HD3) (unhide HS4)).mono ?_
    rintro e u4 ⟨q1, qf, q2, rfl, hd, b⟩
    replace HB3 := hide ((b.block _ (heapLt (unhide HB3))).trans (unhide HB3))
    replace HB4 := hide ((b.block _ (heapLt (unhide HB4))).trans (unhide HB4))
    replace HB5 := hide ((b.block _ (heapLt (unhide HB5))).trans (unhide HB5))
    replace HD3 := hide ((unhide HD3).later b)
    replace HD5 := hide ((unhide HD5).later b)
    replace HS4 := hide ((unhide HS4).later b)
    replace BW := hide ((unhide BW).trans (b.mono (unhide BW).size))
    clear b
    clear x30 x31 x32 x33
    clear x40 x41 x42 x43
    obtain ⟨ra, rx, rb, ry, rc, rz, i1, i2, i3⟩ := hd.forms
    (try dsimp only at i1 i2 i3)
    subst i1 i2 i3
    have HD7 := hide hd
    clear hd
    dsimp only [dkV]
    have bX := below1 u4 (.cells #[.slice ra db2.length rx, .slice rb fl2.length ry, .bool has2, .slice rc jr2.length rz] 26)
    have HB7 := hide (heap_alloc_new u4 (.cells #[.slice ra db2.length rx, .slice rb fl2.length ry, .bool has2, .slice rc jr2.length rz] 26))
    replace HB3 := hide ((bX.block _ (heapLt (unhide HB3))).trans (unhide HB3))
    replace HB4 := hide ((bX.block _ (heapLt (unhide HB4))).trans (unhide HB4))
    replace HB5 := hide ((bX.block _ (heapLt (unhide HB5))).trans (unhide HB5))
    replace HD3 := hide ((unhide HD3).later bX)
    replace HD5 := hide ((unhide HD5).later bX)
    replace HD7 := hide ((unhide HD7).later bX)
    replace HS4 := hide ((unhide HS4).later bX)
    replace BW := hide ((unhide BW).trans (bX.mono (unhide BW).size))
    clear bX
    obtain ⟨x70, x71, x72, x73⟩ : _ ∧ _ ∧ _ ∧ _ := ⟨cellOf (unhide HB7) 0, cellOf (unhide HB7) 1, cellOf (unhide HB7) 2, cellOf (unhide HB7) 3⟩
    obtain ⟨x50, x51, x52, x53⟩ : _ ∧ _ ∧ _ ∧ _ := ⟨cellOf (unhide HB5) 0, cellOf (unhide HB5) 1, cellOf (unhide HB5) 2, cellOf (unhide HB5) 3⟩
    go_wp2_with fail
    generalize u4.heap.size = X7 at *
    generalize u4.alloc _ = u5 at *
    refine (luDisk_in _ ⟨db2, fl2, has2, jr2⟩ _ _ _ _ _ _ (unhide HD7) (unhide HD5)).mono ?_
    rintro e u6 ⟨rfl, b⟩
    replace HB3 := hide ((b.block _ (heapLt (unhide HB3))).trans (unhide HB3))
    replace HB4 := hide ((b.block _ (heapLt (unhide HB4))).trans (unhide HB4))
    replace HB5 := hide ((b.block _ (heapLt (unhide HB5))).trans (unhide HB5))
    replace HB7 := hide ((b.block _ (heapLt (unhide HB7))).trans (unhide HB7))
    replace HD3 := hide ((unhide HD3).later b)
    replace HD5 := hide ((unhide HD5).later b)
    replace HD7 := hide ((unhide HD7).later b)
    replace HS4 := hide ((unhide HS4).later b)
    replace BW := hide ((unhide BW).trans (b.mono (unhide BW).size))
    clear b
    clear x70 x71 x72 x73
    clear x50 x51 x52 x53
    obtain ⟨x40, x41, x42, x43⟩ : _ ∧ _ ∧ _ ∧ _ := ⟨cellOf (unhide HB4) 0, cellOf (unhide HB4) 1, cellOf (unhide HB4) 2, cellOf (unhide HB4) 3⟩
    obtain ⟨x70, x71, x72, x73⟩ : _ ∧ _ ∧ _ ∧ _ := ⟨cellOf (unhide HB7) 0, cellOf (unhide HB7) 1, cellOf (unhide HB7) 2, cellOf (unhide HB7) 3⟩
    obtain ⟨x50, x51, x52, x53⟩ : _ ∧ _ ∧ _ ∧ _ := ⟨cellOf (unhide HB5) 0, cellOf (unhide HB5) 1, cellOf (unhide HB5) 2, cellOf (unhide HB5) 3⟩
    go_wp2_with fail
    refine (luDisk_in _ ⟨db2, fl2, has2, jr2⟩ _ _ _ _ _ _ (unhide HD7) (unhide HD5)).mono ?_
    rintro e u7 ⟨rfl, b⟩
    replace HB3 := hide ((b.block _ (heapLt (unhide HB3))).trans (unhide HB3))
    replace HB4 := hide ((b.block _ (heapLt (unhide HB4))).trans (unhide HB4))
    replace HB5 := hide ((b.block _ (heapLt (unhide HB5))).trans (unhide HB5))
    replace HB7 := hide ((b.block _ (heapLt (unhide HB7))).trans (unhide HB7))
    replace HD3 := hide ((unhide HD3).later b)
    replace HD5 := hide ((unhide HD5).later b)
    replace HD7 := hide ((unhide HD7).later b)
    replace HS4 := hide ((unhide HS4).later b)
    replace BW := hide ((unhide BW).trans (b.mono (unhide BW).size))
    clear b
    go_wp2
    go_ret
    exact ⟨rfl, unhide BW⟩
end Go.Proofs.YtpjpgofllnnemaaDoor
