import Derived.Test.YtkhanndmbpemfaaGreatDoorMix32
import Derived.Deep.CutRange
/- The walk of FnToSteps: it returns true and leaves what was there; for every row of bytes. -/
namespace Go.Proofs.YtkhanndmbpemfaaGreatDoor
open Go.RowKit

attribute [local go_sem ↓] Go.wp_at_zero Go.wp_at_succ

set_option linter.unusedSimpArgs false in
set_option maxHeartbeats 16000000 in
set_option maxRecDepth 100000 in
theorem toSteps_walk (w : World) (a : Option Addr) (len cap : Nat) (h : Bytes w a len cap) :
    Calls Tryz.prog 4 #[.slice a len cap] w fun e w' => e = .returned (.bool true) ∧ Below w.heap.size w w' := by
  by_cases hbig : (1048576 : Int) < (len : Int)
  · go_enter Tryz.func4, Tryz.ntmps4
    go_wp2
    go_ret
    exact ⟨rfl, Below.refl _ _⟩
  have CD := hide (drawInstTo_any w a len cap h)
  clear h
  go_enter Tryz.func4, Tryz.ntmps4
  go_wp2_with fail
  refine (unhide CD).mono ?_
  rintro e u0 ⟨D, v1, uf, v2, v, l, cut, torn, rfl, hd, hs, hl, hc0, hc1, b1⟩
  obtain ⟨db, fl, has, jr⟩ := D
  obtain ⟨pa, px, pb, py, pc, pz, i1, i2, i3⟩ := hd.forms
  obtain ⟨sa, sc, i4, hsc⟩ := hs.slice
  dsimp only at i1 i2 i3
  subst i1 i2 i3 i4
  obtain ⟨k0, k1⟩ : _ ∧ _ := ⟨below1 u0 (.cells #[.slice pa db.length px, .slice pb fl.length py, .bool has, .slice pc jr.length pz] 31), heap_alloc_new u0 (.cells #[.slice pa db.length px, .slice pb fl.length py, .bool has, .slice pc jr.length pz] 31)⟩
  have HB3 := hide k1
  have HD3 := hide (hd.later k0)
  have HS4 := hide (hs.later k0)
  have BW := hide (b1.trans (k0.mono b1.size))
  have HLL := hide (show l.length ≤ 1000 by omega)
  have HC0 := hide (show (-9000000000000000000 : Int) ≤ cut by omega)
  have HC1 := hide (show cut ≤ (9000000000000000000 : Int) by omega)
  clear hd hs b1 k0 k1 CD hsc hl hc0 hc1
  dsimp only [dkV]
  by_cases hyes : Dk.D.ok ⟨db, fl, has, jr⟩ = true ∧ allOk l = true ∧ 0 ≤ cut
  rotate_left
  · have hA := Dk.toA_no (torn := torn) hyes
    clear hyes
    generalize (⟨[], [], false, []⟩ : Dk.D) = D2 at *
    obtain ⟨db2, fl2, has2, jr2⟩ := D2
    have CI := hide (fun (W : World) (v1 uf v2 v : Value) (x : DIn W ⟨db, fl, has, jr⟩ v1 uf v2) (y : StsR (fun _ => True) W v l) => implTo_in W ⟨db, fl, has, jr⟩ v1 uf v2 v l cut torn x y (unhide HLL) (unhide HC0) (unhide HC1))
    rw [hA] at CI
    dsimp only at CI
    have CS := hide (fun (W : World) (v1 uf v2 v : Value) (x : DIn W ⟨db, fl, has, jr⟩ v1 uf v2) (y : StsR (fun _ => True) W v l) => specInstTo_any W ⟨db, fl, has, jr⟩ v1 uf v2 v l cut torn x y (unhide HLL) (unhide HC0) (unhide HC1))
    rw [hA] at CS
    dsimp only at CS
    go_wp2_with fail
    generalize hX : u0.heap.size = X3 at *
    clear hX
    generalize World.alloc _ _ = u1 at *
    obtain ⟨x30, x31, x32, x33⟩ : _ ∧ _ ∧ _ ∧ _ := ⟨cellOf (unhide HB3) 0, cellOf (unhide HB3) 1, cellOf (unhide HB3) 2, cellOf (unhide HB3) 3⟩
    refine ((unhide CS) _ _ _ _ _ (unhide HD3) (unhide HS4)).mono ?_
    rintro e u2 ⟨q1, qf, q2, rfl, hd, b⟩
    replace HB3 := hide ((b.block _ (heapLt (unhide HB3))).trans (unhide HB3))
    replace HD3 := hide ((unhide HD3).later b)
    replace HS4 := hide ((unhide HS4).later b)
    replace BW := hide ((unhide BW).trans (b.mono (unhide BW).size))
    clear b
    clear x30 x31 x32 x33
    obtain ⟨qa, qx, qb, qy, qc, qz, i1, i2, i3⟩ := hd.forms
    (try dsimp only at i1 i2 i3)
    subst i1 i2 i3
    have HD7 := hide hd
    clear hd
    dsimp only [dkV]
    have bX := below1 u2 (.cells #[.slice qa db2.length qx, .slice qb fl2.length qy, .bool has2, .slice qc jr2.length qz] 31)
    have HB7 := hide (heap_alloc_new u2 (.cells #[.slice qa db2.length qx, .slice qb fl2.length qy, .bool has2, .slice qc jr2.length qz] 31))
    replace HB3 := hide ((bX.block _ (heapLt (unhide HB3))).trans (unhide HB3))
    replace HD3 := hide ((unhide HD3).later bX)
    replace HD7 := hide ((unhide HD7).later bX)
    replace HS4 := hide ((unhide HS4).later bX)
    replace BW := hide ((unhide BW).trans (bX.mono (unhide BW).size))
    clear bX
    obtain ⟨x30, x31, x32, x33⟩ : _ ∧ _ ∧ _ ∧ _ := ⟨cellOf (unhide HB3) 0, cellOf (unhide HB3) 1, cellOf (unhide HB3) 2, cellOf (unhide HB3) 3⟩
    go_wp2_with fail
    generalize u2.heap.size = X7 at *
    generalize u2.alloc _ = u3 at *
    refine ((unhide CI) _ _ _ _ _ (unhide HD3) (unhide HS4)).mono ?_
    rintro e u4 ⟨q1, qf, q2, rfl, hd, b⟩
    replace HB3 := hide ((b.block _ (heapLt (unhide HB3))).trans (unhide HB3))
    replace HB7 := hide ((b.block _ (heapLt (unhide HB7))).trans (unhide HB7))
    replace HD3 := hide ((unhide HD3).later b)
    replace HD7 := hide ((unhide HD7).later b)
    replace HS4 := hide ((unhide HS4).later b)
    replace BW := hide ((unhide BW).trans (b.mono (unhide BW).size))
    clear b
    clear x30 x31 x32 x33
    obtain ⟨ra, rx, rb, ry, rc, rz, i1, i2, i3⟩ := hd.forms
    (try dsimp only at i1 i2 i3)
    subst i1 i2 i3
    have HD9 := hide hd
    clear hd
    dsimp only [dkV]
    have bX := below1 u4 (.cells #[.slice ra db2.length rx, .slice rb fl2.length ry, .bool has2, .slice rc jr2.length rz] 31)
    have HB9 := hide (heap_alloc_new u4 (.cells #[.slice ra db2.length rx, .slice rb fl2.length ry, .bool has2, .slice rc jr2.length rz] 31))
    replace HB3 := hide ((bX.block _ (heapLt (unhide HB3))).trans (unhide HB3))
    replace HB7 := hide ((bX.block _ (heapLt (unhide HB7))).trans (unhide HB7))
    replace HD3 := hide ((unhide HD3).later bX)
    replace HD7 := hide ((unhide HD7).later bX)
    replace HD9 := hide ((unhide HD9).later bX)
    replace HS4 := hide ((unhide HS4).later bX)
    replace BW := hide ((unhide BW).trans (bX.mono (unhide BW).size))
    clear bX
    obtain ⟨x90, x91, x92, x93⟩ : _ ∧ _ ∧ _ ∧ _ := ⟨cellOf (unhide HB9) 0, cellOf (unhide HB9) 1, cellOf (unhide HB9) 2, cellOf (unhide HB9) 3⟩
    obtain ⟨x70, x71, x72, x73⟩ : _ ∧ _ ∧ _ ∧ _ := ⟨cellOf (unhide HB7) 0, cellOf (unhide HB7) 1, cellOf (unhide HB7) 2, cellOf (unhide HB7) 3⟩
    go_wp2_with fail
    generalize u4.heap.size = X9 at *
    generalize u4.alloc _ = u5 at *
    refine (luDisk_in _ ⟨db2, fl2, has2, jr2⟩ _ _ _ _ _ _ (unhide HD9) (unhide HD7)).mono ?_
    rintro e u6 ⟨rfl, b⟩
    replace HB3 := hide ((b.block _ (heapLt (unhide HB3))).trans (unhide HB3))
    replace HB7 := hide ((b.block _ (heapLt (unhide HB7))).trans (unhide HB7))
    replace HB9 := hide ((b.block _ (heapLt (unhide HB9))).trans (unhide HB9))
    replace HD3 := hide ((unhide HD3).later b)
    replace HD7 := hide ((unhide HD7).later b)
    replace HD9 := hide ((unhide HD9).later b)
    replace HS4 := hide ((unhide HS4).later b)
    replace BW := hide ((unhide BW).trans (b.mono (unhide BW).size))
    clear b
    clear x90 x91 x92 x93
    clear x70 x71 x72 x73
    obtain ⟨x90, x91, x92, x93⟩ : _ ∧ _ ∧ _ ∧ _ := ⟨cellOf (unhide HB9) 0, cellOf (unhide HB9) 1, cellOf (unhide HB9) 2, cellOf (unhide HB9) 3⟩
    obtain ⟨x70, x71, x72, x73⟩ : _ ∧ _ ∧ _ ∧ _ := ⟨cellOf (unhide HB7) 0, cellOf (unhide HB7) 1, cellOf (unhide HB7) 2, cellOf (unhide HB7) 3⟩
    go_wp2_with fail
    refine (luDisk_in _ ⟨db2, fl2, has2, jr2⟩ _ _ _ _ _ _ (unhide HD9) (unhide HD7)).mono ?_
    rintro e u7 ⟨rfl, b⟩
    replace HB3 := hide ((b.block _ (heapLt (unhide HB3))).trans (unhide HB3))
    replace HB7 := hide ((b.block _ (heapLt (unhide HB7))).trans (unhide HB7))
    replace HB9 := hide ((b.block _ (heapLt (unhide HB9))).trans (unhide HB9))
    replace HD3 := hide ((unhide HD3).later b)
    replace HD7 := hide ((unhide HD7).later b)
    replace HD9 := hide ((unhide HD9).later b)
    replace HS4 := hide ((unhide HS4).later b)
    replace BW := hide ((unhide BW).trans (b.mono (unhide BW).size))
    clear b
    go_wp2
    go_ret
    exact ⟨rfl, unhide BW⟩
  obtain ⟨h1, h2, h3⟩ := hyes
  have hA := Dk.toA_yes torn h1 h2 h3
  have HT := hide (show Dk.till ⟨db, fl, has, jr⟩ l cut torn = Dk.till ⟨db, fl, has, jr⟩ l cut torn from rfl)
  obtain ⟨D2, hD2⟩ : ∃ D2, D2 = Dk.till ⟨db, fl, has, jr⟩ l cut torn := ⟨_, rfl⟩
  rw [← hD2] at hA
  have hO2 : D2.ok = true := by rw [hD2]; exact Dk.till_ok cut torn h1 h2
  obtain ⟨db2, fl2, has2, jr2⟩ := D2
  have HD2E := hide hD2
  have HO2 := hide hO2
  have H12 := hide (And.intro h1 (And.intro h2 h3))
  clear HT hD2 hO2
  have CI := hide (fun (W : World) (v1 uf v2 v : Value) (x : DIn W ⟨db, fl, has, jr⟩ v1 uf v2) (y : StsR (fun _ => True) W v l) => implTo_in W ⟨db, fl, has, jr⟩ v1 uf v2 v l cut torn x y (unhide HLL) (unhide HC0) (unhide HC1))
  rw [hA] at CI
  dsimp only at CI
  have CS := hide (fun (W : World) (v1 uf v2 v : Value) (x : DIn W ⟨db, fl, has, jr⟩ v1 uf v2) (y : StsR (fun _ => True) W v l) => specInstTo_any W ⟨db, fl, has, jr⟩ v1 uf v2 v l cut torn x y (unhide HLL) (unhide HC0) (unhide HC1))
  rw [hA] at CS
  dsimp only at CS
  clear hA HC0 HC1
  go_wp2_with fail
  generalize hX : u0.heap.size = X3 at *
  clear hX
  generalize World.alloc _ _ = u1 at *
  obtain ⟨x30, x31, x32, x33⟩ : _ ∧ _ ∧ _ ∧ _ := ⟨cellOf (unhide HB3) 0, cellOf (unhide HB3) 1, cellOf (unhide HB3) 2, cellOf (unhide HB3) 3⟩
  refine ((unhide CS) _ _ _ _ _ (unhide HD3) (unhide HS4)).mono ?_
  rintro e u2 ⟨q1, qf, q2, rfl, hd, b⟩
  replace HB3 := hide ((b.block _ (heapLt (unhide HB3))).trans (unhide HB3))
  replace HD3 := hide ((unhide HD3).later b)
  replace HS4 := hide ((unhide HS4).later b)
  replace BW := hide ((unhide BW).trans (b.mono (unhide BW).size))
  clear b
  clear x30 x31 x32 x33
  obtain ⟨qa, qx, qb, qy, qc, qz, i1, i2, i3⟩ := hd.forms
  (try dsimp only at i1 i2 i3)
  subst i1 i2 i3
  have HD7 := hide hd
  clear hd
  dsimp only [dkV]
  have bX := below1 u2 (.cells #[.slice qa db2.length qx, .slice qb fl2.length qy, .bool has2, .slice qc jr2.length qz] 31)
  have HB7 := hide (heap_alloc_new u2 (.cells #[.slice qa db2.length qx, .slice qb fl2.length qy, .bool has2, .slice qc jr2.length qz] 31))
  replace HB3 := hide ((bX.block _ (heapLt (unhide HB3))).trans (unhide HB3))
  replace HD3 := hide ((unhide HD3).later bX)
  replace HD7 := hide ((unhide HD7).later bX)
  replace HS4 := hide ((unhide HS4).later bX)
  replace BW := hide ((unhide BW).trans (bX.mono (unhide BW).size))
  clear bX
  obtain ⟨x30, x31, x32, x33⟩ : _ ∧ _ ∧ _ ∧ _ := ⟨cellOf (unhide HB3) 0, cellOf (unhide HB3) 1, cellOf (unhide HB3) 2, cellOf (unhide HB3) 3⟩
  go_wp2_with fail
  generalize u2.heap.size = X7 at *
  generalize u2.alloc _ = u3 at *
  refine ((unhide CI) _ _ _ _ _ (unhide HD3) (unhide HS4)).mono ?_
  rintro e u4 ⟨q1, qf, q2, rfl, hd, b⟩
  replace HB3 := hide ((b.block _ (heapLt (unhide HB3))).trans (unhide HB3))
  replace HB7 := hide ((b.block _ (heapLt (unhide HB7))).trans (unhide HB7))
  replace HD3 := hide ((unhide HD3).later b)
  replace HD7 := hide ((unhide HD7).later b)
  replace HS4 := hide ((unhide HS4).later b)
  replace BW := hide ((unhide BW).trans (b.mono (unhide BW).size))
  clear b
  clear x30 x31 x32 x33
  obtain ⟨ra, rx, rb, ry, rc, rz, i1, i2, i3⟩ := hd.forms
  (try dsimp only at i1 i2 i3)
  subst i1 i2 i3
  have HD9 := hide hd
  clear hd
  dsimp only [dkV]
  have bX := below1 u4 (.cells #[.slice ra db2.length rx, .slice rb fl2.length ry, .bool has2, .slice rc jr2.length rz] 31)
  have HB9 := hide (heap_alloc_new u4 (.cells #[.slice ra db2.length rx, .slice rb fl2.length ry, .bool has2, .slice rc jr2.length rz] 31))
  replace HB3 := hide ((bX.block _ (heapLt (unhide HB3))).trans (unhide HB3))
  replace HB7 := hide ((bX.block _ (heapLt (unhide HB7))).trans (unhide HB7))
  replace HD3 := hide ((unhide HD3).later bX)
  replace HD7 := hide ((unhide HD7).later bX)
  replace HD9 := hide ((unhide HD9).later bX)
  replace HS4 := hide ((unhide HS4).later bX)
  replace BW := hide ((unhide BW).trans (bX.mono (unhide BW).size))
  clear bX
  obtain ⟨x90, x91, x92, x93⟩ : _ ∧ _ ∧ _ ∧ _ := ⟨cellOf (unhide HB9) 0, cellOf (unhide HB9) 1, cellOf (unhide HB9) 2, cellOf (unhide HB9) 3⟩
  obtain ⟨x70, x71, x72, x73⟩ : _ ∧ _ ∧ _ ∧ _ := ⟨cellOf (unhide HB7) 0, cellOf (unhide HB7) 1, cellOf (unhide HB7) 2, cellOf (unhide HB7) 3⟩
  go_wp2_with fail
  generalize u4.heap.size = X9 at *
  generalize u4.alloc _ = u5 at *
  refine (luDisk_in _ ⟨db2, fl2, has2, jr2⟩ _ _ _ _ _ _ (unhide HD9) (unhide HD7)).mono ?_
  rintro e u6 ⟨rfl, b⟩
  replace HB3 := hide ((b.block _ (heapLt (unhide HB3))).trans (unhide HB3))
  replace HB7 := hide ((b.block _ (heapLt (unhide HB7))).trans (unhide HB7))
  replace HB9 := hide ((b.block _ (heapLt (unhide HB9))).trans (unhide HB9))
  replace HD3 := hide ((unhide HD3).later b)
  replace HD7 := hide ((unhide HD7).later b)
  replace HD9 := hide ((unhide HD9).later b)
  replace HS4 := hide ((unhide HS4).later b)
  replace BW := hide ((unhide BW).trans (b.mono (unhide BW).size))
  clear b
  clear x90 x91 x92 x93
  clear x70 x71 x72 x73
  obtain ⟨x30, x31, x32, x33⟩ : _ ∧ _ ∧ _ ∧ _ := ⟨cellOf (unhide HB3) 0, cellOf (unhide HB3) 1, cellOf (unhide HB3) 2, cellOf (unhide HB3) 3⟩
  have BU := below1 u6 (.cells #[.slice pa db.length px, .slice pb fl.length py, .bool has, .slice pc jr.length pz] 31)
  have HX0 := hide (heap_alloc_new u6 (.cells #[.slice pa db.length px, .slice pb fl.length py, .bool has, .slice pc jr.length pz] 31))
  have HN0 := hide ((((unhide HD3).dn).later BU).weak (M := fun b => b ≠ u6.heap.size) (fun b hb => Nat.ne_of_lt hb))
  have LX : Hid (u6.heap.size ≤ u6.heap.size) := Nat.le_refl _
  have HU0 := hide BU
  go_wp2_with fail
  clear x30 x31 x32 x33
  go_loopw [12] (fun i w' => ∃ (k : Nat) (Y : Dk.D) (y1 yf y2 : Value), k ≤ l.length ∧ (k : Int) ≤ cut + 1 ∧ i = .int .i64 k ∧ Y = Dk.st ⟨db, fl, has, jr⟩ l cut torn k ∧ w'.heap[u6.heap.size]? = some (.cells #[y1, yf, .bool Y.has, y2] 31 (0, 0)) ∧ DN (fun b => b ≠ u6.heap.size) w' Y y1 yf y2 ∧ Below u6.heap.size u6 w') (fun i _ => l.length - (intOf i).toNat)
  case atStart => exact ⟨0, ⟨db, fl, has, jr⟩, _, _, _, Nat.zero_le _, by have := (unhide H12).2.2; omega, rfl, (Dk.st_zero (unhide H12).2.2).symm, unhide HX0, unhide HN0, unhide HU0⟩
  case round =>
    clear HX0 HN0 HU0 BU HB3 HD3
    obtain ⟨k, Y, y1, yf, y2, hk, hkc, rfl, hY, hX, hN, hw⟩ := hrel
    obtain ⟨ya, yx, yb, yy, yc, yz, i1, i2, i3⟩ := hN.din.forms
    subst i1 i2 i3
    have HYE := hide hY
    have HX := hide hX
    have YN := hide hN
    have HWR := hide hw
    have hYok : Y.ok = true := by rw [hY]; exact Dk.st_ok k (unhide H12).1 (unhide H12).2.1
    have HYO := hide hYok
    generalize hXX : u6.heap.size = X at *
    have HLT : Hid (X < wr.heap.size) := heapLt (unhide HX)
    have hle : X ≤ u6.heap.size := Nat.le_of_eq hXX.symm
    have hge : u6.heap.size ≤ X := Nat.le_of_eq hXX
    rw [← hXX] at HWR
    have LX : Hid (u6.heap.size ≤ X) := hge
    have HXX := hide hXX
    clear hXX hle hge hY hX hN hw hYok
    by_cases hlt : k < l.length
    rotate_left
    · have hE := Dk.st_end (d := ⟨db, fl, has, jr⟩) (cut := cut) (torn := torn) hk (fun h => hlt h.1)
      rw [← unhide HYE, ← unhide HD2E] at hE
      subst hE
      have hi1 : ¬ (k : Int) < (l.length : Int) := by omega
      dsimp only at HX YN
      replace HB9 := hide (((unhide HWR).block _ (heapLt (unhide HB9))).trans (unhide HB9))
      replace HD9 := hide ((unhide HD9).later (unhide HWR))
      have HDY := hide (unhide YN).din
      replace BW := hide ((unhide BW).trans ((unhide HWR).mono (unhide BW).size))
      clear HYE YN HWR HYO
      obtain ⟨x90, x91, x92, x93⟩ : _ ∧ _ ∧ _ ∧ _ := ⟨cellOf (unhide HB9) 0, cellOf (unhide HB9) 1, cellOf (unhide HB9) 2, cellOf (unhide HB9) 3⟩
      obtain ⟨y0, y1, y2, y3⟩ : _ ∧ _ ∧ _ ∧ _ := ⟨cellOf (unhide HX) 0, cellOf (unhide HX) 1, cellOf (unhide HX) 2, cellOf (unhide HX) 3⟩
      go_wp2_with fail
      refine (luDisk_in _ ⟨db2, fl2, has2, jr2⟩ _ _ _ _ _ _ (unhide HD9) (unhide HDY)).mono ?_
      rintro e q1 ⟨rfl, b⟩
      replace HB9 := hide ((b.block _ (heapLt (unhide HB9))).trans (unhide HB9))
      replace HD9 := hide ((unhide HD9).later b)
      replace BW := hide ((unhide BW).trans (b.mono (unhide BW).size))
      clear b x90 x91 x92 x93 y0 y1 y2 y3
      obtain ⟨x90, x91, x92, x93⟩ : _ ∧ _ ∧ _ ∧ _ := ⟨cellOf (unhide HB9) 0, cellOf (unhide HB9) 1, cellOf (unhide HB9) 2, cellOf (unhide HB9) 3⟩
      go_wp2_with fail
      refine (implDiskOk_any _ ⟨db2, fl2, has2, jr2⟩ _ _ _ (unhide HD9).p1 (unhide HD9).r1 (unhide HD9).pf (unhide HD9).p2 (unhide HD9).r2).mono ?_
      rintro e q2 ⟨rfl, b⟩
      replace BW := hide ((unhide BW).trans (b.mono (unhide BW).size))
      clear b
      rw [unhide HO2]
      go_wp2
      go_ret
      exact ⟨rfl, unhide BW⟩
    by_cases hcl : (k : Int) ≤ cut
    rotate_left
    · have hE := Dk.st_end (d := ⟨db, fl, has, jr⟩) (cut := cut) (torn := torn) hk (fun h => hcl h.2)
      rw [← unhide HYE, ← unhide HD2E] at hE
      subst hE
      have hi1 : (k : Int) < (l.length : Int) := by omega
      dsimp only at HX YN
      replace HB9 := hide (((unhide HWR).block _ (heapLt (unhide HB9))).trans (unhide HB9))
      replace HD9 := hide ((unhide HD9).later (unhide HWR))
      have HDY := hide (unhide YN).din
      replace BW := hide ((unhide BW).trans ((unhide HWR).mono (unhide BW).size))
      clear HYE YN HWR HYO
      obtain ⟨x90, x91, x92, x93⟩ : _ ∧ _ ∧ _ ∧ _ := ⟨cellOf (unhide HB9) 0, cellOf (unhide HB9) 1, cellOf (unhide HB9) 2, cellOf (unhide HB9) 3⟩
      obtain ⟨y0, y1, y2, y3⟩ : _ ∧ _ ∧ _ ∧ _ := ⟨cellOf (unhide HX) 0, cellOf (unhide HX) 1, cellOf (unhide HX) 2, cellOf (unhide HX) 3⟩
      go_wp2_with fail
      refine (luDisk_in _ ⟨db2, fl2, has2, jr2⟩ _ _ _ _ _ _ (unhide HD9) (unhide HDY)).mono ?_
      rintro e q1 ⟨rfl, b⟩
      replace HB9 := hide ((b.block _ (heapLt (unhide HB9))).trans (unhide HB9))
      replace HD9 := hide ((unhide HD9).later b)
      replace BW := hide ((unhide BW).trans (b.mono (unhide BW).size))
      clear b x90 x91 x92 x93 y0 y1 y2 y3
      obtain ⟨x90, x91, x92, x93⟩ : _ ∧ _ ∧ _ ∧ _ := ⟨cellOf (unhide HB9) 0, cellOf (unhide HB9) 1, cellOf (unhide HB9) 2, cellOf (unhide HB9) 3⟩
      go_wp2_with fail
      refine (implDiskOk_any _ ⟨db2, fl2, has2, jr2⟩ _ _ _ (unhide HD9).p1 (unhide HD9).r1 (unhide HD9).pf (unhide HD9).p2 (unhide HD9).r2).mono ?_
      rintro e q2 ⟨rfl, b⟩
      replace BW := hide ((unhide BW).trans (b.mono (unhide BW).size))
      clear b
      rw [unhide HO2]
      go_wp2
      go_ret
      exact ⟨rfl, unhide BW⟩
    obtain ⟨s, hsk⟩ : ∃ s, l[k]? = some s := ⟨_, List.getElem?_eq_getElem hlt⟩
    have hsok := allOk_mem (unhide H12).2.1 s (List.mem_of_getElem? hsk)
    obtain ⟨bS, oS, ga, gc, hva, hsat, hpk, hroom, hbS, hNS⟩ := (unhide HS4).at hsk
    subst hva
    have HSK := hide hsk
    obtain ⟨sk, sp, sx, sps⟩ := s
    dsimp only at hpk hroom
    have HSAT := hide (hsat.keep ((unhide HWR).block bS hbS))
    have SN : Hid (SIn wr ⟨sk, sp, sx, sps⟩ (.slice ga sps.length gc)) := ⟨hpk.later (unhide HWR), fun _ _ e => by injection e with _ e2 e3; subst e3; exact hroom⟩
    obtain ⟨c0, c1, c2, c3⟩ := hsat.keep ((unhide HWR).block bS hbS)
    dsimp only at c0 c1 c2 c3
    obtain ⟨⟨x0, z0⟩, ⟨x1, z1⟩, ⟨x2, z2⟩, x3, z3⟩ : (_ ∧ _) ∧ (_ ∧ _) ∧ (_ ∧ _) ∧ _ ∧ _ := ⟨⟨cellOf (unhide HX) 0, frozenOf (unhide HX) 0⟩, ⟨cellOf (unhide HX) 1, frozenOf (unhide HX) 1⟩, ⟨cellOf (unhide HX) 2, frozenOf (unhide HX) 2⟩, cellOf (unhide HX) 3, frozenOf (unhide HX) 3⟩
    clear c0 c1 c2 c3 x0 x1 x2 x3 z0 z1 z2 z3
    have KK := hide (show ∀ w', Below wr.heap.size wr w' → (w'.cell? ⟨X, 0, none⟩ = some (.slice ya Y.db.length yx) ∧ w'.cell? ⟨X, 1, none⟩ = some (.slice yb Y.fl.length yy) ∧ w'.cell? ⟨X, 2, none⟩ = some (.bool Y.has) ∧ w'.cell? ⟨X, 3, none⟩ = some (.slice yc Y.jr.length yz)) ∧ (w'.cell? ⟨bS, oS + k * 4, none⟩ = some (.int .i64 sk) ∧ w'.cell? ⟨bS, oS + k * 4 + 1, none⟩ = some (.int .i64 sp) ∧ w'.cell? ⟨bS, oS + k * 4 + 2, none⟩ = some (.int .i64 sx) ∧ w'.cell? ⟨bS, oS + k * 4 + 3, none⟩ = some (.slice ga sps.length gc)) from fun w' hb => by
      have h1 := (hb.block _ (heapLt (unhide HX))).trans (unhide HX)
      refine ⟨⟨cellOf h1 0, cellOf h1 1, cellOf h1 2, cellOf h1 3⟩, ?_⟩
      exact (unhide HSAT).keep (hb.block bS (Nat.lt_of_lt_of_le hbS (unhide HWR).size)))
    have hi0 : (0 : Int) ≤ (k : Int) := Int.natCast_nonneg _
    have hi1 : (k : Int) < (l.length : Int) := by omega
    have er : IntKind.i64.wrap ((k : Int) + 1) = (k : Int) + 1 := by have := unhide HLL; simp [IntKind.wrap, IntKind.bits, IntKind.signed]; omega
    clear hsk hsat hpk hroom hbS hNS
    by_cases hlc : (k : Int) < cut
    · have hA := doA_yes (unhide HYO) hsok
      have hO3 := Dk.ok_step (unhide HYO) hsok
      have hY2 := Dk.st_do (unhide HSK) hlc (d := ⟨db, fl, has, jr⟩) (torn := torn)
      rw [← unhide HYE] at hY2
      have CQ := hide (fun (W : World) (x : DIn W Y (.slice ya Y.db.length yx) (.slice yb Y.fl.length yy) (.slice yc Y.jr.length yz)) (y : SIn W ⟨sk, sp, sx, sps⟩ (.slice ga sps.length gc)) => implDiskDo_any W Y ⟨sk, sp, sx, sps⟩ _ _ _ _ x.p1 x.r1 x.pf x.p2 x.r2 y.p y.r)
      rw [hA] at CQ
      dsimp only [dkV, stV] at CQ
      generalize Dk.D.step Y ⟨sk, sp, sx, sps⟩ = Y2 at *
      have HY2 := hide hY2.symm
      have SM := hide (smallD.ofOk hO3)
      clear hA hO3 hY2 hsok
      go_wp2_with fail
      go_cut [13, 14] from 79 to 87 (fun y o wx => ∃ (Zb : Nat) (v1 vf v2 : Value) (e1 e2 : List El), y = .pointer (some ⟨Zb, 0, none⟩) ∧ o = .bool true ∧ DkB wr.heap.size wx Zb Y2 v1 vf v2 e1 e2 ∧ Below wr.heap.size wr wx)
      case first =>
        refine wp_region_held_drew (S := fun w' => (w'.cell? ⟨X, 0, none⟩ = some (.slice ya Y.db.length yx) ∧ w'.cell? ⟨X, 1, none⟩ = some (.slice yb Y.fl.length yy) ∧ w'.cell? ⟨X, 2, none⟩ = some (.bool Y.has) ∧ w'.cell? ⟨X, 3, none⟩ = some (.slice yc Y.jr.length yz)) ∧ (w'.cell? ⟨bS, oS + k * 4, none⟩ = some (.int .i64 sk) ∧ w'.cell? ⟨bS, oS + k * 4 + 1, none⟩ = some (.int .i64 sp) ∧ w'.cell? ⟨bS, oS + k * 4 + 2, none⟩ = some (.int .i64 sx) ∧ w'.cell? ⟨bS, oS + k * 4 + 3, none⟩ = some (.slice ga sps.length gc))) (by kernel_rfl) (by exact unhide KK _ (below_drew wr)) (fun hHeld => ?_)
        refine anyH_at (i := 0) (d := some 80) rfl rfl (by kernel_rfl) (by kernel_rfl) (by kernel_rfl) (fun _ _ _ h => h) (by rfl) (v := ?_) ?_ (by assumption) ?_
        rotate_left
        · (intro w hSw; (try dsimp only at hSw); go_simp <;> with_reducible rfl)
        simp only [Act.put, List.setIfInBounds_toArray, List.set_cons_zero, List.set_cons_succ]
        refine anyH_at (i := 1) (d := some 81) rfl rfl (by kernel_rfl) (by kernel_rfl) (by kernel_rfl) (fun _ _ _ h => h) (by rfl) (v := ?_) ?_ (by assumption) ?_
        rotate_left
        · (intro w hSw; (try dsimp only at hSw); go_simp <;> with_reducible rfl)
        simp only [Act.put, List.setIfInBounds_toArray, List.set_cons_zero, List.set_cons_succ]
        refine anyH_at (i := 2) (d := some 82) rfl rfl (by kernel_rfl) (by kernel_rfl) (by kernel_rfl) (fun _ _ _ h => h) (by rfl) (v := ?_) ?_ (by assumption) ?_
        rotate_left
        · (intro w hSw; (try dsimp only at hSw); go_simp <;> with_reducible rfl)
        simp only [Act.put, List.setIfInBounds_toArray, List.set_cons_zero, List.set_cons_succ]
        refine anyH_at (i := 3) (d := some 83) rfl rfl (by kernel_rfl) (by kernel_rfl) (by kernel_rfl) (fun _ _ _ h => h) (by rfl) (v := ?_) ?_ (by assumption) ?_
        rotate_left
        · (intro w hSw; (try dsimp only at hSw); go_simp <;> with_reducible rfl)
        simp only [Act.put, List.setIfInBounds_toArray, List.set_cons_zero, List.set_cons_succ]
        refine anyH_at (i := 4) (d := some 84) rfl rfl (by kernel_rfl) (by kernel_rfl) (by kernel_rfl) (fun _ _ _ h => h) (by rfl) (v := ?_) ?_ (by assumption) ?_
        rotate_left
        · (intro w hSw; (try dsimp only at hSw); go_simp <;> with_reducible rfl)
        simp only [Act.put, List.setIfInBounds_toArray, List.set_cons_zero, List.set_cons_succ]
        have DD : Hid (Below wr.heap.size wr wr.drew) := below_drew wr
        refine wpAnyH_ready (rs := [5, 9]) (by kernel_rfl) (by simp) ?_
        refine AllReadyH.cons rfl (fun K hK => ?_) (AllReadyH.cons rfl (fun K hK => ?_) AllReadyH.nil)
        rotate_left
        · go_simp
          have HBX : Hid ((wr.drew.alloc (.cells #[.slice none 0 0, .slice none 0 0, .bool false, .slice none 0 0] 31)).heap[wr.heap.size]? = _) := heap_alloc_new wr.drew (.cells #[.slice none 0 0, .slice none 0 0, .bool false, .slice none 0 0] 31)
          have LOX : Hid (wr.heap.size ≤ wr.heap.size) := (unhide DD).size
          have bX := below1 wr.drew (.cells #[.slice none 0 0, .slice none 0 0, .bool false, .slice none 0 0] 31)
          replace DD := hide ((unhide DD).trans (bX.mono (unhide DD).size))
          clear bX
          refine hK.out _ _ ?_ (fun hHeldN => ?_)
          · exact unhide KK _ (unhide DD)
          clear hHeld
          have hHeld := hHeldN
          clear hHeldN
          clear hK K
          try simp only [Act.put, List.setIfInBounds_toArray, List.set_cons_zero, List.set_cons_succ]
          refine wpAnyH_ready (rs := [5]) (by kernel_rfl) (by simp) ?_
          refine AllReadyH.cons rfl (fun K hK => ?_) AllReadyH.nil
          go_simp
          have LP := hide (unhide DD).size
          refine ((unhide CQ) _ ((unhide YN).later (unhide DD)).din ((unhide SN).later (unhide DD))).mono ?_
          rintro e u1 ⟨u, rfl, ⟨v1, vf, v2, e1, e2, rfl, hA, hm1, hm2⟩, b⟩
          replace DD := hide ((unhide DD).trans (b.mono (unhide DD).size))
          replace HBX := hide ((b.block _ (heapLt (unhide HBX))).trans (unhide HBX))
          have DA := hide (hA.base (unhide LP))
          have HM := hide (And.intro hm1 hm2)
          obtain ⟨f1, l1, i1⟩ := own_formS hA.p1.own
          obtain ⟨ff, lf, iff'⟩ := own_formS hA.pf
          obtain ⟨f2, l2, i2⟩ := own_formS hA.p2.own
          dsimp only at i1 iff' i2
          subst i1 iff' i2
          clear hA hm1 hm2
          try dsimp only [dkV]
          clear b LP
          go_wp2_with fail
          refine hK.out _ _ ?_ (fun hHeldN => ?_)
          · exact unhide KK _ (unhide DD)
          clear hHeld
          have hHeld := hHeldN
          clear hHeldN
          clear hK K
          try simp only [Act.put, List.setIfInBounds_toArray, List.set_cons_zero, List.set_cons_succ]
          refine anyH_at (i := 6) (d := some 79) rfl rfl (by kernel_rfl) (by kernel_rfl) (by kernel_rfl) (fun _ _ _ h => h) (by rfl) (v := ?_) ?_ (by assumption) ?_
          rotate_left
          · (intro w hSw; (try dsimp only at hSw); go_simp <;> with_reducible rfl)
          simp only [Act.put, List.setIfInBounds_toArray, List.set_cons_zero, List.set_cons_succ]
          refine anyH_at (i := 7) (d := some 86) rfl rfl (by kernel_rfl) (by kernel_rfl) (by kernel_rfl) (fun _ _ _ h => h) (by rfl) (v := ?_) ?_ (by assumption) ?_
          rotate_left
          · (intro w hSw; (try dsimp only at hSw); go_simp <;> with_reducible rfl)
          simp only [Act.put, List.setIfInBounds_toArray, List.set_cons_zero, List.set_cons_succ]
          refine anyH_at (i := 8) (d := some 87) rfl rfl (by kernel_rfl) (by kernel_rfl) (by kernel_rfl) (fun _ _ _ h => h) (by rfl) (v := ?_) ?_ (by assumption) ?_
          rotate_left
          · (intro w hSw; (try dsimp only at hSw); go_simp <;> with_reducible rfl)
          simp only [Act.put, List.setIfInBounds_toArray, List.set_cons_zero, List.set_cons_succ]
          refine wpAnyH_ready (rs := [10]) (by kernel_rfl) (by simp) ?_
          refine AllReadyH.cons rfl (fun K hK => ?_) AllReadyH.nil
          obtain ⟨⟨r0, t0⟩, ⟨r1, t1⟩, ⟨r2, t2⟩, r3, t3⟩ : (_ ∧ _) ∧ (_ ∧ _) ∧ (_ ∧ _) ∧ _ ∧ _ := ⟨⟨cellOf (unhide HBX) 0, frozenOf (unhide HBX) 0⟩, ⟨cellOf (unhide HBX) 1, frozenOf (unhide HBX) 1⟩, ⟨cellOf (unhide HBX) 2, frozenOf (unhide HBX) 2⟩, cellOf (unhide HBX) 3, frozenOf (unhide HBX) 3⟩
          go_simp
          obtain ⟨hG, hBF⟩ := DkB.fill (W := wr) (d := Y2) (unhide HBX) (unhide LOX) (unhide DD) (unhide DA) (unhide HM).1 (unhide HM).2 rfl
          refine hK.out _ _ ?_ (fun hHeldN => ?_)
          · exact unhide KK _ hBF
          clear hHeld
          have hHeld := hHeldN
          clear hHeldN
          clear hK K
          try simp only [Act.put, List.setIfInBounds_toArray, List.set_cons_zero, List.set_cons_succ]
          refine anyH_at (i := 11) (d := some 14) rfl rfl (by kernel_rfl) (by kernel_rfl) (by kernel_rfl) (fun _ _ _ h => h) (by rfl) (v := ?_) ?_ (by assumption) ?_
          rotate_left
          · (intro w hSw; (try dsimp only at hSw); go_simp <;> with_reducible rfl)
          simp only [Act.put, List.setIfInBounds_toArray, List.set_cons_zero, List.set_cons_succ]
          refine wpAnyH_done (by kernel_rfl) ?_ _
          go_wp2_with fail
          go_meet
          exact ⟨_, _, _, _, _, _, rfl, rfl, hG, hBF⟩
        go_simp
        have LP := hide (unhide DD).size
        refine ((unhide CQ) _ ((unhide YN).later (unhide DD)).din ((unhide SN).later (unhide DD))).mono ?_
        rintro e u1 ⟨u, rfl, ⟨v1, vf, v2, e1, e2, rfl, hA, hm1, hm2⟩, b⟩
        replace DD := hide ((unhide DD).trans (b.mono (unhide DD).size))
        have DA := hide (hA.base (unhide LP))
        have HM := hide (And.intro hm1 hm2)
        obtain ⟨f1, l1, i1⟩ := own_formS hA.p1.own
        obtain ⟨ff, lf, iff'⟩ := own_formS hA.pf
        obtain ⟨f2, l2, i2⟩ := own_formS hA.p2.own
        dsimp only at i1 iff' i2
        subst i1 iff' i2
        clear hA hm1 hm2
        try dsimp only [dkV]
        clear b LP
        go_wp2_with fail
        refine hK.out _ _ ?_ (fun hHeldN => ?_)
        · exact unhide KK _ (unhide DD)
        clear hHeld
        have hHeld := hHeldN
        clear hHeldN
        clear hK K
        try simp only [Act.put, List.setIfInBounds_toArray, List.set_cons_zero, List.set_cons_succ]
        refine anyH_at (i := 6) (d := some 79) rfl rfl (by kernel_rfl) (by kernel_rfl) (by kernel_rfl) (fun _ _ _ h => h) (by rfl) (v := ?_) ?_ (by assumption) ?_
        rotate_left
        · (intro w hSw; (try dsimp only at hSw); go_simp <;> with_reducible rfl)
        simp only [Act.put, List.setIfInBounds_toArray, List.set_cons_zero, List.set_cons_succ]
        refine anyH_at (i := 7) (d := some 86) rfl rfl (by kernel_rfl) (by kernel_rfl) (by kernel_rfl) (fun _ _ _ h => h) (by rfl) (v := ?_) ?_ (by assumption) ?_
        rotate_left
        · (intro w hSw; (try dsimp only at hSw); go_simp <;> with_reducible rfl)
        simp only [Act.put, List.setIfInBounds_toArray, List.set_cons_zero, List.set_cons_succ]
        refine anyH_at (i := 8) (d := some 87) rfl rfl (by kernel_rfl) (by kernel_rfl) (by kernel_rfl) (fun _ _ _ h => h) (by rfl) (v := ?_) ?_ (by assumption) ?_
        rotate_left
        · (intro w hSw; (try dsimp only at hSw); go_simp <;> with_reducible rfl)
        simp only [Act.put, List.setIfInBounds_toArray, List.set_cons_zero, List.set_cons_succ]
        refine wpAnyH_ready (rs := [9]) (by kernel_rfl) (by simp) ?_
        refine AllReadyH.cons rfl (fun K hK => ?_) AllReadyH.nil
        go_simp
        have HBX := hide (heap_alloc_new u1 (.cells #[.slice none 0 0, .slice none 0 0, .bool false, .slice none 0 0] 31))
        have LOX : Hid (wr.heap.size ≤ u1.heap.size) := (unhide DD).size
        have bX := below1 u1 (.cells #[.slice none 0 0, .slice none 0 0, .bool false, .slice none 0 0] 31)
        replace DD := hide ((unhide DD).trans (bX.mono (unhide DD).size))
        replace DA := hide ((unhide DA).later bX)
        clear bX
        refine hK.out _ _ ?_ (fun hHeldN => ?_)
        · exact unhide KK _ (unhide DD)
        clear hHeld
        have hHeld := hHeldN
        clear hHeldN
        clear hK K
        try simp only [Act.put, List.setIfInBounds_toArray, List.set_cons_zero, List.set_cons_succ]
        generalize hXb : u1.heap.size = Xb at *
        clear hXb
        refine wpAnyH_ready (rs := [10]) (by kernel_rfl) (by simp) ?_
        refine AllReadyH.cons rfl (fun K hK => ?_) AllReadyH.nil
        obtain ⟨⟨r0, t0⟩, ⟨r1, t1⟩, ⟨r2, t2⟩, r3, t3⟩ : (_ ∧ _) ∧ (_ ∧ _) ∧ (_ ∧ _) ∧ _ ∧ _ := ⟨⟨cellOf (unhide HBX) 0, frozenOf (unhide HBX) 0⟩, ⟨cellOf (unhide HBX) 1, frozenOf (unhide HBX) 1⟩, ⟨cellOf (unhide HBX) 2, frozenOf (unhide HBX) 2⟩, cellOf (unhide HBX) 3, frozenOf (unhide HBX) 3⟩
        go_simp
        obtain ⟨hG, hBF⟩ := DkB.fill (W := wr) (d := Y2) (unhide HBX) (unhide LOX) (unhide DD) (unhide DA) (unhide HM).1 (unhide HM).2 rfl
        refine hK.out _ _ ?_ (fun hHeldN => ?_)
        · exact unhide KK _ hBF
        clear hHeld
        have hHeld := hHeldN
        clear hHeldN
        clear hK K
        try simp only [Act.put, List.setIfInBounds_toArray, List.set_cons_zero, List.set_cons_succ]
        refine anyH_at (i := 11) (d := some 14) rfl rfl (by kernel_rfl) (by kernel_rfl) (by kernel_rfl) (fun _ _ _ h => h) (by rfl) (v := ?_) ?_ (by assumption) ?_
        rotate_left
        · (intro w hSw; (try dsimp only at hSw); go_simp <;> with_reducible rfl)
        simp only [Act.put, List.setIfInBounds_toArray, List.set_cons_zero, List.set_cons_succ]
        refine wpAnyH_done (by kernel_rfl) ?_ _
        go_wp2_with fail
        go_meet
        exact ⟨_, _, _, _, _, _, rfl, rfl, hG, hBF⟩
      case rest =>
        obtain ⟨Zb, v1, vf, v2, e1, e2, rfl, rfl, hG, hBr⟩ := hcut
        obtain ⟨t1, u1, i1⟩ := own_formS hG.ans.p1.own
        obtain ⟨tf, uf, iff'⟩ := own_formS hG.ans.pf
        obtain ⟨t2, u2, i2⟩ := own_formS hG.ans.p2.own
        subst i1 iff' i2
        have HG := hide hG
        have hXc := (hBr.block _ (heapLt (unhide HX))).trans (unhide HX)
        have HXC := hide hXc
        have HBC := hide ((unhide HWR).trans (hBr.mono (unhide HWR).size))
        obtain ⟨g0, g1, g2, g3⟩ : _ ∧ _ ∧ _ ∧ _ := ⟨cellOf hG.box 0, cellOf hG.box 1, cellOf hG.box 2, cellOf hG.box 3⟩
        obtain ⟨⟨x0, z0⟩, ⟨x1, z1⟩, ⟨x2, z2⟩, x3, z3⟩ : (_ ∧ _) ∧ (_ ∧ _) ∧ (_ ∧ _) ∧ _ ∧ _ := ⟨⟨cellOf hXc 0, frozenOf hXc 0⟩, ⟨cellOf hXc 1, frozenOf hXc 1⟩, ⟨cellOf hXc 2, frozenOf hXc 2⟩, cellOf hXc 3, frozenOf hXc 3⟩
        clear hG hXc hBr
        have HZ := hide (fun w' hw => dn_store (w' := w') (unhide HXC) (unhide LX) (unhide HBC) (unhide HG) (unhide HLT) (unhide SM) hw)
        go_wp2
        go_roundw
        case rel =>
          obtain ⟨h1, h2, h3⟩ := unhide HZ _ rfl
          exact ⟨k + 1, Y2, _, _, _, by omega, by omega, by go_num, (unhide HY2), h1, h2, below_eq (unhide HXX) h3⟩
        case measure => simp [intOf]; omega
    have HLE := hide (show (k : Int) = cut by omega)
    cases torn
    · have hY2 := Dk.st_stay (d := ⟨db, fl, has, jr⟩) (l := l) (unhide HLE)
      rw [← unhide HYE] at hY2
      have HY2 := hide hY2.symm
      clear hY2 hsok
      go_wp2
      go_roundw
      case rel => exact ⟨k + 1, Y, _, _, _, by omega, by omega, by go_num, (unhide HY2), unhide HX, unhide YN, below_eq (unhide HXX) (unhide HWR)⟩
      case measure => simp [intOf]; omega
    · have hA := tearA_yes (unhide HYO) hsok
      have hO3 := Dk.ok_torn (s := ⟨sk, sp, sx, sps⟩) (unhide HYO)
      have hY2 := Dk.st_tear (unhide HSK) (unhide HLE) (d := ⟨db, fl, has, jr⟩)
      rw [← unhide HYE] at hY2
      have CQ := hide (fun (W : World) (x : DIn W Y (.slice ya Y.db.length yx) (.slice yb Y.fl.length yy) (.slice yc Y.jr.length yz)) (y : SIn W ⟨sk, sp, sx, sps⟩ (.slice ga sps.length gc)) => implDiskTear_any W Y ⟨sk, sp, sx, sps⟩ _ _ _ _ x.p1 x.r1 x.pf x.p2 x.r2 y.p y.r)
      rw [hA] at CQ
      dsimp only [dkV, stV] at CQ
      generalize Dk.D.torn Y ⟨sk, sp, sx, sps⟩ = Y2 at *
      have HY2 := hide hY2.symm
      have SM := hide (smallD.ofOk hO3)
      clear hA hO3 hY2 hsok
      go_wp2_with fail
      go_cut [15, 16] from 90 to 98 (fun y o wx => ∃ (Zb : Nat) (v1 vf v2 : Value) (e1 e2 : List El), y = .pointer (some ⟨Zb, 0, none⟩) ∧ o = .bool true ∧ DkB wr.heap.size wx Zb Y2 v1 vf v2 e1 e2 ∧ Below wr.heap.size wr wx)
      case first =>
        refine wp_region_held_drew (S := fun w' => (w'.cell? ⟨X, 0, none⟩ = some (.slice ya Y.db.length yx) ∧ w'.cell? ⟨X, 1, none⟩ = some (.slice yb Y.fl.length yy) ∧ w'.cell? ⟨X, 2, none⟩ = some (.bool Y.has) ∧ w'.cell? ⟨X, 3, none⟩ = some (.slice yc Y.jr.length yz)) ∧ (w'.cell? ⟨bS, oS + k * 4, none⟩ = some (.int .i64 sk) ∧ w'.cell? ⟨bS, oS + k * 4 + 1, none⟩ = some (.int .i64 sp) ∧ w'.cell? ⟨bS, oS + k * 4 + 2, none⟩ = some (.int .i64 sx) ∧ w'.cell? ⟨bS, oS + k * 4 + 3, none⟩ = some (.slice ga sps.length gc))) (by kernel_rfl) (by exact unhide KK _ (below_drew wr)) (fun hHeld => ?_)
        refine anyH_at (i := 0) (d := some 91) rfl rfl (by kernel_rfl) (by kernel_rfl) (by kernel_rfl) (fun _ _ _ h => h) (by rfl) (v := ?_) ?_ (by assumption) ?_
        rotate_left
        · (intro w hSw; (try dsimp only at hSw); go_simp <;> with_reducible rfl)
        simp only [Act.put, List.setIfInBounds_toArray, List.set_cons_zero, List.set_cons_succ]
        refine anyH_at (i := 1) (d := some 92) rfl rfl (by kernel_rfl) (by kernel_rfl) (by kernel_rfl) (fun _ _ _ h => h) (by rfl) (v := ?_) ?_ (by assumption) ?_
        rotate_left
        · (intro w hSw; (try dsimp only at hSw); go_simp <;> with_reducible rfl)
        simp only [Act.put, List.setIfInBounds_toArray, List.set_cons_zero, List.set_cons_succ]
        refine anyH_at (i := 2) (d := some 93) rfl rfl (by kernel_rfl) (by kernel_rfl) (by kernel_rfl) (fun _ _ _ h => h) (by rfl) (v := ?_) ?_ (by assumption) ?_
        rotate_left
        · (intro w hSw; (try dsimp only at hSw); go_simp <;> with_reducible rfl)
        simp only [Act.put, List.setIfInBounds_toArray, List.set_cons_zero, List.set_cons_succ]
        refine anyH_at (i := 3) (d := some 94) rfl rfl (by kernel_rfl) (by kernel_rfl) (by kernel_rfl) (fun _ _ _ h => h) (by rfl) (v := ?_) ?_ (by assumption) ?_
        rotate_left
        · (intro w hSw; (try dsimp only at hSw); go_simp <;> with_reducible rfl)
        simp only [Act.put, List.setIfInBounds_toArray, List.set_cons_zero, List.set_cons_succ]
        refine anyH_at (i := 4) (d := some 95) rfl rfl (by kernel_rfl) (by kernel_rfl) (by kernel_rfl) (fun _ _ _ h => h) (by rfl) (v := ?_) ?_ (by assumption) ?_
        rotate_left
        · (intro w hSw; (try dsimp only at hSw); go_simp <;> with_reducible rfl)
        simp only [Act.put, List.setIfInBounds_toArray, List.set_cons_zero, List.set_cons_succ]
        have DD : Hid (Below wr.heap.size wr wr.drew) := below_drew wr
        refine wpAnyH_ready (rs := [5, 9]) (by kernel_rfl) (by simp) ?_
        refine AllReadyH.cons rfl (fun K hK => ?_) (AllReadyH.cons rfl (fun K hK => ?_) AllReadyH.nil)
        rotate_left
        · go_simp
          have HBX : Hid ((wr.drew.alloc (.cells #[.slice none 0 0, .slice none 0 0, .bool false, .slice none 0 0] 31)).heap[wr.heap.size]? = _) := heap_alloc_new wr.drew (.cells #[.slice none 0 0, .slice none 0 0, .bool false, .slice none 0 0] 31)
          have LOX : Hid (wr.heap.size ≤ wr.heap.size) := (unhide DD).size
          have bX := below1 wr.drew (.cells #[.slice none 0 0, .slice none 0 0, .bool false, .slice none 0 0] 31)
          replace DD := hide ((unhide DD).trans (bX.mono (unhide DD).size))
          clear bX
          refine hK.out _ _ ?_ (fun hHeldN => ?_)
          · exact unhide KK _ (unhide DD)
          clear hHeld
          have hHeld := hHeldN
          clear hHeldN
          clear hK K
          try simp only [Act.put, List.setIfInBounds_toArray, List.set_cons_zero, List.set_cons_succ]
          refine wpAnyH_ready (rs := [5]) (by kernel_rfl) (by simp) ?_
          refine AllReadyH.cons rfl (fun K hK => ?_) AllReadyH.nil
          go_simp
          have LP := hide (unhide DD).size
          refine ((unhide CQ) _ ((unhide YN).later (unhide DD)).din ((unhide SN).later (unhide DD))).mono ?_
          rintro e u1 ⟨u, rfl, ⟨v1, vf, v2, e1, e2, rfl, hA, hm1, hm2⟩, b⟩
          replace DD := hide ((unhide DD).trans (b.mono (unhide DD).size))
          replace HBX := hide ((b.block _ (heapLt (unhide HBX))).trans (unhide HBX))
          have DA := hide (hA.base (unhide LP))
          have HM := hide (And.intro hm1 hm2)
          obtain ⟨f1, l1, i1⟩ := own_formS hA.p1.own
          obtain ⟨ff, lf, iff'⟩ := own_formS hA.pf
          obtain ⟨f2, l2, i2⟩ := own_formS hA.p2.own
          dsimp only at i1 iff' i2
          subst i1 iff' i2
          clear hA hm1 hm2
          try dsimp only [dkV]
          clear b LP
          go_wp2_with fail
          refine hK.out _ _ ?_ (fun hHeldN => ?_)
          · exact unhide KK _ (unhide DD)
          clear hHeld
          have hHeld := hHeldN
          clear hHeldN
          clear hK K
          try simp only [Act.put, List.setIfInBounds_toArray, List.set_cons_zero, List.set_cons_succ]
          refine anyH_at (i := 6) (d := some 90) rfl rfl (by kernel_rfl) (by kernel_rfl) (by kernel_rfl) (fun _ _ _ h => h) (by rfl) (v := ?_) ?_ (by assumption) ?_
          rotate_left
          · (intro w hSw; (try dsimp only at hSw); go_simp <;> with_reducible rfl)
          simp only [Act.put, List.setIfInBounds_toArray, List.set_cons_zero, List.set_cons_succ]
          refine anyH_at (i := 7) (d := some 97) rfl rfl (by kernel_rfl) (by kernel_rfl) (by kernel_rfl) (fun _ _ _ h => h) (by rfl) (v := ?_) ?_ (by assumption) ?_
          rotate_left
          · (intro w hSw; (try dsimp only at hSw); go_simp <;> with_reducible rfl)
          simp only [Act.put, List.setIfInBounds_toArray, List.set_cons_zero, List.set_cons_succ]
          refine anyH_at (i := 8) (d := some 98) rfl rfl (by kernel_rfl) (by kernel_rfl) (by kernel_rfl) (fun _ _ _ h => h) (by rfl) (v := ?_) ?_ (by assumption) ?_
          rotate_left
          · (intro w hSw; (try dsimp only at hSw); go_simp <;> with_reducible rfl)
          simp only [Act.put, List.setIfInBounds_toArray, List.set_cons_zero, List.set_cons_succ]
          refine wpAnyH_ready (rs := [10]) (by kernel_rfl) (by simp) ?_
          refine AllReadyH.cons rfl (fun K hK => ?_) AllReadyH.nil
          obtain ⟨⟨r0, t0⟩, ⟨r1, t1⟩, ⟨r2, t2⟩, r3, t3⟩ : (_ ∧ _) ∧ (_ ∧ _) ∧ (_ ∧ _) ∧ _ ∧ _ := ⟨⟨cellOf (unhide HBX) 0, frozenOf (unhide HBX) 0⟩, ⟨cellOf (unhide HBX) 1, frozenOf (unhide HBX) 1⟩, ⟨cellOf (unhide HBX) 2, frozenOf (unhide HBX) 2⟩, cellOf (unhide HBX) 3, frozenOf (unhide HBX) 3⟩
          go_simp
          obtain ⟨hG, hBF⟩ := DkB.fill (W := wr) (d := Y2) (unhide HBX) (unhide LOX) (unhide DD) (unhide DA) (unhide HM).1 (unhide HM).2 rfl
          refine hK.out _ _ ?_ (fun hHeldN => ?_)
          · exact unhide KK _ hBF
          clear hHeld
          have hHeld := hHeldN
          clear hHeldN
          clear hK K
          try simp only [Act.put, List.setIfInBounds_toArray, List.set_cons_zero, List.set_cons_succ]
          refine anyH_at (i := 11) (d := some 16) rfl rfl (by kernel_rfl) (by kernel_rfl) (by kernel_rfl) (fun _ _ _ h => h) (by rfl) (v := ?_) ?_ (by assumption) ?_
          rotate_left
          · (intro w hSw; (try dsimp only at hSw); go_simp <;> with_reducible rfl)
          simp only [Act.put, List.setIfInBounds_toArray, List.set_cons_zero, List.set_cons_succ]
          refine wpAnyH_done (by kernel_rfl) ?_ _
          go_wp2_with fail
          go_meet
          exact ⟨_, _, _, _, _, _, rfl, rfl, hG, hBF⟩
        go_simp
        have LP := hide (unhide DD).size
        refine ((unhide CQ) _ ((unhide YN).later (unhide DD)).din ((unhide SN).later (unhide DD))).mono ?_
        rintro e u1 ⟨u, rfl, ⟨v1, vf, v2, e1, e2, rfl, hA, hm1, hm2⟩, b⟩
        replace DD := hide ((unhide DD).trans (b.mono (unhide DD).size))
        have DA := hide (hA.base (unhide LP))
        have HM := hide (And.intro hm1 hm2)
        obtain ⟨f1, l1, i1⟩ := own_formS hA.p1.own
        obtain ⟨ff, lf, iff'⟩ := own_formS hA.pf
        obtain ⟨f2, l2, i2⟩ := own_formS hA.p2.own
        dsimp only at i1 iff' i2
        subst i1 iff' i2
        clear hA hm1 hm2
        try dsimp only [dkV]
        clear b LP
        go_wp2_with fail
        refine hK.out _ _ ?_ (fun hHeldN => ?_)
        · exact unhide KK _ (unhide DD)
        clear hHeld
        have hHeld := hHeldN
        clear hHeldN
        clear hK K
        try simp only [Act.put, List.setIfInBounds_toArray, List.set_cons_zero, List.set_cons_succ]
        refine anyH_at (i := 6) (d := some 90) rfl rfl (by kernel_rfl) (by kernel_rfl) (by kernel_rfl) (fun _ _ _ h => h) (by rfl) (v := ?_) ?_ (by assumption) ?_
        rotate_left
        · (intro w hSw; (try dsimp only at hSw); go_simp <;> with_reducible rfl)
        simp only [Act.put, List.setIfInBounds_toArray, List.set_cons_zero, List.set_cons_succ]
        refine anyH_at (i := 7) (d := some 97) rfl rfl (by kernel_rfl) (by kernel_rfl) (by kernel_rfl) (fun _ _ _ h => h) (by rfl) (v := ?_) ?_ (by assumption) ?_
        rotate_left
        · (intro w hSw; (try dsimp only at hSw); go_simp <;> with_reducible rfl)
        simp only [Act.put, List.setIfInBounds_toArray, List.set_cons_zero, List.set_cons_succ]
        refine anyH_at (i := 8) (d := some 98) rfl rfl (by kernel_rfl) (by kernel_rfl) (by kernel_rfl) (fun _ _ _ h => h) (by rfl) (v := ?_) ?_ (by assumption) ?_
        rotate_left
        · (intro w hSw; (try dsimp only at hSw); go_simp <;> with_reducible rfl)
        simp only [Act.put, List.setIfInBounds_toArray, List.set_cons_zero, List.set_cons_succ]
        refine wpAnyH_ready (rs := [9]) (by kernel_rfl) (by simp) ?_
        refine AllReadyH.cons rfl (fun K hK => ?_) AllReadyH.nil
        go_simp
        have HBX := hide (heap_alloc_new u1 (.cells #[.slice none 0 0, .slice none 0 0, .bool false, .slice none 0 0] 31))
        have LOX : Hid (wr.heap.size ≤ u1.heap.size) := (unhide DD).size
        have bX := below1 u1 (.cells #[.slice none 0 0, .slice none 0 0, .bool false, .slice none 0 0] 31)
        replace DD := hide ((unhide DD).trans (bX.mono (unhide DD).size))
        replace DA := hide ((unhide DA).later bX)
        clear bX
        refine hK.out _ _ ?_ (fun hHeldN => ?_)
        · exact unhide KK _ (unhide DD)
        clear hHeld
        have hHeld := hHeldN
        clear hHeldN
        clear hK K
        try simp only [Act.put, List.setIfInBounds_toArray, List.set_cons_zero, List.set_cons_succ]
        generalize hXb : u1.heap.size = Xb at *
        clear hXb
        refine wpAnyH_ready (rs := [10]) (by kernel_rfl) (by simp) ?_
        refine AllReadyH.cons rfl (fun K hK => ?_) AllReadyH.nil
        obtain ⟨⟨r0, t0⟩, ⟨r1, t1⟩, ⟨r2, t2⟩, r3, t3⟩ : (_ ∧ _) ∧ (_ ∧ _) ∧ (_ ∧ _) ∧ _ ∧ _ := ⟨⟨cellOf (unhide HBX) 0, frozenOf (unhide HBX) 0⟩, ⟨cellOf (unhide HBX) 1, frozenOf (unhide HBX) 1⟩, ⟨cellOf (unhide HBX) 2, frozenOf (unhide HBX) 2⟩, cellOf (unhide HBX) 3, frozenOf (unhide HBX) 3⟩
        go_simp
        obtain ⟨hG, hBF⟩ := DkB.fill (W := wr) (d := Y2) (unhide HBX) (unhide LOX) (unhide DD) (unhide DA) (unhide HM).1 (unhide HM).2 rfl
        refine hK.out _ _ ?_ (fun hHeldN => ?_)
        · exact unhide KK _ hBF
        clear hHeld
        have hHeld := hHeldN
        clear hHeldN
        clear hK K
        try simp only [Act.put, List.setIfInBounds_toArray, List.set_cons_zero, List.set_cons_succ]
        refine anyH_at (i := 11) (d := some 16) rfl rfl (by kernel_rfl) (by kernel_rfl) (by kernel_rfl) (fun _ _ _ h => h) (by rfl) (v := ?_) ?_ (by assumption) ?_
        rotate_left
        · (intro w hSw; (try dsimp only at hSw); go_simp <;> with_reducible rfl)
        simp only [Act.put, List.setIfInBounds_toArray, List.set_cons_zero, List.set_cons_succ]
        refine wpAnyH_done (by kernel_rfl) ?_ _
        go_wp2_with fail
        go_meet
        exact ⟨_, _, _, _, _, _, rfl, rfl, hG, hBF⟩
      case rest =>
        obtain ⟨Zb, v1, vf, v2, e1, e2, rfl, rfl, hG, hBr⟩ := hcut
        obtain ⟨t1, u1, i1⟩ := own_formS hG.ans.p1.own
        obtain ⟨tf, uf, iff'⟩ := own_formS hG.ans.pf
        obtain ⟨t2, u2, i2⟩ := own_formS hG.ans.p2.own
        subst i1 iff' i2
        have HG := hide hG
        have hXc := (hBr.block _ (heapLt (unhide HX))).trans (unhide HX)
        have HXC := hide hXc
        have HBC := hide ((unhide HWR).trans (hBr.mono (unhide HWR).size))
        obtain ⟨g0, g1, g2, g3⟩ : _ ∧ _ ∧ _ ∧ _ := ⟨cellOf hG.box 0, cellOf hG.box 1, cellOf hG.box 2, cellOf hG.box 3⟩
        obtain ⟨⟨x0, z0⟩, ⟨x1, z1⟩, ⟨x2, z2⟩, x3, z3⟩ : (_ ∧ _) ∧ (_ ∧ _) ∧ (_ ∧ _) ∧ _ ∧ _ := ⟨⟨cellOf hXc 0, frozenOf hXc 0⟩, ⟨cellOf hXc 1, frozenOf hXc 1⟩, ⟨cellOf hXc 2, frozenOf hXc 2⟩, cellOf hXc 3, frozenOf hXc 3⟩
        clear hG hXc hBr
        have HZ := hide (fun w' hw => dn_store (w' := w') (unhide HXC) (unhide LX) (unhide HBC) (unhide HG) (unhide HLT) (unhide SM) hw)
        go_wp2
        go_roundw
        case rel =>
          obtain ⟨h1, h2, h3⟩ := unhide HZ _ rfl
          exact ⟨k + 1, Y2, _, _, _, by omega, by omega, by go_num, (unhide HY2), h1, h2, below_eq (unhide HXX) h3⟩
        case measure => simp [intOf]; omega
end Go.Proofs.YtkhanndmbpemfaaGreatDoor
