import Derived.Test.YtkhanndmbpemfaaGreatDoorDrawInstToW
import Derived.Test.YtkhanndmbpemfaaGreatDoorMix22
import Derived.ProofKit
import Derived.ChangeSlices
import Derived.OpenShut
/- impl.InstTo, spec.InstTo on a disk and steps that can be read: the answer can be read; what they answer, as data. -/
namespace Go.Proofs.YtkhanndmbpemfaaGreatDoor
open Go.RowKit

namespace Dk
theorem run_ok : ∀ (l : List S) (d : D), d.ok = true → (∀ s ∈ l, s.ok = true) → (run d l).ok = true
  | [], _, h, _ => h
  | s :: t, d, h, hs => run_ok t (d.step s) (ok_step h (hs s (List.mem_cons_self ..))) (fun x hx => hs x (List.mem_cons_of_mem _ hx))
theorem till_ok {d : D} {l : List S} (cut : Int) (torn : Bool) (h : d.ok = true) (hl : allOk l = true) : (till d l cut torn).ok = true := by
  have hs := allOk_mem hl
  have hr : (run d (l.take cut.toNat)).ok = true := run_ok _ _ h (fun s hm => hs s (List.mem_of_mem_take hm))
  unfold till
  split
  · exact ok_torn hr
  · exact hr
theorem toA_yes {d : D} {l : List S} {cut : Int} (torn : Bool) (h : d.ok = true) (hl : allOk l = true) (hc : 0 ≤ cut) : toA d l cut torn = (till d l cut torn, true) := by unfold toA; rw [if_pos ⟨h, hl, hc⟩]
theorem toA_no {d : D} {l : List S} {cut : Int} {torn : Bool} (h : ¬ (d.ok = true ∧ allOk l = true ∧ 0 ≤ cut)) : toA d l cut torn = (⟨[], [], false, []⟩, false) := by unfold toA; rw [if_neg h]; rfl
theorem toA_nil {d : D} (h : d.ok = true) : toA d [] 3 true = (d, true) := by
  rw [toA_yes true h rfl (by omega)]
  rfl
theorem toA_zero {d : D} {l : List S} (h : d.ok = true) (hl : allOk l = true) : toA d l 0 false = (d, true) := by
  rw [toA_yes false h hl (by omega)]
  rfl
theorem till_len (d : D) (l : List S) (torn : Bool) : till d l (l.length : Int) torn = run d l := by
  unfold till
  rw [if_neg (by omega), Int.toNat_natCast, List.take_length]
theorem till_past (d : D) (l : List S) : till d l ((l.length : Int) + 5) false = run d l := by
  unfold till
  rw [if_neg (by simp), List.take_of_length_le (by omega)]
theorem toA_len {d : D} {l : List S} (torn : Bool) (h : d.ok = true) (hl : allOk l = true) : toA d l (l.length : Int) torn = (run d l, true) := by
  rw [toA_yes torn h hl (by omega), till_len]
theorem toA_past {d : D} {l : List S} (h : d.ok = true) (hl : allOk l = true) : toA d l ((l.length : Int) + 5) false = (run d l, true) := by
  rw [toA_yes false h hl (by omega), till_past]
theorem toA_below (d : D) (l : List S) (torn : Bool) : toA d l (-1) torn = (⟨[], [], false, []⟩, false) := toA_no (by omega)
end Dk
theorem toA_small (d : Dk.D) (l : List Dk.S) (cut : Int) (torn : Bool) : smallD (Dk.toA d l cut torn).1 := by
  by_cases h : d.ok = true ∧ allOk l = true ∧ 0 ≤ cut
  · rw [Dk.toA_yes torn h.1 h.2.1 h.2.2]; exact smallD.ofOk (Dk.till_ok cut torn h.1 h.2.1)
  · rw [Dk.toA_no h]; exact smallD.none
theorem implTo_in {N : Nat → Prop} (w : World) (d : Dk.D) (v1 uf v2 v : Value) (l : List Dk.S) (cut : Int) (torn : Bool) (hd : DIn w d v1 uf v2) (hs : StsR N w v l) (hl : l.length ≤ 1000) (c0 : -9000000000000000000 ≤ cut) (c1 : cut ≤ 9000000000000000000) :
    Calls Tryz.prog 11 #[dkV v1 uf d.has v2, v, .int .i64 cut, .bool torn] w fun e w' => ∃ q1 qf q2, e = .returned (.tuple #[dkV q1 qf (Dk.toA d l cut torn).1.has q2, .bool (Dk.toA d l cut torn).2]) ∧ DIn w' (Dk.toA d l cut torn).1 q1 qf q2 ∧ Below w.heap.size w w' :=
  (implInstTo_any w d v1 uf v2 v l cut torn hd hs hl c0 c1).mono (by
    rintro e w' ⟨u, rfl, h, b⟩
    obtain ⟨q1, qf, q2, rfl, h9⟩ := h.out (toA_small d l cut torn)
    exact ⟨q1, qf, q2, rfl, h9, b⟩)
end Go.Proofs.YtkhanndmbpemfaaGreatDoor

/- The walk of FnToNone: it returns true and leaves what was there; for every row of bytes. -/
namespace Go.Proofs.YtkhanndmbpemfaaGreatDoor
open Go.RowKit

attribute [local go_sem ↓] Go.wp_at_zero Go.wp_at_succ

theorem stsR_nil (N : Nat → Prop) (w : World) : StsR N w (.slice none 0 0) [] := ⟨none, 0, rfl, Nat.le_refl _, Nat.zero_le _, fun h => by cases h⟩
set_option linter.unusedSimpArgs false in
set_option maxHeartbeats 16000000 in
set_option maxRecDepth 100000 in
theorem toNone_walk (w : World) (a : Option Addr) (len cap : Nat) (h : Bytes w a len cap) :
    Calls Tryz.prog 5 #[.slice a len cap] w fun e w' => e = .returned (.bool true) ∧ Below w.heap.size w w' := by
  by_cases hbig : (1048576 : Int) < (len : Int)
  · go_enter Tryz.func5, Tryz.ntmps5
    go_wp2
    go_ret
    exact ⟨rfl, Below.refl _ _⟩
  have CD := hide (drawInstTo_any w a len cap h)
  clear h
  go_enter Tryz.func5, Tryz.ntmps5
  go_wp2_with fail
  refine (unhide CD).mono ?_
  rintro e u0 ⟨D, v1, uf, v2, v, l, cut, torn, rfl, hd, hs, hl, hc0, hc1, b1⟩
  obtain ⟨db, fl, has, jr⟩ := D
  obtain ⟨pa, px, pb, py, pc, pz, i1, i2, i3⟩ := hd.forms
  obtain ⟨sa, sc, i4, hsc⟩ := hs.slice
  dsimp only at i1 i2 i3
  subst i1 i2 i3 i4
  obtain ⟨k0, k1⟩ : _ ∧ _ := ⟨below1 u0 (.cells #[.slice pa db.length px, .slice pb fl.length py, .bool has, .slice pc jr.length pz] 31), heap_alloc_new u0 (.cells #[.slice pa db.length px, .slice pb fl.length py, .bool has, .slice pc jr.length pz] 31)⟩
  have HB3 := hide k1
  have HD3 := hide (hd.later k0)
  have HS4 := hide (hs.later k0)
  have BW := hide (b1.trans (k0.mono b1.size))
  have HLL := hide (show l.length ≤ 1000 by omega)
  have HC0 := hide (show (-9000000000000000000 : Int) ≤ cut by omega)
  have HC1 := hide (show cut ≤ (9000000000000000000 : Int) by omega)
  clear hd hs b1 k0 k1 CD hsc hl hc0 hc1
  dsimp only [dkV]
  by_cases hyes : Dk.D.ok ⟨db, fl, has, jr⟩ = true ∧ allOk l = true ∧ 0 ≤ cut
  rotate_left
  · have hA := Dk.toA_no (torn := torn) hyes
    clear hyes
    generalize (⟨[], [], false, []⟩ : Dk.D) = D2 at *
    obtain ⟨db2, fl2, has2, jr2⟩ := D2
    have CI := hide (fun (W : World) (v1 uf v2 v : Value) (x : DIn W ⟨db, fl, has, jr⟩ v1 uf v2) (y : StsR (fun _ => True) W v l) => implTo_in W ⟨db, fl, has, jr⟩ v1 uf v2 v l cut torn x y (unhide HLL) (unhide HC0) (unhide HC1))
    rw [hA] at CI
    dsimp only at CI
    have CS := hide (fun (W : World) (v1 uf v2 v : Value) (x : DIn W ⟨db, fl, has, jr⟩ v1 uf v2) (y : StsR (fun _ => True) W v l) => specInstTo_any W ⟨db, fl, has, jr⟩ v1 uf v2 v l cut torn x y (unhide HLL) (unhide HC0) (unhide HC1))
    rw [hA] at CS
    dsimp only at CS
    go_wp2_with fail
    generalize hX : u0.heap.size = X3 at *
    clear hX
    generalize World.alloc _ _ = u1 at *
    obtain ⟨x30, x31, x32, x33⟩ : _ ∧ _ ∧ _ ∧ _ := ⟨cellOf (unhide HB3) 0, cellOf (unhide HB3) 1, cellOf (unhide HB3) 2, cellOf (unhide HB3) 3⟩
    refine ((unhide CS) _ _ _ _ _ (unhide HD3) (unhide HS4)).mono ?_
    rintro e u2 ⟨q1, qf, q2, rfl, hd, b⟩
    replace HB3 := hide ((b.block _ (heapLt (unhide HB3))).trans (unhide HB3))
    replace HD3 := hide ((unhide HD3).later b)
    replace HS4 := hide ((unhide HS4).later b)
    replace BW := hide ((unhide BW).trans (b.mono (unhide BW).size))
    clear b
    clear x30 x31 x32 x33
    obtain ⟨qa, qx, qb, qy, qc, qz, i1, i2, i3⟩ := hd.forms
    (try dsimp only at i1 i2 i3)
    subst i1 i2 i3
    have HD7 := hide hd
    clear hd
    dsimp only [dkV]
    have bX := below1 u2 (.cells #[.slice qa db2.length qx, .slice qb fl2.length qy, .bool has2, .slice qc jr2.length qz] 31)
    have HB7 := hide (heap_alloc_new u2 (.cells #[.slice qa db2.length qx, .slice qb fl2.length qy, .bool has2, .slice qc jr2.length qz] 31))
    replace HB3 := hide ((bX.block _ (heapLt (unhide HB3))).trans (unhide HB3))
    replace HD3 := hide ((unhide HD3).later bX)
    replace HD7 := hide ((unhide HD7).later bX)
    replace HS4 := hide ((unhide HS4).later bX)
    replace BW := hide ((unhide BW).trans (bX.mono (unhide BW).size))
    clear bX
    obtain ⟨x30, x31, x32, x33⟩ : _ ∧ _ ∧ _ ∧ _ := ⟨cellOf (unhide HB3) 0, cellOf (unhide HB3) 1, cellOf (unhide HB3) 2, cellOf (unhide HB3) 3⟩
    go_wp2_with fail
    generalize u2.heap.size = X7 at *
    generalize u2.alloc _ = u3 at *
    refine ((unhide CI) _ _ _ _ _ (unhide HD3) (unhide HS4)).mono ?_
    rintro e u4 ⟨q1, qf, q2, rfl, hd, b⟩
    replace HB3 := hide ((b.block _ (heapLt (unhide HB3))).trans (unhide HB3))
    replace HB7 := hide ((b.block _ (heapLt (unhide HB7))).trans (unhide HB7))
    replace HD3 := hide ((unhide HD3).later b)
    replace HD7 := hide ((unhide HD7).later b)
    replace HS4 := hide ((unhide HS4).later b)
    replace BW := hide ((unhide BW).trans (b.mono (unhide BW).size))
    clear b
    clear x30 x31 x32 x33
    obtain ⟨ra, rx, rb, ry, rc, rz, i1, i2, i3⟩ := hd.forms
    (try dsimp only at i1 i2 i3)
    subst i1 i2 i3
    have HD9 := hide hd
    clear hd
    dsimp only [dkV]
    have bX := below1 u4 (.cells #[.slice ra db2.length rx, .slice rb fl2.length ry, .bool has2, .slice rc jr2.length rz] 31)
    have HB9 := hide (heap_alloc_new u4 (.cells #[.slice ra db2.length rx, .slice rb fl2.length ry, .bool has2, .slice rc jr2.length rz] 31))
    replace HB3 := hide ((bX.block _ (heapLt (unhide HB3))).trans (unhide HB3))
    replace HB7 := hide ((bX.block _ (heapLt (unhide HB7))).trans (unhide HB7))
    replace HD3 := hide ((unhide HD3).later bX)
    replace HD7 := hide ((unhide HD7).later bX)
    replace HD9 := hide ((unhide HD9).later bX)
    replace HS4 := hide ((unhide HS4).later bX)
    replace BW := hide ((unhide BW).trans (bX.mono (unhide BW).size))
    clear bX
    obtain ⟨x90, x91, x92, x93⟩ : _ ∧ _ ∧ _ ∧ _ := ⟨cellOf (unhide HB9) 0, cellOf (unhide HB9) 1, cellOf (unhide HB9) 2, cellOf (unhide HB9) 3⟩
    obtain ⟨x70, x71, x72, x73⟩ : _ ∧ _ ∧ _ ∧ _ := ⟨cellOf (unhide HB7) 0, cellOf (unhide HB7) 1, cellOf (unhide HB7) 2, cellOf (unhide HB7) 3⟩
    go_wp2_with fail
    generalize u4.heap.size = X9 at *
    generalize u4.alloc _ = u5 at *
    refine (luDisk_in _ ⟨db2, fl2, has2, jr2⟩ _ _ _ _ _ _ (unhide HD9) (unhide HD7)).mono ?_
    rintro e u6 ⟨rfl, b⟩
    replace HB3 := hide ((b.block _ (heapLt (unhide HB3))).trans (unhide HB3))
    replace HB7 := hide ((b.block _ (heapLt (unhide HB7))).trans (unhide HB7))
    replace HB9 := hide ((b.block _ (heapLt (unhide HB9))).trans (unhide HB9))
    replace HD3 := hide ((unhide HD3).later b)
    replace HD7 := hide ((unhide HD7).later b)
    replace HD9 := hide ((unhide HD9).later b)
    replace HS4 := hide ((unhide HS4).later b)
    replace BW := hide ((unhide BW).trans (b.mono (unhide BW).size))
    clear b
    clear x90 x91 x92 x93
    clear x70 x71 x72 x73
    obtain ⟨x90, x91, x92, x93⟩ : _ ∧ _ ∧ _ ∧ _ := ⟨cellOf (unhide HB9) 0, cellOf (unhide HB9) 1, cellOf (unhide HB9) 2, cellOf (unhide HB9) 3⟩
    obtain ⟨x70, x71, x72, x73⟩ : _ ∧ _ ∧ _ ∧ _ := ⟨cellOf (unhide HB7) 0, cellOf (unhide HB7) 1, cellOf (unhide HB7) 2, cellOf (unhide HB7) 3⟩
    go_wp2_with fail
    refine (luDisk_in _ ⟨db2, fl2, has2, jr2⟩ _ _ _ _ _ _ (unhide HD9) (unhide HD7)).mono ?_
    rintro e u7 ⟨rfl, b⟩
    replace HB3 := hide ((b.block _ (heapLt (unhide HB3))).trans (unhide HB3))
    replace HB7 := hide ((b.block _ (heapLt (unhide HB7))).trans (unhide HB7))
    replace HB9 := hide ((b.block _ (heapLt (unhide HB9))).trans (unhide HB9))
    replace HD3 := hide ((unhide HD3).later b)
    replace HD7 := hide ((unhide HD7).later b)
    replace HD9 := hide ((unhide HD9).later b)
    replace HS4 := hide ((unhide HS4).later b)
    replace BW := hide ((unhide BW).trans (b.mono (unhide BW).size))
    clear b
    go_wp2
    go_ret
    exact ⟨rfl, unhide BW⟩
  obtain ⟨h1, h2, h3⟩ := hyes
  have hA := Dk.toA_yes torn h1 h2 h3
  have hA3 := Dk.toA_nil h1
  have hA4 := Dk.toA_zero h1 h2
  have hA5 := Dk.toA_len torn h1 h2
  have hA6 := Dk.toA_past h1 h2
  have hA7 := Dk.toA_below ⟨db, fl, has, jr⟩ l torn
  generalize Dk.till _ _ _ _ = D2 at *
  generalize Dk.run _ _ = D5 at *
  generalize (⟨[], [], false, []⟩ : Dk.D) = D9 at *
  obtain ⟨db2, fl2, has2, jr2⟩ := D2
  obtain ⟨db5, fl5, has5, jr5⟩ := D5
  obtain ⟨db9, fl9, has9, jr9⟩ := D9
  have CI := hide (fun (W : World) (v1 uf v2 v : Value) (x : DIn W ⟨db, fl, has, jr⟩ v1 uf v2) (y : StsR (fun _ => True) W v l) => implTo_in W ⟨db, fl, has, jr⟩ v1 uf v2 v l cut torn x y (unhide HLL) (unhide HC0) (unhide HC1))
  rw [hA] at CI
  dsimp only at CI
  have CS := hide (fun (W : World) (v1 uf v2 v : Value) (x : DIn W ⟨db, fl, has, jr⟩ v1 uf v2) (y : StsR (fun _ => True) W v l) => specInstTo_any W ⟨db, fl, has, jr⟩ v1 uf v2 v l cut torn x y (unhide HLL) (unhide HC0) (unhide HC1))
  rw [hA] at CS
  dsimp only at CS
  have C3 := hide (fun (W : World) (v1 uf v2 v : Value) (x : DIn W ⟨db, fl, has, jr⟩ v1 uf v2) (y : StsR (fun _ => True) W v []) => implTo_in W ⟨db, fl, has, jr⟩ v1 uf v2 v [] 3 true x y (Nat.zero_le _) (by omega) (by omega))
  rw [hA3] at C3
  dsimp only at C3
  have C4 := hide (fun (W : World) (v1 uf v2 v : Value) (x : DIn W ⟨db, fl, has, jr⟩ v1 uf v2) (y : StsR (fun _ => True) W v l) => implTo_in W ⟨db, fl, has, jr⟩ v1 uf v2 v l 0 false x y (unhide HLL) (by omega) (by omega))
  rw [hA4] at C4
  dsimp only at C4
  have C5 := hide (fun (W : World) (v1 uf v2 v : Value) (x : DIn W ⟨db, fl, has, jr⟩ v1 uf v2) (y : StsR (fun _ => True) W v l) => implTo_in W ⟨db, fl, has, jr⟩ v1 uf v2 v l (l.length : Int) torn x y (unhide HLL) (by have := unhide HLL; omega) (by have := unhide HLL; omega))
  rw [hA5] at C5
  dsimp only at C5
  have C6 := hide (fun (W : World) (v1 uf v2 v : Value) (x : DIn W ⟨db, fl, has, jr⟩ v1 uf v2) (y : StsR (fun _ => True) W v l) => implTo_in W ⟨db, fl, has, jr⟩ v1 uf v2 v l ((l.length : Int) + 5) false x y (unhide HLL) (by have := unhide HLL; omega) (by have := unhide HLL; omega))
  rw [hA6] at C6
  dsimp only at C6
  have C7 := hide (fun (W : World) (v1 uf v2 v : Value) (x : DIn W ⟨db, fl, has, jr⟩ v1 uf v2) (y : StsR (fun _ => True) W v l) => implTo_in W ⟨db, fl, has, jr⟩ v1 uf v2 v l (-1) torn x y (unhide HLL) (by omega) (by omega))
  rw [hA7] at C7
  dsimp only at C7
  have hwr : IntKind.i64.wrap ((l.length : Int) + 5) = (l.length : Int) + 5 := by have := unhide HLL; simp [IntKind.wrap, IntKind.bits, IntKind.signed]; omega
  clear hA hA3 hA4 hA5 hA6 hA7 h1 h2 h3 HC0 HC1
  go_wp2_with fail
  generalize hX : u0.heap.size = X3 at *
  clear hX
  generalize World.alloc _ _ = u1 at *
  obtain ⟨x30, x31, x32, x33⟩ : _ ∧ _ ∧ _ ∧ _ := ⟨cellOf (unhide HB3) 0, cellOf (unhide HB3) 1, cellOf (unhide HB3) 2, cellOf (unhide HB3) 3⟩
  refine ((unhide CS) _ _ _ _ _ (unhide HD3) (unhide HS4)).mono ?_
  rintro e u2 ⟨q1, qf, q2, rfl, hd, b⟩
  replace HB3 := hide ((b.block _ (heapLt (unhide HB3))).trans (unhide HB3))
  replace HD3 := hide ((unhide HD3).later b)
  replace HS4 := hide ((unhide HS4).later b)
  replace BW := hide ((unhide BW).trans (b.mono (unhide BW).size))
  clear b
  clear x30 x31 x32 x33
  obtain ⟨qa, qx, qb, qy, qc, qz, i1, i2, i3⟩ := hd.forms
  (try dsimp only at i1 i2 i3)
  subst i1 i2 i3
  have HD7 := hide hd
  clear hd
  dsimp only [dkV]
  have bX := below1 u2 (.cells #[.slice qa db2.length qx, .slice qb fl2.length qy, .bool has2, .slice qc jr2.length qz] 31)
  have HB7 := hide (heap_alloc_new u2 (.cells #[.slice qa db2.length qx, .slice qb fl2.length qy, .bool has2, .slice qc jr2.length qz] 31))
  replace HB3 := hide ((bX.block _ (heapLt (unhide HB3))).trans (unhide HB3))
  replace HD3 := hide ((unhide HD3).later bX)
  replace HD7 := hide ((unhide HD7).later bX)
  replace HS4 := hide ((unhide HS4).later bX)
  replace BW := hide ((unhide BW).trans (bX.mono (unhide BW).size))
  clear bX
  obtain ⟨x30, x31, x32, x33⟩ : _ ∧ _ ∧ _ ∧ _ := ⟨cellOf (unhide HB3) 0, cellOf (unhide HB3) 1, cellOf (unhide HB3) 2, cellOf (unhide HB3) 3⟩
  go_wp2_with fail
  generalize u2.heap.size = X7 at *
  generalize u2.alloc _ = u3 at *
  refine ((unhide CI) _ _ _ _ _ (unhide HD3) (unhide HS4)).mono ?_
  rintro e u4 ⟨q1, qf, q2, rfl, hd, b⟩
  replace HB3 := hide ((b.block _ (heapLt (unhide HB3))).trans (unhide HB3))
  replace HB7 := hide ((b.block _ (heapLt (unhide HB7))).trans (unhide HB7))
  replace HD3 := hide ((unhide HD3).later b)
  replace HD7 := hide ((unhide HD7).later b)
  replace HS4 := hide ((unhide HS4).later b)
  replace BW := hide ((unhide BW).trans (b.mono (unhide BW).size))
  clear b
  clear x30 x31 x32 x33
  obtain ⟨ra, rx, rb, ry, rc, rz, i1, i2, i3⟩ := hd.forms
  (try dsimp only at i1 i2 i3)
  subst i1 i2 i3
  have HD9 := hide hd
  clear hd
  dsimp only [dkV]
  have bX := below1 u4 (.cells #[.slice ra db2.length rx, .slice rb fl2.length ry, .bool has2, .slice rc jr2.length rz] 31)
  have HB9 := hide (heap_alloc_new u4 (.cells #[.slice ra db2.length rx, .slice rb fl2.length ry, .bool has2, .slice rc jr2.length rz] 31))
  replace HB3 := hide ((bX.block _ (heapLt (unhide HB3))).trans (unhide HB3))
  replace HB7 := hide ((bX.block _ (heapLt (unhide HB7))).trans (unhide HB7))
  replace HD3 := hide ((unhide HD3).later bX)
  replace HD7 := hide ((unhide HD7).later bX)
  replace HD9 := hide ((unhide HD9).later bX)
  replace HS4 := hide ((unhide HS4).later bX)
  replace BW := hide ((unhide BW).trans (bX.mono (unhide BW).size))
  clear bX
  obtain ⟨x90, x91, x92, x93⟩ : _ ∧ _ ∧ _ ∧ _ := ⟨cellOf (unhide HB9) 0, cellOf (unhide HB9) 1, cellOf (unhide HB9) 2, cellOf (unhide HB9) 3⟩
  obtain ⟨x70, x71, x72, x73⟩ : _ ∧ _ ∧ _ ∧ _ := ⟨cellOf (unhide HB7) 0, cellOf (unhide HB7) 1, cellOf (unhide HB7) 2, cellOf (unhide HB7) 3⟩
  go_wp2_with fail
  generalize u4.heap.size = X9 at *
  generalize u4.alloc _ = u5 at *
  refine (luDisk_in _ ⟨db2, fl2, has2, jr2⟩ _ _ _ _ _ _ (unhide HD9) (unhide HD7)).mono ?_
  rintro e u6 ⟨rfl, b⟩
  replace HB3 := hide ((b.block _ (heapLt (unhide HB3))).trans (unhide HB3))
  replace HB7 := hide ((b.block _ (heapLt (unhide HB7))).trans (unhide HB7))
  replace HB9 := hide ((b.block _ (heapLt (unhide HB9))).trans (unhide HB9))
  replace HD3 := hide ((unhide HD3).later b)
  replace HD7 := hide ((unhide HD7).later b)
  replace HD9 := hide ((unhide HD9).later b)
  replace HS4 := hide ((unhide HS4).later b)
  replace BW := hide ((unhide BW).trans (b.mono (unhide BW).size))
  clear b
  clear x90 x91 x92 x93
  clear x70 x71 x72 x73
  -- region 8
  obtain ⟨x30, x31, x32, x33⟩ : _ ∧ _ ∧ _ ∧ _ := ⟨cellOf (unhide HB3) 0, cellOf (unhide HB3) 1, cellOf (unhide HB3) 2, cellOf (unhide HB3) 3⟩
  go_wp2_with fail
  refine ((unhide C3) _ _ _ _ _ (unhide HD3) (stsR_nil _ _)).mono ?_
  rintro e u7 ⟨q1, qf, q2, rfl, hd, b⟩
  replace HB3 := hide ((b.block _ (heapLt (unhide HB3))).trans (unhide HB3))
  replace HB7 := hide ((b.block _ (heapLt (unhide HB7))).trans (unhide HB7))
  replace HB9 := hide ((b.block _ (heapLt (unhide HB9))).trans (unhide HB9))
  replace HD3 := hide ((unhide HD3).later b)
  replace HD7 := hide ((unhide HD7).later b)
  replace HD9 := hide ((unhide HD9).later b)
  replace HS4 := hide ((unhide HS4).later b)
  replace BW := hide ((unhide BW).trans (b.mono (unhide BW).size))
  clear b
  clear x30 x31 x32 x33
  obtain ⟨vaa, vax, vab, vay, vac, vaz, i1, i2, i3⟩ := hd.forms
  (try dsimp only at i1 i2 i3)
  subst i1 i2 i3
  have HD11 := hide hd
  clear hd
  dsimp only [dkV]
  have bX := below1 u7 (.cells #[.slice vaa db.length vax, .slice vab fl.length vay, .bool has, .slice vac jr.length vaz] 31)
  have HB11 := hide (heap_alloc_new u7 (.cells #[.slice vaa db.length vax, .slice vab fl.length vay, .bool has, .slice vac jr.length vaz] 31))
  replace HB3 := hide ((bX.block _ (heapLt (unhide HB3))).trans (unhide HB3))
  replace HB7 := hide ((bX.block _ (heapLt (unhide HB7))).trans (unhide HB7))
  replace HB9 := hide ((bX.block _ (heapLt (unhide HB9))).trans (unhide HB9))
  replace HD3 := hide ((unhide HD3).later bX)
  replace HD7 := hide ((unhide HD7).later bX)
  replace HD9 := hide ((unhide HD9).later bX)
  replace HD11 := hide ((unhide HD11).later bX)
  replace HS4 := hide ((unhide HS4).later bX)
  replace BW := hide ((unhide BW).trans (bX.mono (unhide BW).size))
  clear bX
  obtain ⟨x30, x31, x32, x33⟩ : _ ∧ _ ∧ _ ∧ _ := ⟨cellOf (unhide HB3) 0, cellOf (unhide HB3) 1, cellOf (unhide HB3) 2, cellOf (unhide HB3) 3⟩
  go_wp2_with fail
  generalize u7.heap.size = X11 at *
  generalize u7.alloc _ = u8 at *
  clear x30 x31 x32 x33
  obtain ⟨x30, x31, x32, x33⟩ : _ ∧ _ ∧ _ ∧ _ := ⟨cellOf (unhide HB3) 0, cellOf (unhide HB3) 1, cellOf (unhide HB3) 2, cellOf (unhide HB3) 3⟩
  go_wp2_with fail
  refine ((unhide C4) _ _ _ _ _ (unhide HD3) (unhide HS4)).mono ?_
  rintro e u9 ⟨q1, qf, q2, rfl, hd, b⟩
  replace HB3 := hide ((b.block _ (heapLt (unhide HB3))).trans (unhide HB3))
  replace HB7 := hide ((b.block _ (heapLt (unhide HB7))).trans (unhide HB7))
  replace HB9 := hide ((b.block _ (heapLt (unhide HB9))).trans (unhide HB9))
  replace HB11 := hide ((b.block _ (heapLt (unhide HB11))).trans (unhide HB11))
  replace HD3 := hide ((unhide HD3).later b)
  replace HD7 := hide ((unhide HD7).later b)
  replace HD9 := hide ((unhide HD9).later b)
  replace HD11 := hide ((unhide HD11).later b)
  replace HS4 := hide ((unhide HS4).later b)
  replace BW := hide ((unhide BW).trans (b.mono (unhide BW).size))
  clear b
  clear x30 x31 x32 x33
  obtain ⟨vba, vbx, vbb, vby, vbc, vbz, i1, i2, i3⟩ := hd.forms
  (try dsimp only at i1 i2 i3)
  subst i1 i2 i3
  have HD13 := hide hd
  clear hd
  dsimp only [dkV]
  have bX := below1 u9 (.cells #[.slice vba db.length vbx, .slice vbb fl.length vby, .bool has, .slice vbc jr.length vbz] 31)
  have HB13 := hide (heap_alloc_new u9 (.cells #[.slice vba db.length vbx, .slice vbb fl.length vby, .bool has, .slice vbc jr.length vbz] 31))
  replace HB3 := hide ((bX.block _ (heapLt (unhide HB3))).trans (unhide HB3))
  replace HB7 := hide ((bX.block _ (heapLt (unhide HB7))).trans (unhide HB7))
  replace HB9 := hide ((bX.block _ (heapLt (unhide HB9))).trans (unhide HB9))
  replace HB11 := hide ((bX.block _ (heapLt (unhide HB11))).trans (unhide HB11))
  replace HD3 := hide ((unhide HD3).later bX)
  replace HD7 := hide ((unhide HD7).later bX)
  replace HD9 := hide ((unhide HD9).later bX)
  replace HD11 := hide ((unhide HD11).later bX)
  replace HD13 := hide ((unhide HD13).later bX)
  replace HS4 := hide ((unhide HS4).later bX)
  replace BW := hide ((unhide BW).trans (bX.mono (unhide BW).size))
  clear bX
  obtain ⟨x30, x31, x32, x33⟩ : _ ∧ _ ∧ _ ∧ _ := ⟨cellOf (unhide HB3) 0, cellOf (unhide HB3) 1, cellOf (unhide HB3) 2, cellOf (unhide HB3) 3⟩
  go_wp2_with fail
  generalize u9.heap.size = X13 at *
  generalize u9.alloc _ = u10 at *
  clear x30 x31 x32 x33
  obtain ⟨x30, x31, x32, x33⟩ : _ ∧ _ ∧ _ ∧ _ := ⟨cellOf (unhide HB3) 0, cellOf (unhide HB3) 1, cellOf (unhide HB3) 2, cellOf (unhide HB3) 3⟩
  go_wp2_with fail
  refine ((unhide C5) _ _ _ _ _ (unhide HD3) (unhide HS4)).mono ?_
  rintro e u11 ⟨q1, qf, q2, rfl, hd, b⟩
  replace HB3 := hide ((b.block _ (heapLt (unhide HB3))).trans (unhide HB3))
  replace HB7 := hide ((b.block _ (heapLt (unhide HB7))).trans (unhide HB7))
  replace HB9 := hide ((b.block _ (heapLt (unhide HB9))).trans (unhide HB9))
  replace HB11 := hide ((b.block _ (heapLt (unhide HB11))).trans (unhide HB11))
  replace HB13 := hide ((b.block _ (heapLt (unhide HB13))).trans (unhide HB13))
  replace HD3 := hide ((unhide HD3).later b)
  replace HD7 := hide ((unhide HD7).later b)
  replace HD9 := hide ((unhide HD9).later b)
  replace HD11 := hide ((unhide HD11).later b)
  replace HD13 := hide ((unhide HD13).later b)
  replace HS4 := hide ((unhide HS4).later b)
  replace BW := hide ((unhide BW).trans (b.mono (unhide BW).size))
  clear b
  clear x30 x31 x32 x33
  obtain ⟨vca, vcx, vcb, vcy, vcc, vcz, i1, i2, i3⟩ := hd.forms
  (try dsimp only at i1 i2 i3)
  subst i1 i2 i3
  have HD15 := hide hd
  clear hd
  dsimp only [dkV]
  have bX := below1 u11 (.cells #[.slice vca db5.length vcx, .slice vcb fl5.length vcy, .bool has5, .slice vcc jr5.length vcz] 31)
  have HB15 := hide (heap_alloc_new u11 (.cells #[.slice vca db5.length vcx, .slice vcb fl5.length vcy, .bool has5, .slice vcc jr5.length vcz] 31))
  replace HB3 := hide ((bX.block _ (heapLt (unhide HB3))).trans (unhide HB3))
  replace HB7 := hide ((bX.block _ (heapLt (unhide HB7))).trans (unhide HB7))
  replace HB9 := hide ((bX.block _ (heapLt (unhide HB9))).trans (unhide HB9))
  replace HB11 := hide ((bX.block _ (heapLt (unhide HB11))).trans (unhide HB11))
  replace HB13 := hide ((bX.block _ (heapLt (unhide HB13))).trans (unhide HB13))
  replace HD3 := hide ((unhide HD3).later bX)
  replace HD7 := hide ((unhide HD7).later bX)
  replace HD9 := hide ((unhide HD9).later bX)
  replace HD11 := hide ((unhide HD11).later bX)
  replace HD13 := hide ((unhide HD13).later bX)
  replace HD15 := hide ((unhide HD15).later bX)
  replace HS4 := hide ((unhide HS4).later bX)
  replace BW := hide ((unhide BW).trans (bX.mono (unhide BW).size))
  clear bX
  obtain ⟨x30, x31, x32, x33⟩ : _ ∧ _ ∧ _ ∧ _ := ⟨cellOf (unhide HB3) 0, cellOf (unhide HB3) 1, cellOf (unhide HB3) 2, cellOf (unhide HB3) 3⟩
  go_wp2_with fail
  generalize u11.heap.size = X15 at *
  generalize u11.alloc _ = u12 at *
  clear x30 x31 x32 x33
  obtain ⟨x30, x31, x32, x33⟩ : _ ∧ _ ∧ _ ∧ _ := ⟨cellOf (unhide HB3) 0, cellOf (unhide HB3) 1, cellOf (unhide HB3) 2, cellOf (unhide HB3) 3⟩
  go_wp2_with fail
  refine ((unhide C6) _ _ _ _ _ (unhide HD3) (unhide HS4)).mono ?_
  rintro e u13 ⟨q1, qf, q2, rfl, hd, b⟩
  replace HB3 := hide ((b.block _ (heapLt (unhide HB3))).trans (unhide HB3))
  replace HB7 := hide ((b.block _ (heapLt (unhide HB7))).trans (unhide HB7))
  replace HB9 := hide ((b.block _ (heapLt (unhide HB9))).trans (unhide HB9))
  replace HB11 := hide ((b.block _ (heapLt (unhide HB11))).trans (unhide HB11))
  replace HB13 := hide ((b.block _ (heapLt (unhide HB13))).trans (unhide HB13))
  replace HB15 := hide ((b.block _ (heapLt (unhide HB15))).trans (unhide HB15))
  replace HD3 := hide ((unhide HD3).later b)
  replace HD7 := hide ((unhide HD7).later b)
  replace HD9 := hide ((unhide HD9).later b)
  replace HD11 := hide ((unhide HD11).later b)
  replace HD13 := hide ((unhide HD13).later b)
  replace HD15 := hide ((unhide HD15).later b)
  replace HS4 := hide ((unhide HS4).later b)
  replace BW := hide ((unhide BW).trans (b.mono (unhide BW).size))
  clear b
  clear x30 x31 x32 x33
  obtain ⟨vda, vdx, vdb, vdy, vdc, vdz, i1, i2, i3⟩ := hd.forms
  (try dsimp only at i1 i2 i3)
  subst i1 i2 i3
  have HD17 := hide hd
  clear hd
  dsimp only [dkV]
  have bX := below1 u13 (.cells #[.slice vda db5.length vdx, .slice vdb fl5.length vdy, .bool has5, .slice vdc jr5.length vdz] 31)
  have HB17 := hide (heap_alloc_new u13 (.cells #[.slice vda db5.length vdx, .slice vdb fl5.length vdy, .bool has5, .slice vdc jr5.length vdz] 31))
  replace HB3 := hide ((bX.block _ (heapLt (unhide HB3))).trans (unhide HB3))
  replace HB7 := hide ((bX.block _ (heapLt (unhide HB7))).trans (unhide HB7))
  replace HB9 := hide ((bX.block _ (heapLt (unhide HB9))).trans (unhide HB9))
  replace HB11 := hide ((bX.block _ (heapLt (unhide HB11))).trans (unhide HB11))
  replace HB13 := hide ((bX.block _ (heapLt (unhide HB13))).trans (unhide HB13))
  replace HB15 := hide ((bX.block _ (heapLt (unhide HB15))).trans (unhide HB15))
  replace HD3 := hide ((unhide HD3).later bX)
  replace HD7 := hide ((unhide HD7).later bX)
  replace HD9 := hide ((unhide HD9).later bX)
  replace HD11 := hide ((unhide HD11).later bX)
  replace HD13 := hide ((unhide HD13).later bX)
  replace HD15 := hide ((unhide HD15).later bX)
  replace HD17 := hide ((unhide HD17).later bX)
  replace HS4 := hide ((unhide HS4).later bX)
  replace BW := hide ((unhide BW).trans (bX.mono (unhide BW).size))
  clear bX
  obtain ⟨x30, x31, x32, x33⟩ : _ ∧ _ ∧ _ ∧ _ := ⟨cellOf (unhide HB3) 0, cellOf (unhide HB3) 1, cellOf (unhide HB3) 2, cellOf (unhide HB3) 3⟩
  go_wp2_with fail
  generalize u13.heap.size = X17 at *
  generalize u13.alloc _ = u14 at *
  clear x30 x31 x32 x33
  obtain ⟨x30, x31, x32, x33⟩ : _ ∧ _ ∧ _ ∧ _ := ⟨cellOf (unhide HB3) 0, cellOf (unhide HB3) 1, cellOf (unhide HB3) 2, cellOf (unhide HB3) 3⟩
  go_wp2_with fail
  refine ((unhide C7) _ _ _ _ _ (unhide HD3) (unhide HS4)).mono ?_
  rintro e u15 ⟨q1, qf, q2, rfl, hd, b⟩
  replace HB3 := hide ((b.block _ (heapLt (unhide HB3))).trans (unhide HB3))
  replace HB7 := hide ((b.block _ (heapLt (unhide HB7))).trans (unhide HB7))
  replace HB9 := hide ((b.block _ (heapLt (unhide HB9))).trans (unhide HB9))
  replace HB11 := hide ((b.block _ (heapLt (unhide HB11))).trans (unhide HB11))
  replace HB13 := hide ((b.block _ (heapLt (unhide HB13))).trans (unhide HB13))
  replace HB15 := hide ((b.block _ (heapLt (unhide HB15))).trans (unhide HB15))
  replace HB17 := hide ((b.block _ (heapLt (unhide HB17))).trans (unhide HB17))
  replace HD3 := hide ((unhide HD3).later b)
  replace HD7 := hide ((unhide HD7).later b)
  replace HD9 := hide ((unhide HD9).later b)
  replace HD11 := hide ((unhide HD11).later b)
  replace HD13 := hide ((unhide HD13).later b)
  replace HD15 := hide ((unhide HD15).later b)
  replace HD17 := hide ((unhide HD17).later b)
  replace HS4 := hide ((unhide HS4).later b)
  replace BW := hide ((unhide BW).trans (b.mono (unhide BW).size))
  clear b
  clear x30 x31 x32 x33
  obtain ⟨vfa, vfx, vfb, vfy, vfc, vfz, i1, i2, i3⟩ := hd.forms
  (try dsimp only at i1 i2 i3)
  subst i1 i2 i3
  have HD19 := hide hd
  clear hd
  dsimp only [dkV]
  have bX := below1 u15 (.cells #[.slice vfa db9.length vfx, .slice vfb fl9.length vfy, .bool has9, .slice vfc jr9.length vfz] 31)
  have HB19 := hide (heap_alloc_new u15 (.cells #[.slice vfa db9.length vfx, .slice vfb fl9.length vfy, .bool has9, .slice vfc jr9.length vfz] 31))
  replace HB3 := hide ((bX.block _ (heapLt (unhide HB3))).trans (unhide HB3))
  replace HB7 := hide ((bX.block _ (heapLt (unhide HB7))).trans (unhide HB7))
  replace HB9 := hide ((bX.block _ (heapLt (unhide HB9))).trans (unhide HB9))
  replace HB11 := hide ((bX.block _ (heapLt (unhide HB11))).trans (unhide HB11))
  replace HB13 := hide ((bX.block _ (heapLt (unhide HB13))).trans (unhide HB13))
  replace HB15 := hide ((bX.block _ (heapLt (unhide HB15))).trans (unhide HB15))
  replace HB17 := hide ((bX.block _ (heapLt (unhide HB17))).trans (unhide HB17))
  replace HD3 := hide ((unhide HD3).later bX)
  replace HD7 := hide ((unhide HD7).later bX)
  replace HD9 := hide ((unhide HD9).later bX)
  replace HD11 := hide ((unhide HD11).later bX)
  replace HD13 := hide ((unhide HD13).later bX)
  replace HD15 := hide ((unhide HD15).later bX)
  replace HD17 := hide ((unhide HD17).later bX)
  replace HD19 := hide ((unhide HD19).later bX)
  replace HS4 := hide ((unhide HS4).later bX)
  replace BW := hide ((unhide BW).trans (bX.mono (unhide BW).size))
  clear bX
  obtain ⟨x110, x111, x112, x113⟩ : _ ∧ _ ∧ _ ∧ _ := ⟨cellOf (unhide HB11) 0, cellOf (unhide HB11) 1, cellOf (unhide HB11) 2, cellOf (unhide HB11) 3⟩
  obtain ⟨x30, x31, x32, x33⟩ : _ ∧ _ ∧ _ ∧ _ := ⟨cellOf (unhide HB3) 0, cellOf (unhide HB3) 1, cellOf (unhide HB3) 2, cellOf (unhide HB3) 3⟩
  go_wp2_with fail
  generalize u15.heap.size = X19 at *
  generalize u15.alloc _ = u16 at *
  refine (luDisk_in _ ⟨db, fl, has, jr⟩ _ _ _ _ _ _ (unhide HD11) (unhide HD3)).mono ?_
  rintro e u17 ⟨rfl, b⟩
  replace HB3 := hide ((b.block _ (heapLt (unhide HB3))).trans (unhide HB3))
  replace HB7 := hide ((b.block _ (heapLt (unhide HB7))).trans (unhide HB7))
  replace HB9 := hide ((b.block _ (heapLt (unhide HB9))).trans (unhide HB9))
  replace HB11 := hide ((b.block _ (heapLt (unhide HB11))).trans (unhide HB11))
  replace HB13 := hide ((b.block _ (heapLt (unhide HB13))).trans (unhide HB13))
  replace HB15 := hide ((b.block _ (heapLt (unhide HB15))).trans (unhide HB15))
  replace HB17 := hide ((b.block _ (heapLt (unhide HB17))).trans (unhide HB17))
  replace HB19 := hide ((b.block _ (heapLt (unhide HB19))).trans (unhide HB19))
  replace HD3 := hide ((unhide HD3).later b)
  replace HD7 := hide ((unhide HD7).later b)
  replace HD9 := hide ((unhide HD9).later b)
  replace HD11 := hide ((unhide HD11).later b)
  replace HD13 := hide ((unhide HD13).later b)
  replace HD15 := hide ((unhide HD15).later b)
  replace HD17 := hide ((unhide HD17).later b)
  replace HD19 := hide ((unhide HD19).later b)
  replace HS4 := hide ((unhide HS4).later b)
  replace BW := hide ((unhide BW).trans (b.mono (unhide BW).size))
  clear b
  clear x110 x111 x112 x113
  clear x30 x31 x32 x33
  obtain ⟨x130, x131, x132, x133⟩ : _ ∧ _ ∧ _ ∧ _ := ⟨cellOf (unhide HB13) 0, cellOf (unhide HB13) 1, cellOf (unhide HB13) 2, cellOf (unhide HB13) 3⟩
  obtain ⟨x30, x31, x32, x33⟩ : _ ∧ _ ∧ _ ∧ _ := ⟨cellOf (unhide HB3) 0, cellOf (unhide HB3) 1, cellOf (unhide HB3) 2, cellOf (unhide HB3) 3⟩
  go_wp2_with fail
  refine (luDisk_in _ ⟨db, fl, has, jr⟩ _ _ _ _ _ _ (unhide HD13) (unhide HD3)).mono ?_
  rintro e u18 ⟨rfl, b⟩
  replace HB3 := hide ((b.block _ (heapLt (unhide HB3))).trans (unhide HB3))
  replace HB7 := hide ((b.block _ (heapLt (unhide HB7))).trans (unhide HB7))
  replace HB9 := hide ((b.block _ (heapLt (unhide HB9))).trans (unhide HB9))
  replace HB11 := hide ((b.block _ (heapLt (unhide HB11))).trans (unhide HB11))
  replace HB13 := hide ((b.block _ (heapLt (unhide HB13))).trans (unhide HB13))
  replace HB15 := hide ((b.block _ (heapLt (unhide HB15))).trans (unhide HB15))
  replace HB17 := hide ((b.block _ (heapLt (unhide HB17))).trans (unhide HB17))
  replace HB19 := hide ((b.block _ (heapLt (unhide HB19))).trans (unhide HB19))
  replace HD3 := hide ((unhide HD3).later b)
  replace HD7 := hide ((unhide HD7).later b)
  replace HD9 := hide ((unhide HD9).later b)
  replace HD11 := hide ((unhide HD11).later b)
  replace HD13 := hide ((unhide HD13).later b)
  replace HD15 := hide ((unhide HD15).later b)
  replace HD17 := hide ((unhide HD17).later b)
  replace HD19 := hide ((unhide HD19).later b)
  replace HS4 := hide ((unhide HS4).later b)
  replace BW := hide ((unhide BW).trans (b.mono (unhide BW).size))
  clear b
  clear x130 x131 x132 x133
  clear x30 x31 x32 x33
  obtain ⟨x150, x151, x152, x153⟩ : _ ∧ _ ∧ _ ∧ _ := ⟨cellOf (unhide HB15) 0, cellOf (unhide HB15) 1, cellOf (unhide HB15) 2, cellOf (unhide HB15) 3⟩
  obtain ⟨x170, x171, x172, x173⟩ : _ ∧ _ ∧ _ ∧ _ := ⟨cellOf (unhide HB17) 0, cellOf (unhide HB17) 1, cellOf (unhide HB17) 2, cellOf (unhide HB17) 3⟩
  go_wp2_with fail
  refine (luDisk_in _ ⟨db5, fl5, has5, jr5⟩ _ _ _ _ _ _ (unhide HD15) (unhide HD17)).mono ?_
  rintro e u19 ⟨rfl, b⟩
  replace HB3 := hide ((b.block _ (heapLt (unhide HB3))).trans (unhide HB3))
  replace HB7 := hide ((b.block _ (heapLt (unhide HB7))).trans (unhide HB7))
  replace HB9 := hide ((b.block _ (heapLt (unhide HB9))).trans (unhide HB9))
  replace HB11 := hide ((b.block _ (heapLt (unhide HB11))).trans (unhide HB11))
  replace HB13 := hide ((b.block _ (heapLt (unhide HB13))).trans (unhide HB13))
  replace HB15 := hide ((b.block _ (heapLt (unhide HB15))).trans (unhide HB15))
  replace HB17 := hide ((b.block _ (heapLt (unhide HB17))).trans (unhide HB17))
  replace HB19 := hide ((b.block _ (heapLt (unhide HB19))).trans (unhide HB19))
  replace HD3 := hide ((unhide HD3).later b)
  replace HD7 := hide ((unhide HD7).later b)
  replace HD9 := hide ((unhide HD9).later b)
  replace HD11 := hide ((unhide HD11).later b)
  replace HD13 := hide ((unhide HD13).later b)
  replace HD15 := hide ((unhide HD15).later b)
  replace HD17 := hide ((unhide HD17).later b)
  replace HD19 := hide ((unhide HD19).later b)
  replace HS4 := hide ((unhide HS4).later b)
  replace BW := hide ((unhide BW).trans (b.mono (unhide BW).size))
  clear b
  clear x150 x151 x152 x153
  clear x170 x171 x172 x173
  go_wp2
  go_ret
  exact ⟨rfl, unhide BW⟩
end Go.Proofs.YtkhanndmbpemfaaGreatDoor

/- How what came in is read: a row of bytes. -/
namespace Go.Proofs.YtkhanndmbpemfaaGreatDoor
open Go.RowKit Go.ChangeShapes Go.WideShapes

set_option maxRecDepth 100000 in
theorem open_bytes {H : Type} {enc : TypeId × Value → H} {W : World} {base b0 : Nat} {r : Reach} {spare : Nat → Bool} {held : Bool} {v : Value} {d : DataW H} {p : List MemPlace} (hv : Value.okWide Tryz.prog W r b0 42 v)
    (h : DataW.Trod enc Tryz.prog W base spare held 42 v d p) : ∃ a n c, v = .slice a n c ∧ Bytes W a n c := by
  obtain ⟨a0, len0, cap0, rfl⟩ := okWide_slice Tryz.underlying42 hv
  refine ⟨a0, len0, cap0, rfl, ?_⟩
  obtain ⟨fuel, hf⟩ := h
  rcases open_ints Tryz.underlying42 Tryz.underlying5 (by kernel_rfl) hf with ⟨hcs, _⟩ | ⟨x, l, c, zs, hcs, _, hl, hm, hz, _, hc, hwf⟩
  · simp [Value.cells] at hcs
    obtain ⟨rfl, rfl, rfl⟩ := hcs
    exact ⟨Nat.le_refl _, Nat.zero_le _, fun h => absurd h (Nat.lt_irrefl _)⟩
  · simp [Value.cells] at hcs
    obtain ⟨rfl, rfl, rfl⟩ := hcs
    refine ⟨hl, hm, fun hp => ?_⟩
    have hlz : len0 ≤ zs.length := by rw [hz]; split <;> omega
    obtain ⟨b, off, spot⟩ := x
    have h0 := hc 0 (by omega)
    have hspot : spot = none := by simpa [Addr.add] using World.cell?_spot h0
    subst hspot
    refine ⟨b, off, rfl, cell_lt (by simpa [Addr.add] using h0), fun i hi => ⟨zs.getD i 0, ?_⟩⟩
    have hw := hwf (zs.getD i 0) (by rw [List.getD_eq_getElem?_getD, List.getElem?_eq_getElem (by omega)]; exact List.getElem_mem _)
    have hb := bounds_u8 hw
    have hadd : (⟨b, off, none⟩ : Addr).add i = ⟨b, off + i, none⟩ := by unfold Addr.add; split <;> simp_all
    exact ⟨hb.1, by omega, by rw [← hadd]; exact hc i (by omega)⟩
end Go.Proofs.YtkhanndmbpemfaaGreatDoor
