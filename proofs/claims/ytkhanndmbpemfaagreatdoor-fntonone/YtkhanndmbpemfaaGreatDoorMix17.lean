import Derived.Test.YtkhanndmbpemfaaGreatDoorMix16
import Derived.Test.YtkhanndmbpemfaaGreatDoorMix9
import Derived.Test.YtkhanndmbpemfaaGreatDoorMix2
import Derived.Maps.OwnSet
import Derived.Maps.OwnOps
import Derived.Maps.Views
/- What each method of a disk that is written to does to it. -/
namespace Go.Proofs.YtkhanndmbpemfaaGreatDoor
open Go.RowKit

attribute [local go_sem ↓] Go.wp_at_zero Go.wp_at_succ

theorem OwI.put {B : Nat} {w : World} {g c : Nat} {fl : List Int} {p : Nat} {x : Int} (h : OwI B w (.slice (some ⟨g, 0, none⟩) fl.length c) fl) : OwI B (w.setCell ⟨g, p, none⟩ (.int .i64 x)) (.slice (some ⟨g, 0, none⟩) fl.length c) (fl.set p x) ∧ w.grownBy (w.setCell ⟨g, p, none⟩ (.int .i64 x)) (some g) := by
  have hs := h.stored p (.int .i64 x)
  refine ⟨?_, hs.2⟩
  show World.ownsRow _ _ _ _ _ (fl.set p x).length ((fl.set p x).map (Value.int .i64))
  rw [List.length_set, List.map_set]
  exact hs.1

set_option maxHeartbeats 4000000 in
set_option maxRecDepth 100000 in
theorem writeM_any {B : Nat} (w : World) (O : Nat) (has : Bool) (v2 v1 vf : Value) (e1 e2 : List El) (fl : List Int) (k p x : Int) (sa : Option Addr) (sc : Nat) (ps : List Ix.Pg) (h : Op B w O has v2 v1 vf e1 fl e2) (hB : B ≤ w.heap.size) (p0 : 0 ≤ p) (p1 : p < fl.length) :
    Calls Tryz.prog 67 #[.pointer (some ⟨O, 0, none⟩), .agg #[.int .i64 k, .int .i64 p, .int .i64 x, .slice sa ps.length sc]] w fun e w' => ∃ v, e = .returned v ∧ Op B w' O has v2 v1 vf e1 (fl.set p.toNat x) e2 ∧ Below B w w' := by
  have b0 := below1 w (.cells #[.int .i64 k, .int .i64 p, .int .i64 x, .slice sa ps.length sc] 47)
  have HS := hide (heap_alloc_new w (.cells #[.int .i64 k, .int .i64 p, .int .i64 x, .slice sa ps.length sc] 47))
  have HO := hide (h.later b0)
  have BW := hide (b0.mono hB)
  obtain ⟨g, c, hv, hBg, hgl⟩ := h.ans.pf.form (by omega)
  subst hv
  obtain ⟨n, rfl⟩ := Int.eq_ofNat_of_zero_le p0
  have hn : n < fl.length := by omega
  have hne : g ≠ O := fun e => own_ne h.ans.pf h.box (by decide) (by rw [e]; rfl)
  have hneS : g ≠ w.heap.size := by omega
  have hneO : O ≠ w.heap.size := by have := heapLt h.box; omega
  clear h b0
  go_enter Tryz.func67, Tryz.ntmps67
  go_wp2_with fail
  generalize w.alloc _ = W0 at *
  have hd := below_drew W0
  have HO1 := hide ((unhide HO).later hd)
  have HB1 := hide ((unhide BW).trans (hd.mono (by have := (unhide BW).size; omega)))
  have hs := hd.trans (Below.refl _ _)
  have cS := (hd.block _ (heapLt (unhide HS))).trans (unhide HS)
  have HS1 := hide cS
  have hpt := OwI.put (p := n) (x := x) (unhide HO1).ans.pf
  have q0 : W0.drew.cell? ⟨g, n, none⟩ = some (.int .i64 (Ky.nth fl n)) := by
    rw [(unhide HO1).ans.pf.cellAt n (by omega), List.getElem?_map, List.getElem?_eq_getElem hn]
    unfold Ky.nth
    rw [List.getD_eq_getElem?_getD, List.getElem?_eq_getElem hn]
    rfl
  have q1 : W0.drew.frozen? ⟨g, n, none⟩ = false := (unhide HO1).ans.pf.frozenAt n
  have HO2 : Hid (Op B (W0.drew.setCell ⟨g, n, none⟩ (.int .i64 x)) O has v2 v1 (.slice (some ⟨g, 0, none⟩) fl.length c) e1 (fl.set n x) e2) :=
    ⟨(Below.heap_setCell _ _ _ _ (fun e => hne e.symm)).trans (unhide HO1).box, (unhide HO1).lo, ⟨(unhide HO1).ans.p1.staysI (unhide HO1).ans.pf hpt.2, hpt.1, (unhide HO1).ans.p2.staysI (unhide HO1).ans.pf hpt.2, (unhide HO1).ans.far⟩⟩
  have HB2 := hide (below_set (o := n) (u := .int .i64 x) (unhide HB1) hBg)
  have hi0 : (0 : Int) ≤ (n : Int) := Int.natCast_nonneg _
  have hi1 : (n : Int) < (fl.length : Int) := by omega
  have hSS : W0.drew.cell? ⟨O, 3, none⟩ = some (.slice (some ⟨g, 0, none⟩) fl.length c) ∧ W0.drew.cell? ⟨w.heap.size, 1, none⟩ = some (.int .i64 (n : Int)) ∧ W0.drew.cell? ⟨w.heap.size, 2, none⟩ = some (.int .i64 x) := ⟨cellOf (unhide HO1).box 3, cellOf cS 1, cellOf cS 2⟩
  clear hd hs cS hpt HO BW HS
  refine wl_region (S := fun w' => w'.cell? ⟨O, 3, none⟩ = some (.slice (some ⟨g, 0, none⟩) fl.length c) ∧ w'.cell? ⟨w.heap.size, 1, none⟩ = some (.int .i64 (n : Int)) ∧ w'.cell? ⟨w.heap.size, 2, none⟩ = some (.int .i64 x)) (s := 9) (by kernel_rfl) hSS (fun hHeld => ?_)
  clear hSS
  refine wl_take (i := 0) (d := some 4) rfl rfl (by kernel_rfl) (by kernel_rfl) (by kernel_rfl) (by kernel_rfl) (by kernel_rfl) (fun _ _ _ h => h) (by rfl) (v := ?_) ?_ (by assumption) ?_
  rotate_left
  · (intro w hSw; (try dsimp only at hSw); go_simp <;> with_reducible rfl)
  simp only [Act.put, List.setIfInBounds_toArray, List.set_cons_zero, List.set_cons_succ]
  refine wl_take (i := 1) (d := some 5) rfl rfl (by kernel_rfl) (by kernel_rfl) (by kernel_rfl) (by kernel_rfl) (by kernel_rfl) (fun _ _ _ h => h) (by rfl) (v := ?_) ?_ (by assumption) ?_
  rotate_left
  · (intro w hSw; (try dsimp only at hSw); go_simp <;> with_reducible rfl)
  simp only [Act.put, List.setIfInBounds_toArray, List.set_cons_zero, List.set_cons_succ]
  refine wl_take (i := 2) (d := some 6) rfl rfl (by kernel_rfl) (by kernel_rfl) (by kernel_rfl) (by kernel_rfl) (by kernel_rfl) (fun _ _ _ h => h) (by rfl) (v := ?_) ?_ (by assumption) ?_
  rotate_left
  · (intro w hSw; (try dsimp only at hSw); go_simp <;> with_reducible rfl)
  simp only [Act.put, List.setIfInBounds_toArray, List.set_cons_zero, List.set_cons_succ]
  refine wl_take (i := 3) (d := some 7) rfl rfl (by kernel_rfl) (by kernel_rfl) (by kernel_rfl) (by kernel_rfl) (by kernel_rfl) (fun _ _ _ h => h) (by rfl) (v := ?_) ?_ (by assumption) ?_
  rotate_left
  · (intro w hSw; (try dsimp only at hSw); go_simp <;> with_reducible rfl)
  simp only [Act.put, List.setIfInBounds_toArray, List.set_cons_zero, List.set_cons_succ]
  refine wl_take (i := 4) (d := some 8) rfl rfl (by kernel_rfl) (by kernel_rfl) (by kernel_rfl) (by kernel_rfl) (by kernel_rfl) (fun _ _ _ h => h) (by rfl) (v := ?_) ?_ (by assumption) ?_
  rotate_left
  · (intro w hSw; (try dsimp only at hSw); go_simp <;> with_reducible rfl)
  simp only [Act.put, List.setIfInBounds_toArray, List.set_cons_zero, List.set_cons_succ]
  refine wl_take (i := 5) (d := some 9) rfl rfl (by kernel_rfl) (by kernel_rfl) (by kernel_rfl) (by kernel_rfl) (by kernel_rfl) (fun _ _ _ h => h) (by rfl) (v := ?_) ?_ (by assumption) ?_
  rotate_left
  · (intro w hSw; (try dsimp only at hSw); go_simp <;> with_reducible rfl)
  simp only [Act.put, List.setIfInBounds_toArray, List.set_cons_zero, List.set_cons_succ]
  refine wl_take (i := 6) (d := some 10) rfl rfl (by kernel_rfl) (by kernel_rfl) (by kernel_rfl) (by kernel_rfl) (by kernel_rfl) (fun _ _ _ h => h) (by rfl) (v := ?_) ?_ (by assumption) ?_
  rotate_left
  · (intro w hSw; (try dsimp only at hSw); go_simp <;> with_reducible rfl)
  simp only [Act.put, List.setIfInBounds_toArray, List.set_cons_zero, List.set_cons_succ]
  refine wl_take (i := 7) (d := some 11) rfl rfl (by kernel_rfl) (by kernel_rfl) (by kernel_rfl) (by kernel_rfl) (by kernel_rfl) (fun _ _ _ h => h) (by rfl) (v := ?_) ?_ (by assumption) ?_
  rotate_left
  · (intro w hSw; (try dsimp only at hSw); go_simp <;> with_reducible rfl)
  simp only [Act.put, List.setIfInBounds_toArray, List.set_cons_zero, List.set_cons_succ]
  refine wl_take (i := 8) (d := some 12) rfl rfl (by kernel_rfl) (by kernel_rfl) (by kernel_rfl) (by kernel_rfl) (by kernel_rfl) (fun _ _ _ h => h) (by rfl) (v := ?_) ?_ (by assumption) ?_
  rotate_left
  · (intro w hSw; (try dsimp only at hSw); go_simp <;> with_reducible rfl)
  simp only [Act.put, List.setIfInBounds_toArray, List.set_cons_zero, List.set_cons_succ]
  refine wl_one (i := 9) (by kernel_rfl) rfl (by rfl) (fun K hK => ?_)
  go_simp
  refine hK.out _ _ (fun h => absurd rfl h) ?_
  clear hK K
  refine wl_done (by kernel_rfl) ?_
  clear hHeld q0 q1
  go_wp2
  rw [Int.toNat_natCast]
  go_end0
  exact ⟨_, rfl, unhide HO2, unhide HB2⟩

set_option maxHeartbeats 4000000 in
set_option maxRecDepth 100000 in
theorem smearM_any {B : Nat} (w : World) (O : Nat) (has : Bool) (v2 v1 vf : Value) (e1 e2 : List El) (fl : List Int) (k p x : Int) (sa : Option Addr) (sc : Nat) (ps : List Ix.Pg) (h : Op B w O has v2 v1 vf e1 fl e2) (hB : B ≤ w.heap.size) (p0 : 0 ≤ p) (p1 : p < fl.length) :
    Calls Tryz.prog 71 #[.pointer (some ⟨O, 0, none⟩), .agg #[.int .i64 k, .int .i64 p, .int .i64 x, .slice sa ps.length sc]] w fun e w' => ∃ v, e = .returned v ∧ Op B w' O has v2 v1 vf e1 (fl.set p.toNat (-2)) e2 ∧ Below B w w' := by
  have b0 := below1 w (.cells #[.int .i64 k, .int .i64 p, .int .i64 x, .slice sa ps.length sc] 47)
  have HS := hide (heap_alloc_new w (.cells #[.int .i64 k, .int .i64 p, .int .i64 x, .slice sa ps.length sc] 47))
  have HO := hide (h.later b0)
  have BW := hide (b0.mono hB)
  obtain ⟨g, c, hv, hBg, hgl⟩ := h.ans.pf.form (by omega)
  subst hv
  obtain ⟨n, rfl⟩ := Int.eq_ofNat_of_zero_le p0
  have hn : n < fl.length := by omega
  have hne : g ≠ O := fun e => own_ne h.ans.pf h.box (by decide) (by rw [e]; rfl)
  have hneS : g ≠ w.heap.size := by omega
  have hneO : O ≠ w.heap.size := by have := heapLt h.box; omega
  clear h b0
  go_enter Tryz.func71, Tryz.ntmps71
  go_wp2_with fail
  generalize w.alloc _ = W0 at *
  have hd := below_drew W0
  have HO1 := hide ((unhide HO).later hd)
  have HB1 := hide ((unhide BW).trans (hd.mono (by have := (unhide BW).size; omega)))
  have hs := hd.trans (Below.refl _ _)
  have cS := (hd.block _ (heapLt (unhide HS))).trans (unhide HS)
  have HS1 := hide cS
  have hpt := OwI.put (p := n) (x := (-2)) (unhide HO1).ans.pf
  have q0 : W0.drew.cell? ⟨g, n, none⟩ = some (.int .i64 (Ky.nth fl n)) := by
    rw [(unhide HO1).ans.pf.cellAt n (by omega), List.getElem?_map, List.getElem?_eq_getElem hn]
    unfold Ky.nth
    rw [List.getD_eq_getElem?_getD, List.getElem?_eq_getElem hn]
    rfl
  have q1 : W0.drew.frozen? ⟨g, n, none⟩ = false := (unhide HO1).ans.pf.frozenAt n
  have HO2 : Hid (Op B (W0.drew.setCell ⟨g, n, none⟩ (.int .i64 (-2))) O has v2 v1 (.slice (some ⟨g, 0, none⟩) fl.length c) e1 (fl.set n (-2)) e2) :=
    ⟨(Below.heap_setCell _ _ _ _ (fun e => hne e.symm)).trans (unhide HO1).box, (unhide HO1).lo, ⟨(unhide HO1).ans.p1.staysI (unhide HO1).ans.pf hpt.2, hpt.1, (unhide HO1).ans.p2.staysI (unhide HO1).ans.pf hpt.2, (unhide HO1).ans.far⟩⟩
  have HB2 := hide (below_set (o := n) (u := .int .i64 (-2)) (unhide HB1) hBg)
  have hi0 : (0 : Int) ≤ (n : Int) := Int.natCast_nonneg _
  have hi1 : (n : Int) < (fl.length : Int) := by omega
  have hSS : W0.drew.cell? ⟨O, 3, none⟩ = some (.slice (some ⟨g, 0, none⟩) fl.length c) ∧ W0.drew.cell? ⟨w.heap.size, 1, none⟩ = some (.int .i64 (n : Int)) ∧ W0.drew.cell? ⟨w.heap.size, 2, none⟩ = some (.int .i64 x) := ⟨cellOf (unhide HO1).box 3, cellOf cS 1, cellOf cS 2⟩
  clear hd hs cS hpt HO BW HS
  refine wl_region (S := fun w' => w'.cell? ⟨O, 3, none⟩ = some (.slice (some ⟨g, 0, none⟩) fl.length c) ∧ w'.cell? ⟨w.heap.size, 1, none⟩ = some (.int .i64 (n : Int)) ∧ w'.cell? ⟨w.heap.size, 2, none⟩ = some (.int .i64 x)) (s := 7) (by kernel_rfl) hSS (fun hHeld => ?_)
  clear hSS
  refine wl_take (i := 0) (d := some 4) rfl rfl (by kernel_rfl) (by kernel_rfl) (by kernel_rfl) (by kernel_rfl) (by kernel_rfl) (fun _ _ _ h => h) (by rfl) (v := ?_) ?_ (by assumption) ?_
  rotate_left
  · (intro w hSw; (try dsimp only at hSw); go_simp <;> with_reducible rfl)
  simp only [Act.put, List.setIfInBounds_toArray, List.set_cons_zero, List.set_cons_succ]
  refine wl_take (i := 1) (d := some 5) rfl rfl (by kernel_rfl) (by kernel_rfl) (by kernel_rfl) (by kernel_rfl) (by kernel_rfl) (fun _ _ _ h => h) (by rfl) (v := ?_) ?_ (by assumption) ?_
  rotate_left
  · (intro w hSw; (try dsimp only at hSw); go_simp <;> with_reducible rfl)
  simp only [Act.put, List.setIfInBounds_toArray, List.set_cons_zero, List.set_cons_succ]
  refine wl_take (i := 2) (d := some 6) rfl rfl (by kernel_rfl) (by kernel_rfl) (by kernel_rfl) (by kernel_rfl) (by kernel_rfl) (fun _ _ _ h => h) (by rfl) (v := ?_) ?_ (by assumption) ?_
  rotate_left
  · (intro w hSw; (try dsimp only at hSw); go_simp <;> with_reducible rfl)
  simp only [Act.put, List.setIfInBounds_toArray, List.set_cons_zero, List.set_cons_succ]
  refine wl_take (i := 3) (d := some 7) rfl rfl (by kernel_rfl) (by kernel_rfl) (by kernel_rfl) (by kernel_rfl) (by kernel_rfl) (fun _ _ _ h => h) (by rfl) (v := ?_) ?_ (by assumption) ?_
  rotate_left
  · (intro w hSw; (try dsimp only at hSw); go_simp <;> with_reducible rfl)
  simp only [Act.put, List.setIfInBounds_toArray, List.set_cons_zero, List.set_cons_succ]
  refine wl_take (i := 4) (d := some 8) rfl rfl (by kernel_rfl) (by kernel_rfl) (by kernel_rfl) (by kernel_rfl) (by kernel_rfl) (fun _ _ _ h => h) (by rfl) (v := ?_) ?_ (by assumption) ?_
  rotate_left
  · (intro w hSw; (try dsimp only at hSw); go_simp <;> with_reducible rfl)
  simp only [Act.put, List.setIfInBounds_toArray, List.set_cons_zero, List.set_cons_succ]
  refine wl_take (i := 5) (d := some 9) rfl rfl (by kernel_rfl) (by kernel_rfl) (by kernel_rfl) (by kernel_rfl) (by kernel_rfl) (fun _ _ _ h => h) (by rfl) (v := ?_) ?_ (by assumption) ?_
  rotate_left
  · (intro w hSw; (try dsimp only at hSw); go_simp <;> with_reducible rfl)
  simp only [Act.put, List.setIfInBounds_toArray, List.set_cons_zero, List.set_cons_succ]
  refine wl_take (i := 6) (d := some 10) rfl rfl (by kernel_rfl) (by kernel_rfl) (by kernel_rfl) (by kernel_rfl) (by kernel_rfl) (fun _ _ _ h => h) (by rfl) (v := ?_) ?_ (by assumption) ?_
  rotate_left
  · (intro w hSw; (try dsimp only at hSw); go_simp <;> with_reducible rfl)
  simp only [Act.put, List.setIfInBounds_toArray, List.set_cons_zero, List.set_cons_succ]
  refine wl_one (i := 7) (by kernel_rfl) rfl (by rfl) (fun K hK => ?_)
  go_simp
  refine hK.out _ _ (fun h => absurd rfl h) ?_
  clear hK K
  refine wl_done (by kernel_rfl) ?_
  clear hHeld q0 q1
  go_wp2
  rw [Int.toNat_natCast]
  go_end0
  exact ⟨_, rfl, unhide HO2, unhide HB2⟩

set_option maxHeartbeats 4000000 in
set_option maxRecDepth 100000 in
theorem putInM_any {B : Nat} (w : World) (O : Nat) (has : Bool) (v2 v1 vf : Value) (e1 e2 : List El) (fl : List Int) (k p x : Int) (sa : Option Addr) (sc : Nat) (ps : List Ix.Pg) (h : Op B w O has v2 v1 vf e1 fl e2) (hB : B ≤ w.heap.size) (hp : Pks (fun _ => True) w (.slice sa ps.length sc) ps) (hl : ps.length ≤ 1000) :
    Calls Tryz.prog 68 #[.pointer (some ⟨O, 0, none⟩), .agg #[.int .i64 k, .int .i64 p, .int .i64 x, .slice sa ps.length sc]] w fun e w' => ∃ v, e = .returned v ∧ (∃ u els, els.map (·.1) = ps ∧ Op B w' O has v2 u vf els fl e2) ∧ Below B w w' := by
  have b0 := below1 w (.cells #[.int .i64 k, .int .i64 p, .int .i64 x, .slice sa ps.length sc] 47)
  have HS := hide (heap_alloc_new w (.cells #[.int .i64 k, .int .i64 p, .int .i64 x, .slice sa ps.length sc] 47))
  have HO := hide (h.later b0)
  have BW := hide (b0.mono hB)
  have CC := hide (copyPkgs_any _ _ ps (hp.later b0) hl)
  clear h b0 hp
  go_enter Tryz.func68, Tryz.ntmps68
  go_wp2_with fail
  refine (unhide CC).mono ?_
  generalize w.alloc _ = W0 at *
  rintro e w1 ⟨u, els, rfl, hP, hm, b⟩
  obtain ⟨ua, uc, hu⟩ := own_formS hP.own
  subst hu
  have hlt1 : ∀ g, blkP v1 e1 g → g < W0.heap.size := fun g hg => ((unhide HO).ans.p1.lt g hg).2
  have hlt2 : ∀ g, blkP v2 e2 g → g < W0.heap.size := fun g hg => ((unhide HO).ans.p2.lt g hg).2
  have hnew : ∀ g, blkP (.slice ua els.length uc) els g → W0.heap.size ≤ g := fun g hg => (hP.lt g hg).1
  have HN := hide (And.intro hlt1 (And.intro hlt2 hnew))
  replace HO := hide ((unhide HO).later b)
  have PN := hide (hP.base (B' := B) (by have := (unhide BW).size; omega))
  replace BW := hide ((unhide BW).trans (b.mono (by have := (unhide BW).size; omega)))
  have HM := hide hm
  clear hP hm b CC hlt1 hlt2 hnew HS
  have f2 := frozenOf (unhide HO).box 2
  have c2 := cellOf (unhide HO).box 2
  have HF : Hid (Op B (w1.setCell ⟨O, 2, none⟩ (.slice ua els.length uc)) O has v2 (.slice ua els.length uc) vf els fl e2) := ⟨(heapSet (o := 2) (v := .slice ua els.length uc) (unhide HO).box), (unhide HO).lo, (DAns.set (o := 2) (u := .slice ua els.length uc) ⟨unhide PN, (unhide HO).ans.pf, (unhide HO).ans.p2, fun g hg hg2 => by have := (unhide HN).2.2 g hg; have := (unhide HN).2.1 g hg2; omega⟩ (unhide HO).box)⟩
  have BF := hide (below_set (o := 2) (u := .slice ua els.length uc) (unhide BW) (unhide HO).lo)
  go_wp2
  go_end0
  exact ⟨_, rfl, ⟨_, els, unhide HM, unhide HF⟩, unhide BF⟩

set_option maxHeartbeats 4000000 in
set_option maxRecDepth 100000 in
theorem beginM_any {B : Nat} (w : World) (O : Nat) (has : Bool) (v2 v1 vf : Value) (e1 e2 : List El) (fl : List Int) (k p x : Int) (sa : Option Addr) (sc : Nat) (ps : List Ix.Pg) (h : Op B w O has v2 v1 vf e1 fl e2) (hB : B ≤ w.heap.size) (hp : Pks (fun _ => True) w (.slice sa ps.length sc) ps) (hl : ps.length ≤ 1000) :
    Calls Tryz.prog 66 #[.pointer (some ⟨O, 0, none⟩), .agg #[.int .i64 k, .int .i64 p, .int .i64 x, .slice sa ps.length sc]] w fun e w' => ∃ v, e = .returned v ∧ (∃ u els, els.map (·.1) = ps ∧ Op B w' O true u v1 vf e1 fl els) ∧ Below B w w' := by
  have b0 := below1 w (.cells #[.int .i64 k, .int .i64 p, .int .i64 x, .slice sa ps.length sc] 47)
  have HS := hide (heap_alloc_new w (.cells #[.int .i64 k, .int .i64 p, .int .i64 x, .slice sa ps.length sc] 47))
  have HO := hide (h.later b0)
  have BW := hide (b0.mono hB)
  have CC := hide (copyPkgs_any _ _ ps (hp.later b0) hl)
  clear h b0 hp
  go_enter Tryz.func66, Tryz.ntmps66
  go_wp2_with fail
  refine (unhide CC).mono ?_
  generalize w.alloc _ = W0 at *
  rintro e w1 ⟨u, els, rfl, hP, hm, b⟩
  obtain ⟨ua, uc, hu⟩ := own_formS hP.own
  subst hu
  have hlt1 : ∀ g, blkP v1 e1 g → g < W0.heap.size := fun g hg => ((unhide HO).ans.p1.lt g hg).2
  have hlt2 : ∀ g, blkP v2 e2 g → g < W0.heap.size := fun g hg => ((unhide HO).ans.p2.lt g hg).2
  have hnew : ∀ g, blkP (.slice ua els.length uc) els g → W0.heap.size ≤ g := fun g hg => (hP.lt g hg).1
  have HN := hide (And.intro hlt1 (And.intro hlt2 hnew))
  replace HO := hide ((unhide HO).later b)
  have PN := hide (hP.base (B' := B) (by have := (unhide BW).size; omega))
  replace BW := hide ((unhide BW).trans (b.mono (by have := (unhide BW).size; omega)))
  have HM := hide hm
  clear hP hm b CC hlt1 hlt2 hnew HS
  have f0 := frozenOf (unhide HO).box 0
  have c0 := cellOf (unhide HO).box 0
  have f1 := frozenOf (unhide HO).box 1
  have c1 := cellOf (unhide HO).box 1
  have HF : Hid (Op B ((w1.setCell ⟨O, 0, none⟩ (.bool true)).setCell ⟨O, 1, none⟩ (.slice ua els.length uc)) O true (.slice ua els.length uc) v1 vf e1 fl els) := ⟨(heapSet (o := 1) (v := .slice ua els.length uc) (heapSet (o := 0) (v := .bool true) (unhide HO).box)), (unhide HO).lo, (DAns.set (o := 1) (u := .slice ua els.length uc) (DAns.set (o := 0) (u := .bool true) ⟨(unhide HO).ans.p1, (unhide HO).ans.pf, unhide PN, fun g hg hg2 => by have := (unhide HN).2.2 g hg2; have := (unhide HN).1 g hg; omega⟩ (unhide HO).box) (heapSet (o := 0) (v := .bool true) (unhide HO).box))⟩
  have BF := hide (below_set (o := 1) (u := .slice ua els.length uc) (below_set (o := 0) (u := .bool true) (unhide BW) (unhide HO).lo) (unhide HO).lo)
  go_wp2
  go_end0
  exact ⟨_, rfl, ⟨_, els, unhide HM, unhide HF⟩, unhide BF⟩

set_option maxHeartbeats 4000000 in
set_option maxRecDepth 100000 in
theorem takeOutM_any {B : Nat} (w : World) (O : Nat) (has : Bool) (v2 v1 vf : Value) (e1 e2 : List El) (fl : List Int) (k p x : Int) (sa : Option Addr) (sc : Nat) (ps : List Ix.Pg) (h : Op B w O has v2 v1 vf e1 fl e2) (hB : B ≤ w.heap.size) :
    Calls Tryz.prog 72 #[.pointer (some ⟨O, 0, none⟩), .agg #[.int .i64 k, .int .i64 p, .int .i64 x, .slice sa ps.length sc]] w fun e w' => ∃ v, e = .returned v ∧ Op B w' O has v2 (.slice none 0 0) vf [] fl e2 ∧ Below B w w' := by
  have b0 := below1 w (.cells #[.int .i64 k, .int .i64 p, .int .i64 x, .slice sa ps.length sc] 47)
  have HS := hide (heap_alloc_new w (.cells #[.int .i64 k, .int .i64 p, .int .i64 x, .slice sa ps.length sc] 47))
  have HO := hide (h.later b0)
  have BW := hide (b0.mono hB)
  clear h b0
  go_enter Tryz.func72, Tryz.ntmps72
  have f2 := frozenOf (unhide HO).box 2
  have c2 := cellOf (unhide HO).box 2
  have HF : Hid (Op B ((w.alloc (.cells #[.int .i64 k, .int .i64 p, .int .i64 x, .slice sa ps.length sc] 47)).setCell ⟨O, 2, none⟩ (.slice none 0 0)) O has v2 (.slice none 0 0) vf [] fl e2) := ⟨(heapSet (o := 2) (v := .slice none 0 0) (unhide HO).box), (unhide HO).lo, (DAns.set (o := 2) (u := .slice none 0 0) ⟨PAns.nil _ _, (unhide HO).ans.pf, (unhide HO).ans.p2, fun g hg => by rcases hg with hg | ⟨e, he, _⟩; cases hg; cases he⟩ (unhide HO).box)⟩
  have BF := hide (below_set (o := 2) (u := .slice none 0 0) (unhide BW) (unhide HO).lo)
  go_wp2
  go_end0
  exact ⟨_, rfl, unhide HF, unhide BF⟩

set_option maxHeartbeats 4000000 in
set_option maxRecDepth 100000 in
theorem endM_any {B : Nat} (w : World) (O : Nat) (has : Bool) (v2 v1 vf : Value) (e1 e2 : List El) (fl : List Int) (k p x : Int) (sa : Option Addr) (sc : Nat) (ps : List Ix.Pg) (h : Op B w O has v2 v1 vf e1 fl e2) (hB : B ≤ w.heap.size) :
    Calls Tryz.prog 69 #[.pointer (some ⟨O, 0, none⟩), .agg #[.int .i64 k, .int .i64 p, .int .i64 x, .slice sa ps.length sc]] w fun e w' => ∃ v, e = .returned v ∧ Op B w' O false (.slice none 0 0) v1 vf e1 fl [] ∧ Below B w w' := by
  have b0 := below1 w (.cells #[.int .i64 k, .int .i64 p, .int .i64 x, .slice sa ps.length sc] 47)
  have HS := hide (heap_alloc_new w (.cells #[.int .i64 k, .int .i64 p, .int .i64 x, .slice sa ps.length sc] 47))
  have HO := hide (h.later b0)
  have BW := hide (b0.mono hB)
  clear h b0
  go_enter Tryz.func69, Tryz.ntmps69
  have f0 := frozenOf (unhide HO).box 0
  have c0 := cellOf (unhide HO).box 0
  have f1 := frozenOf (unhide HO).box 1
  have c1 := cellOf (unhide HO).box 1
  have HF : Hid (Op B (((w.alloc (.cells #[.int .i64 k, .int .i64 p, .int .i64 x, .slice sa ps.length sc] 47)).setCell ⟨O, 0, none⟩ (.bool false)).setCell ⟨O, 1, none⟩ (.slice none 0 0)) O false (.slice none 0 0) v1 vf e1 fl []) := ⟨(heapSet (o := 1) (v := .slice none 0 0) (heapSet (o := 0) (v := .bool false) (unhide HO).box)), (unhide HO).lo, (DAns.set (o := 1) (u := .slice none 0 0) (DAns.set (o := 0) (u := .bool false) ⟨(unhide HO).ans.p1, (unhide HO).ans.pf, PAns.nil _ _, fun g _ hg => by rcases hg with hg | ⟨e, he, _⟩; cases hg; cases he⟩ (unhide HO).box) (heapSet (o := 0) (v := .bool false) (unhide HO).box))⟩
  have BF := hide (below_set (o := 1) (u := .slice none 0 0) (below_set (o := 0) (u := .bool false) (unhide BW) (unhide HO).lo) (unhide HO).lo)
  go_wp2
  go_end0
  exact ⟨_, rfl, unhide HF, unhide BF⟩

set_option maxHeartbeats 4000000 in
set_option maxRecDepth 100000 in
theorem stayM_any {B : Nat} (w : World) (O : Nat) (has : Bool) (v2 v1 vf : Value) (e1 e2 : List El) (fl : List Int) (k p x : Int) (sa : Option Addr) (sc : Nat) (ps : List Ix.Pg) (h : Op B w O has v2 v1 vf e1 fl e2) (hB : B ≤ w.heap.size) :
    Calls Tryz.prog 70 #[.pointer (some ⟨O, 0, none⟩), .agg #[.int .i64 k, .int .i64 p, .int .i64 x, .slice sa ps.length sc]] w fun e w' => ∃ v, e = .returned v ∧ Op B w' O has v2 v1 vf e1 fl e2 ∧ Below B w w' := by
  have b0 := below1 w (.cells #[.int .i64 k, .int .i64 p, .int .i64 x, .slice sa ps.length sc] 47)
  have HS := hide (heap_alloc_new w (.cells #[.int .i64 k, .int .i64 p, .int .i64 x, .slice sa ps.length sc] 47))
  have HO := hide (h.later b0)
  have BW := hide (b0.mono hB)
  clear h b0
  go_enter Tryz.func70, Tryz.ntmps70
  go_wp2
  go_end0
  exact ⟨_, rfl, unhide HO, unhide BW⟩
end Go.Proofs.YtkhanndmbpemfaaGreatDoor

/- A map of the call's own, from numbers to functions: what it holds at each number (V), read and written at the operation. -/
namespace Go.Proofs.YtkhanndmbpemfaaGreatDoor
set_option maxRecDepth 100000
open Go.RowKit Go.Maps

def heldF (v : Value) : Option (DataW Value × List MemPlace) := some (.held v, [])
def nilF : Value := .nilFunc
/-- Block b is a map of at most n entries; it holds V i at the number i, nil where there is none. -/
def MapF (w : World) (b n : Nat) (V : Int → Value) : Prop :=
  ∃ D : DataW Value, w.ownsMap Tryz.prog 3 heldF b n D ∧ ∀ i : Int, D.atKey (.int .i64 i) (.held nilF) = .held (V i)
theorem keyIF : Keyed Tryz.prog 3 := int_keyed Tryz.underlying3
theorem MapF.made (w : World) : MapF (w.alloc (.map #[] 0)) w.heap.size 0 (fun _ => nilF) :=
  ⟨.map [], World.ownsMap_made _ _ _ _, fun _ => rfl⟩
theorem MapF.keep {w w' : World} {b n : Nat} {V : Int → Value} (h : MapF w b n V) (hb : w'.heap[b]? = w.heap[b]?) : MapF w' b n V := by
  obtain ⟨D, ⟨es, clock, h1, h2⟩, h3⟩ := h
  exact ⟨D, ⟨es, clock, by rw [hb]; exact h1, h2⟩, h3⟩
theorem MapF.lt {w : World} {b n : Nat} {V : Int → Value} (h : MapF w b n V) : b < w.heap.size := by
  obtain ⟨D, h1, h3⟩ := h
  exact World.ownsMap.lt h1
theorem MapF.later {w w' : World} {b n : Nat} {V : Int → Value} (h : MapF w b n V) (hb : Below w.heap.size w w') : MapF w' b n V := h.keep (hb.block _ h.lt)
theorem MapF.notCells {w : World} {b n : Nat} {V : Int → Value} (h : MapF w b n V) {c : Array Value} {t : TypeId} {f : Nat × Nat} : w.heap[b]? ≠ some (.cells c t f) := by
  obtain ⟨D, ⟨es, clock, h1, _⟩, _⟩ := h
  rw [h1]
  intro e
  cases e
theorem keyOfIF {i : Int} (h0 : -9223372036854775808 ≤ i) (h1 : i ≤ 9223372036854775807) : keyOf Tryz.prog 3 (.int .i64 i) = some (.int .i64 i) := keyOf_int_mk Tryz.underlying3 (WalkArith.wf_i64 (by omega))
/-- What is held at a number. -/
theorem MapF.look {w : World} {b n : Nat} {V : Int → Value} {t e : TypeId} {i : Int} (h : MapF w b n V) (ht : Tryz.prog.underlying t = some (.map 3 e)) (hz : (zeroValue e).run Tryz.prog w = .ok nilF w) (h0 : -9223372036854775808 ≤ i) (h1 : i ≤ 9223372036854775807) :
    (Instr.lookup t (.map (some b)) (.int .i64 i) false).run Tryz.prog w = .ok (V i) w := by
  obtain ⟨D, ho, hV⟩ := h
  obtain ⟨v, ps, hr, hv⟩ := ho.lookup keyIF ht hz (zd := .held nilF) (zp := []) rfl (keyOfIF h0 h1)
  rw [hV] at hv
  unfold heldF at hv
  injection hv with hv
  injection hv with hv _
  injection hv with hv
  rw [hr, hv]
theorem MapF.put {w : World} {b n : Nat} {V : Int → Value} {t e : TypeId} {i : Int} {v : Value} (h : MapF w b n V) (ht : Tryz.prog.underlying t = some (.map 3 e)) (hn : n < maxLen) (h0 : -9223372036854775808 ≤ i) (h1 : i ≤ 9223372036854775807) :
    ∃ w', (Instr.mapUpdate t (.map (some b)) (.int .i64 i) v).run Tryz.prog w = .ok () w' ∧ MapF w' b (n + 1) (fun j => if j = i then v else V j) ∧ w.grownBy w' (some b) := by
  obtain ⟨D, ho, hV⟩ := h
  obtain ⟨w', hr, ho', ht'⟩ := ho.store (val := v) keyIF ht hn (keyOfIF h0 h1) rfl
  refine ⟨w', hr, ⟨_, ho', fun j => ?_⟩, ht'.grown⟩
  show _ = DataW.held (if j = i then v else V j)
  by_cases hj : j = i
  · subst hj
    rw [if_pos rfl]
    exact atKey_put_same (k := .int .i64 j) (World.ownsMap.isMap ho) (show WideAt.IsKeyLit (.int .i64 j) from trivial) _ _
  · rw [if_neg hj, atKey_put_other (by intro e; injection e with _ e; exact hj e)]
    exact hV j
theorem wpList_lookF (w : World) {ops : Array Oper} {rest : List Oper} {o : Oper} {a : Act} {Q : Exit → Act → World → Prop}
    (hg : o.guard = none) (m x : Operand) (t : TypeId) (hop : o.op = Op.lookup t m x false) (e : TypeId) (ht : Tryz.prog.underlying t = some (.map 3 e)) (hz : (zeroValue e).run Tryz.prog w = .ok nilF w) (b n : Nat) (V : Int → Value)
    (hm : a.eval m = .map (some b)) (h : MapF w b n V) (i : Int) (hx : a.eval x = .int .i64 i) (h0 : -9223372036854775808 ≤ i) (h1 : i ≤ 9223372036854775807)
    (hK : wpList Tryz.prog ops Q rest (a.put o.dst (V i)) w) : wpList Tryz.prog ops Q (o :: rest) a w := by
  refine wpList_plain hg fun K' hK' => ?_
  have hrun := h.look ht hz h0 h1
  unfold Oper.wp
  simp [execOp, hop, hm, hx, hrun, Result.andThen]
  exact hK' _ _ hK
theorem wp_putF (w : World) {o : Oper} {a : Act} {K : Act → World → Prop} {Q : Exit → Act → World → Prop}
    (m x y : Operand) (t : TypeId) (hop : o.op = Op.insert t m x y) (e : TypeId) (ht : Tryz.prog.underlying t = some (.map 3 e)) (b n : Nat) (V : Int → Value)
    (hm : a.eval m = .map (some b)) (h : MapF w b n V) (hn : n < maxLen) (i : Int) (hx : a.eval x = .int .i64 i) (v : Value) (hy : a.eval y = v) (h0 : -9223372036854775808 ≤ i) (h1 : i ≤ 9223372036854775807)
    (hK : ∀ w', MapF w' b (n + 1) (fun j => if j = i then v else V j) → w.grownBy w' (some b) → K (a.put o.dst undef) w') : o.wp Tryz.prog a w K Q := by
  obtain ⟨w', hrun, r1, r2⟩ := h.put (v := v) ht hn h0 h1
  unfold Oper.wp
  simp [execOp, hop, hm, hx, hy, hrun, Result.andThen]
  exact hK w' r1 r2
theorem run_lookF {w : World} {o : Oper} {a : Act} (m x : Operand) (t : TypeId) (hop : o.op = Op.lookup t m x false) (e : TypeId) (ht : Tryz.prog.underlying t = some (.map 3 e)) (hz : (zeroValue e).run Tryz.prog w = .ok nilF w) (b n : Nat) (V : Int → Value)
    (hm : a.eval m = .map (some b)) (h : MapF w b n V) (i : Int) (hx : a.eval x = .int .i64 i) (h0 : -9223372036854775808 ≤ i) (h1 : i ≤ 9223372036854775807) : (execOp a.eval o).run Tryz.prog w = .ok (.value (V i)) w := by
  have hrun := h.look ht hz h0 h1
  simp [execOp, hop, hm, hx, hrun, Result.andThen]
end Go.Proofs.YtkhanndmbpemfaaGreatDoor
