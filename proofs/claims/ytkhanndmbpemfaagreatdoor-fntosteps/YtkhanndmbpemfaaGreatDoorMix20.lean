import Derived.Test.YtkhanndmbpemfaaGreatDoorMix17
import Derived.Test.YtkhanndmbpemfaaGreatDoorSDoStW
import Derived.Test.YtkhanndmbpemfaaGreatDoorSStepsW
import Derived.Test.YtkhanndmbpemfaaGreatDoorSDoRW
/- The methods of an open disk once more: of all that was there its own box and its files alone are written to. -/
namespace Go.Proofs.YtkhanndmbpemfaaGreatDoor
open Go.RowKit

attribute [local go_sem ↓] Go.wp_at_zero Go.wp_at_succ

set_option maxHeartbeats 4000000 in
set_option maxRecDepth 100000 in
theorem writeM_st {B : Nat} (w : World) (O : Nat) (has : Bool) (v2 v1 vf : Value) (e1 e2 : List El) (fl : List Int) (k p x : Int) (sa : Option Addr) (sc : Nat) (ps : List Ix.Pg) (h : Op B w O has v2 v1 vf e1 fl e2) (_hB : B ≤ w.heap.size) (p0 : 0 ≤ p) (p1 : p < fl.length) :
    Calls Tryz.prog 67 #[.pointer (some ⟨O, 0, none⟩), .agg #[.int .i64 k, .int .i64 p, .int .i64 x, .slice sa ps.length sc]] w fun e w' => ∃ v, e = .returned v ∧ Op B w' O has v2 v1 vf e1 (fl.set p.toNat x) e2 ∧ Stays (fun x => x = O ∨ vf.ownBlock = some x) w w' := by
  have b0 := below1 w (.cells #[.int .i64 k, .int .i64 p, .int .i64 x, .slice sa ps.length sc] 47)
  have HS := hide (heap_alloc_new w (.cells #[.int .i64 k, .int .i64 p, .int .i64 x, .slice sa ps.length sc] 47))
  have HO := hide (h.later b0)
  have BW := hide ((Stays.refl (fun x => x = O ∨ vf.ownBlock = some x) w).below b0)
  obtain ⟨g, c, hv, hBg, hgl⟩ := h.ans.pf.form (by omega)
  subst hv
  obtain ⟨n, rfl⟩ := Int.eq_ofNat_of_zero_le p0
  have hn : n < fl.length := by omega
  have hne : g ≠ O := fun e => own_ne h.ans.pf h.box (by decide) (by rw [e]; rfl)
  have hneS : g ≠ w.heap.size := by omega
  have hneO : O ≠ w.heap.size := by have := heapLt h.box; omega
  clear h b0
  go_enter Tryz.func67, Tryz.ntmps67
  go_wp2_with fail
  generalize w.alloc _ = W0 at *
  have hd := below_drew W0
  have HO1 := hide ((unhide HO).later hd)
  have HB1 := hide ((unhide BW).below hd)
  have hs := hd.trans (Below.refl _ _)
  have cS := (hd.block _ (heapLt (unhide HS))).trans (unhide HS)
  have HS1 := hide cS
  have hpt := OwI.put (p := n) (x := x) (unhide HO1).ans.pf
  have q0 : W0.drew.cell? ⟨g, n, none⟩ = some (.int .i64 (Ky.nth fl n)) := by
    rw [(unhide HO1).ans.pf.cellAt n (by omega), List.getElem?_map, List.getElem?_eq_getElem hn]
    unfold Ky.nth
    rw [List.getD_eq_getElem?_getD, List.getElem?_eq_getElem hn]
    rfl
  have q1 : W0.drew.frozen? ⟨g, n, none⟩ = false := (unhide HO1).ans.pf.frozenAt n
  have HO2 : Hid (Op B (W0.drew.setCell ⟨g, n, none⟩ (.int .i64 x)) O has v2 v1 (.slice (some ⟨g, 0, none⟩) fl.length c) e1 (fl.set n x) e2) :=
    ⟨(Below.heap_setCell _ _ _ _ (fun e => hne e.symm)).trans (unhide HO1).box, (unhide HO1).lo, ⟨(unhide HO1).ans.p1.staysI (unhide HO1).ans.pf hpt.2, hpt.1, (unhide HO1).ans.p2.staysI (unhide HO1).ans.pf hpt.2, (unhide HO1).ans.far⟩⟩
  have HB2 := hide (stays_set (o := n) (u := .int .i64 x) (unhide HB1) (.inl (.inr rfl)))
  have hi0 : (0 : Int) ≤ (n : Int) := Int.natCast_nonneg _
  have hi1 : (n : Int) < (fl.length : Int) := by omega
  have hSS : W0.drew.cell? ⟨O, 3, none⟩ = some (.slice (some ⟨g, 0, none⟩) fl.length c) ∧ W0.drew.cell? ⟨w.heap.size, 1, none⟩ = some (.int .i64 (n : Int)) ∧ W0.drew.cell? ⟨w.heap.size, 2, none⟩ = some (.int .i64 x) := ⟨cellOf (unhide HO1).box 3, cellOf cS 1, cellOf cS 2⟩
  clear hd hs cS hpt HO BW HS
  refine wl_region (S := fun w' => w'.cell? ⟨O, 3, none⟩ = some (.slice (some ⟨g, 0, none⟩) fl.length c) ∧ w'.cell? ⟨w.heap.size, 1, none⟩ = some (.int .i64 (n : Int)) ∧ w'.cell? ⟨w.heap.size, 2, none⟩ = some (.int .i64 x)) (s := 9) (by kernel_rfl) hSS (fun hHeld => ?_)
  clear hSS
  refine wl_take (i := 0) (d := some 4) rfl rfl (by kernel_rfl) (by kernel_rfl) (by kernel_rfl) (by kernel_rfl) (by kernel_rfl) (fun _ _ _ h => h) (by rfl) (v := ?_) ?_ (by assumption) ?_
  rotate_left
  · (intro w hSw; (try dsimp only at hSw); go_simp <;> with_reducible rfl)
  simp only [Act.put, List.setIfInBounds_toArray, List.set_cons_zero, List.set_cons_succ]
  refine wl_take (i := 1) (d := some 5) rfl rfl (by kernel_rfl) (by kernel_rfl) (by kernel_rfl) (by kernel_rfl) (by kernel_rfl) (fun _ _ _ h => h) (by rfl) (v := ?_) ?_ (by assumption) ?_
  rotate_left
  · (intro w hSw; (try dsimp only at hSw); go_simp <;> with_reducible rfl)
  simp only [Act.put, List.setIfInBounds_toArray, List.set_cons_zero, List.set_cons_succ]
  refine wl_take (i := 2) (d := some 6) rfl rfl (by kernel_rfl) (by kernel_rfl) (by kernel_rfl) (by kernel_rfl) (by kernel_rfl) (fun _ _ _ h => h) (by rfl) (v := ?_) ?_ (by assumption) ?_
  rotate_left
  · (intro w hSw; (try dsimp only at hSw); go_simp <;> with_reducible rfl)
  simp only [Act.put, List.setIfInBounds_toArray, List.set_cons_zero, List.set_cons_succ]
  refine wl_take (i := 3) (d := some 7) rfl rfl (by kernel_rfl) (by kernel_rfl) (by kernel_rfl) (by kernel_rfl) (by kernel_rfl) (fun _ _ _ h => h) (by rfl) (v := ?_) ?_ (by assumption) ?_
  rotate_left
  · (intro w hSw; (try dsimp only at hSw); go_simp <;> with_reducible rfl)
  simp only [Act.put, List.setIfInBounds_toArray, List.set_cons_zero, List.set_cons_succ]
  refine wl_take (i := 4) (d := some 8) rfl rfl (by kernel_rfl) (by kernel_rfl) (by kernel_rfl) (by kernel_rfl) (by kernel_rfl) (fun _ _ _ h => h) (by rfl) (v := ?_) ?_ (by assumption) ?_
  rotate_left
  · (intro w hSw; (try dsimp only at hSw); go_simp <;> with_reducible rfl)
  simp only [Act.put, List.setIfInBounds_toArray, List.set_cons_zero, List.set_cons_succ]
  refine wl_take (i := 5) (d := some 9) rfl rfl (by kernel_rfl) (by kernel_rfl) (by kernel_rfl) (by kernel_rfl) (by kernel_rfl) (fun _ _ _ h => h) (by rfl) (v := ?_) ?_ (by assumption) ?_
  rotate_left
  · (intro w hSw; (try dsimp only at hSw); go_simp <;> with_reducible rfl)
  simp only [Act.put, List.setIfInBounds_toArray, List.set_cons_zero, List.set_cons_succ]
  refine wl_take (i := 6) (d := some 10) rfl rfl (by kernel_rfl) (by kernel_rfl) (by kernel_rfl) (by kernel_rfl) (by kernel_rfl) (fun _ _ _ h => h) (by rfl) (v := ?_) ?_ (by assumption) ?_
  rotate_left
  · (intro w hSw; (try dsimp only at hSw); go_simp <;> with_reducible rfl)
  simp only [Act.put, List.setIfInBounds_toArray, List.set_cons_zero, List.set_cons_succ]
  refine wl_take (i := 7) (d := some 11) rfl rfl (by kernel_rfl) (by kernel_rfl) (by kernel_rfl) (by kernel_rfl) (by kernel_rfl) (fun _ _ _ h => h) (by rfl) (v := ?_) ?_ (by assumption) ?_
  rotate_left
  · (intro w hSw; (try dsimp only at hSw); go_simp <;> with_reducible rfl)
  simp only [Act.put, List.setIfInBounds_toArray, List.set_cons_zero, List.set_cons_succ]
  refine wl_take (i := 8) (d := some 12) rfl rfl (by kernel_rfl) (by kernel_rfl) (by kernel_rfl) (by kernel_rfl) (by kernel_rfl) (fun _ _ _ h => h) (by rfl) (v := ?_) ?_ (by assumption) ?_
  rotate_left
  · (intro w hSw; (try dsimp only at hSw); go_simp <;> with_reducible rfl)
  simp only [Act.put, List.setIfInBounds_toArray, List.set_cons_zero, List.set_cons_succ]
  refine wl_one (i := 9) (by kernel_rfl) rfl (by rfl) (fun K hK => ?_)
  go_simp
  refine hK.out _ _ (fun h => absurd rfl h) ?_
  clear hK K
  refine wl_done (by kernel_rfl) ?_
  clear hHeld q0 q1
  go_wp2
  (try rw [Int.toNat_natCast])
  go_end0
  first | exact ⟨_, rfl, unhide HO2, unhide HB2⟩ | exact ⟨⟨_, rfl⟩, unhide HO2, unhide HB2⟩

set_option maxHeartbeats 4000000 in
set_option maxRecDepth 100000 in
theorem smearM_st {B : Nat} (w : World) (O : Nat) (has : Bool) (v2 v1 vf : Value) (e1 e2 : List El) (fl : List Int) (k p x : Int) (sa : Option Addr) (sc : Nat) (ps : List Ix.Pg) (h : Op B w O has v2 v1 vf e1 fl e2) (_hB : B ≤ w.heap.size) (p0 : 0 ≤ p) (p1 : p < fl.length) :
    Calls Tryz.prog 71 #[.pointer (some ⟨O, 0, none⟩), .agg #[.int .i64 k, .int .i64 p, .int .i64 x, .slice sa ps.length sc]] w fun e w' => ∃ v, e = .returned v ∧ Op B w' O has v2 v1 vf e1 (fl.set p.toNat (-2)) e2 ∧ Stays (fun x => x = O ∨ vf.ownBlock = some x) w w' := by
  have b0 := below1 w (.cells #[.int .i64 k, .int .i64 p, .int .i64 x, .slice sa ps.length sc] 47)
  have HS := hide (heap_alloc_new w (.cells #[.int .i64 k, .int .i64 p, .int .i64 x, .slice sa ps.length sc] 47))
  have HO := hide (h.later b0)
  have BW := hide ((Stays.refl (fun x => x = O ∨ vf.ownBlock = some x) w).below b0)
  obtain ⟨g, c, hv, hBg, hgl⟩ := h.ans.pf.form (by omega)
  subst hv
  obtain ⟨n, rfl⟩ := Int.eq_ofNat_of_zero_le p0
  have hn : n < fl.length := by omega
  have hne : g ≠ O := fun e => own_ne h.ans.pf h.box (by decide) (by rw [e]; rfl)
  have hneS : g ≠ w.heap.size := by omega
  have hneO : O ≠ w.heap.size := by have := heapLt h.box; omega
  clear h b0
  go_enter Tryz.func71, Tryz.ntmps71
  go_wp2_with fail
  generalize w.alloc _ = W0 at *
  have hd := below_drew W0
  have HO1 := hide ((unhide HO).later hd)
  have HB1 := hide ((unhide BW).below hd)
  have hs := hd.trans (Below.refl _ _)
  have cS := (hd.block _ (heapLt (unhide HS))).trans (unhide HS)
  have HS1 := hide cS
  have hpt := OwI.put (p := n) (x := (-2)) (unhide HO1).ans.pf
  have q0 : W0.drew.cell? ⟨g, n, none⟩ = some (.int .i64 (Ky.nth fl n)) := by
    rw [(unhide HO1).ans.pf.cellAt n (by omega), List.getElem?_map, List.getElem?_eq_getElem hn]
    unfold Ky.nth
    rw [List.getD_eq_getElem?_getD, List.getElem?_eq_getElem hn]
    rfl
  have q1 : W0.drew.frozen? ⟨g, n, none⟩ = false := (unhide HO1).ans.pf.frozenAt n
  have HO2 : Hid (Op B (W0.drew.setCell ⟨g, n, none⟩ (.int .i64 (-2))) O has v2 v1 (.slice (some ⟨g, 0, none⟩) fl.length c) e1 (fl.set n (-2)) e2) :=
    ⟨(Below.heap_setCell _ _ _ _ (fun e => hne e.symm)).trans (unhide HO1).box, (unhide HO1).lo, ⟨(unhide HO1).ans.p1.staysI (unhide HO1).ans.pf hpt.2, hpt.1, (unhide HO1).ans.p2.staysI (unhide HO1).ans.pf hpt.2, (unhide HO1).ans.far⟩⟩
  have HB2 := hide (stays_set (o := n) (u := .int .i64 (-2)) (unhide HB1) (.inl (.inr rfl)))
  have hi0 : (0 : Int) ≤ (n : Int) := Int.natCast_nonneg _
  have hi1 : (n : Int) < (fl.length : Int) := by omega
  have hSS : W0.drew.cell? ⟨O, 3, none⟩ = some (.slice (some ⟨g, 0, none⟩) fl.length c) ∧ W0.drew.cell? ⟨w.heap.size, 1, none⟩ = some (.int .i64 (n : Int)) ∧ W0.drew.cell? ⟨w.heap.size, 2, none⟩ = some (.int .i64 x) := ⟨cellOf (unhide HO1).box 3, cellOf cS 1, cellOf cS 2⟩
  clear hd hs cS hpt HO BW HS
  refine wl_region (S := fun w' => w'.cell? ⟨O, 3, none⟩ = some (.slice (some ⟨g, 0, none⟩) fl.length c) ∧ w'.cell? ⟨w.heap.size, 1, none⟩ = some (.int .i64 (n : Int)) ∧ w'.cell? ⟨w.heap.size, 2, none⟩ = some (.int .i64 x)) (s := 7) (by kernel_rfl) hSS (fun hHeld => ?_)
  clear hSS
  refine wl_take (i := 0) (d := some 4) rfl rfl (by kernel_rfl) (by kernel_rfl) (by kernel_rfl) (by kernel_rfl) (by kernel_rfl) (fun _ _ _ h => h) (by rfl) (v := ?_) ?_ (by assumption) ?_
  rotate_left
  · (intro w hSw; (try dsimp only at hSw); go_simp <;> with_reducible rfl)
  simp only [Act.put, List.setIfInBounds_toArray, List.set_cons_zero, List.set_cons_succ]
  refine wl_take (i := 1) (d := some 5) rfl rfl (by kernel_rfl) (by kernel_rfl) (by kernel_rfl) (by kernel_rfl) (by kernel_rfl) (fun _ _ _ h => h) (by rfl) (v := ?_) ?_ (by assumption) ?_
  rotate_left
  · (intro w hSw; (try dsimp only at hSw); go_simp <;> with_reducible rfl)
  simp only [Act.put, List.setIfInBounds_toArray, List.set_cons_zero, List.set_cons_succ]
  refine wl_take (i := 2) (d := some 6) rfl rfl (by kernel_rfl) (by kernel_rfl) (by kernel_rfl) (by kernel_rfl) (by kernel_rfl) (fun _ _ _ h => h) (by rfl) (v := ?_) ?_ (by assumption) ?_
  rotate_left
  · (intro w hSw; (try dsimp only at hSw); go_simp <;> with_reducible rfl)
  simp only [Act.put, List.setIfInBounds_toArray, List.set_cons_zero, List.set_cons_succ]
  refine wl_take (i := 3) (d := some 7) rfl rfl (by kernel_rfl) (by kernel_rfl) (by kernel_rfl) (by kernel_rfl) (by kernel_rfl) (fun _ _ _ h => h) (by rfl) (v := ?_) ?_ (by assumption) ?_
  rotate_left
  · (intro w hSw; (try dsimp only at hSw); go_simp <;> with_reducible rfl)
  simp only [Act.put, List.setIfInBounds_toArray, List.set_cons_zero, List.set_cons_succ]
  refine wl_take (i := 4) (d := some 8) rfl rfl (by kernel_rfl) (by kernel_rfl) (by kernel_rfl) (by kernel_rfl) (by kernel_rfl) (fun _ _ _ h => h) (by rfl) (v := ?_) ?_ (by assumption) ?_
  rotate_left
  · (intro w hSw; (try dsimp only at hSw); go_simp <;> with_reducible rfl)
  simp only [Act.put, List.setIfInBounds_toArray, List.set_cons_zero, List.set_cons_succ]
  refine wl_take (i := 5) (d := some 9) rfl rfl (by kernel_rfl) (by kernel_rfl) (by kernel_rfl) (by kernel_rfl) (by kernel_rfl) (fun _ _ _ h => h) (by rfl) (v := ?_) ?_ (by assumption) ?_
  rotate_left
  · (intro w hSw; (try dsimp only at hSw); go_simp <;> with_reducible rfl)
  simp only [Act.put, List.setIfInBounds_toArray, List.set_cons_zero, List.set_cons_succ]
  refine wl_take (i := 6) (d := some 10) rfl rfl (by kernel_rfl) (by kernel_rfl) (by kernel_rfl) (by kernel_rfl) (by kernel_rfl) (fun _ _ _ h => h) (by rfl) (v := ?_) ?_ (by assumption) ?_
  rotate_left
  · (intro w hSw; (try dsimp only at hSw); go_simp <;> with_reducible rfl)
  simp only [Act.put, List.setIfInBounds_toArray, List.set_cons_zero, List.set_cons_succ]
  refine wl_one (i := 7) (by kernel_rfl) rfl (by rfl) (fun K hK => ?_)
  go_simp
  refine hK.out _ _ (fun h => absurd rfl h) ?_
  clear hK K
  refine wl_done (by kernel_rfl) ?_
  clear hHeld q0 q1
  go_wp2
  (try rw [Int.toNat_natCast])
  go_end0
  first | exact ⟨_, rfl, unhide HO2, unhide HB2⟩ | exact ⟨⟨_, rfl⟩, unhide HO2, unhide HB2⟩

set_option maxHeartbeats 4000000 in
set_option maxRecDepth 100000 in
theorem putInM_st {B : Nat} (w : World) (O : Nat) (has : Bool) (v2 v1 vf : Value) (e1 e2 : List El) (fl : List Int) (k p x : Int) (sa : Option Addr) (sc : Nat) (ps : List Ix.Pg) (h : Op B w O has v2 v1 vf e1 fl e2) (hB : B ≤ w.heap.size) (hp : Pks (fun _ => True) w (.slice sa ps.length sc) ps) (hl : ps.length ≤ 1000) :
    Calls Tryz.prog 68 #[.pointer (some ⟨O, 0, none⟩), .agg #[.int .i64 k, .int .i64 p, .int .i64 x, .slice sa ps.length sc]] w fun e w' => ∃ v, e = .returned v ∧ (∃ u els, els.map (·.1) = ps ∧ Op B w' O has v2 u vf els fl e2) ∧ Stays (fun x => x = O ∨ vf.ownBlock = some x) w w' := by
  have b0 := below1 w (.cells #[.int .i64 k, .int .i64 p, .int .i64 x, .slice sa ps.length sc] 47)
  have HS := hide (heap_alloc_new w (.cells #[.int .i64 k, .int .i64 p, .int .i64 x, .slice sa ps.length sc] 47))
  have HO := hide (h.later b0)
  have BW := hide ((Stays.refl (fun x => x = O ∨ vf.ownBlock = some x) w).below b0)
  have CC := hide (copyPkgs_any _ _ ps (hp.later b0) hl)
  clear h b0 hp
  go_enter Tryz.func68, Tryz.ntmps68
  go_wp2_with fail
  refine (unhide CC).mono ?_
  generalize w.alloc _ = W0 at *
  rintro e w1 ⟨u, els, rfl, hP, hm, b⟩
  obtain ⟨ua, uc, hu⟩ := own_formS hP.own
  subst hu
  have hlt1 : ∀ g, blkP v1 e1 g → g < W0.heap.size := fun g hg => ((unhide HO).ans.p1.lt g hg).2
  have hlt2 : ∀ g, blkP v2 e2 g → g < W0.heap.size := fun g hg => ((unhide HO).ans.p2.lt g hg).2
  have hnew : ∀ g, blkP (.slice ua els.length uc) els g → W0.heap.size ≤ g := fun g hg => (hP.lt g hg).1
  have HN := hide (And.intro hlt1 (And.intro hlt2 hnew))
  replace HO := hide ((unhide HO).later b)
  have PN := hide (hP.base (B' := B) (by have := (unhide BW).size; omega))
  replace BW := hide ((unhide BW).below b)
  have HM := hide hm
  clear hP hm b CC hlt1 hlt2 hnew HS
  have f2 := frozenOf (unhide HO).box 2
  have c2 := cellOf (unhide HO).box 2
  have HF : Hid (Op B (w1.setCell ⟨O, 2, none⟩ (.slice ua els.length uc)) O has v2 (.slice ua els.length uc) vf els fl e2) := ⟨(heapSet (o := 2) (v := .slice ua els.length uc) (unhide HO).box), (unhide HO).lo, (DAns.set (o := 2) (u := .slice ua els.length uc) ⟨unhide PN, (unhide HO).ans.pf, (unhide HO).ans.p2, fun g hg hg2 => by have := (unhide HN).2.2 g hg; have := (unhide HN).2.1 g hg2; omega⟩ (unhide HO).box)⟩
  have BF := hide (stays_set (o := 2) (u := .slice ua els.length uc) (unhide BW) (.inl (.inl rfl)))
  go_wp2
  go_end0
  exact ⟨_, rfl, ⟨_, els, unhide HM, unhide HF⟩, unhide BF⟩

set_option maxHeartbeats 4000000 in
set_option maxRecDepth 100000 in
theorem beginM_st {B : Nat} (w : World) (O : Nat) (has : Bool) (v2 v1 vf : Value) (e1 e2 : List El) (fl : List Int) (k p x : Int) (sa : Option Addr) (sc : Nat) (ps : List Ix.Pg) (h : Op B w O has v2 v1 vf e1 fl e2) (hB : B ≤ w.heap.size) (hp : Pks (fun _ => True) w (.slice sa ps.length sc) ps) (hl : ps.length ≤ 1000) :
    Calls Tryz.prog 66 #[.pointer (some ⟨O, 0, none⟩), .agg #[.int .i64 k, .int .i64 p, .int .i64 x, .slice sa ps.length sc]] w fun e w' => ∃ v, e = .returned v ∧ (∃ u els, els.map (·.1) = ps ∧ Op B w' O true u v1 vf e1 fl els) ∧ Stays (fun x => x = O ∨ vf.ownBlock = some x) w w' := by
  have b0 := below1 w (.cells #[.int .i64 k, .int .i64 p, .int .i64 x, .slice sa ps.length sc] 47)
  have HS := hide (heap_alloc_new w (.cells #[.int .i64 k, .int .i64 p, .int .i64 x, .slice sa ps.length sc] 47))
  have HO := hide (h.later b0)
  have BW := hide ((Stays.refl (fun x => x = O ∨ vf.ownBlock = some x) w).below b0)
  have CC := hide (copyPkgs_any _ _ ps (hp.later b0) hl)
  clear h b0 hp
  go_enter Tryz.func66, Tryz.ntmps66
  go_wp2_with fail
  refine (unhide CC).mono ?_
  generalize w.alloc _ = W0 at *
  rintro e w1 ⟨u, els, rfl, hP, hm, b⟩
  obtain ⟨ua, uc, hu⟩ := own_formS hP.own
  subst hu
  have hlt1 : ∀ g, blkP v1 e1 g → g < W0.heap.size := fun g hg => ((unhide HO).ans.p1.lt g hg).2
  have hlt2 : ∀ g, blkP v2 e2 g → g < W0.heap.size := fun g hg => ((unhide HO).ans.p2.lt g hg).2
  have hnew : ∀ g, blkP (.slice ua els.length uc) els g → W0.heap.size ≤ g := fun g hg => (hP.lt g hg).1
  have HN := hide (And.intro hlt1 (And.intro hlt2 hnew))
  replace HO := hide ((unhide HO).later b)
  have PN := hide (hP.base (B' := B) (by have := (unhide BW).size; omega))
  replace BW := hide ((unhide BW).below b)
  have HM := hide hm
  clear hP hm b CC hlt1 hlt2 hnew HS
  have f0 := frozenOf (unhide HO).box 0
  have c0 := cellOf (unhide HO).box 0
  have f1 := frozenOf (unhide HO).box 1
  have c1 := cellOf (unhide HO).box 1
  have HF : Hid (Op B ((w1.setCell ⟨O, 0, none⟩ (.bool true)).setCell ⟨O, 1, none⟩ (.slice ua els.length uc)) O true (.slice ua els.length uc) v1 vf e1 fl els) := ⟨(heapSet (o := 1) (v := .slice ua els.length uc) (heapSet (o := 0) (v := .bool true) (unhide HO).box)), (unhide HO).lo, (DAns.set (o := 1) (u := .slice ua els.length uc) (DAns.set (o := 0) (u := .bool true) ⟨(unhide HO).ans.p1, (unhide HO).ans.pf, unhide PN, fun g hg hg2 => by have := (unhide HN).2.2 g hg2; have := (unhide HN).1 g hg; omega⟩ (unhide HO).box) (heapSet (o := 0) (v := .bool true) (unhide HO).box))⟩
  have BF := hide (stays_set (o := 1) (u := .slice ua els.length uc) (stays_set (o := 0) (u := .bool true) (unhide BW) (.inl (.inl rfl))) (.inl (.inl rfl)))
  go_wp2
  go_end0
  exact ⟨_, rfl, ⟨_, els, unhide HM, unhide HF⟩, unhide BF⟩

set_option maxHeartbeats 4000000 in
set_option maxRecDepth 100000 in
theorem takeOutM_st {B : Nat} (w : World) (O : Nat) (has : Bool) (v2 v1 vf : Value) (e1 e2 : List El) (fl : List Int) (k p x : Int) (sa : Option Addr) (sc : Nat) (ps : List Ix.Pg) (h : Op B w O has v2 v1 vf e1 fl e2) (_hB : B ≤ w.heap.size) :
    Calls Tryz.prog 72 #[.pointer (some ⟨O, 0, none⟩), .agg #[.int .i64 k, .int .i64 p, .int .i64 x, .slice sa ps.length sc]] w fun e w' => ∃ v, e = .returned v ∧ Op B w' O has v2 (.slice none 0 0) vf [] fl e2 ∧ Stays (fun x => x = O ∨ vf.ownBlock = some x) w w' := by
  have b0 := below1 w (.cells #[.int .i64 k, .int .i64 p, .int .i64 x, .slice sa ps.length sc] 47)
  have HS := hide (heap_alloc_new w (.cells #[.int .i64 k, .int .i64 p, .int .i64 x, .slice sa ps.length sc] 47))
  have HO := hide (h.later b0)
  have BW := hide ((Stays.refl (fun x => x = O ∨ vf.ownBlock = some x) w).below b0)
  clear h b0
  go_enter Tryz.func72, Tryz.ntmps72
  have f2 := frozenOf (unhide HO).box 2
  have c2 := cellOf (unhide HO).box 2
  have HF : Hid (Op B ((w.alloc (.cells #[.int .i64 k, .int .i64 p, .int .i64 x, .slice sa ps.length sc] 47)).setCell ⟨O, 2, none⟩ (.slice none 0 0)) O has v2 (.slice none 0 0) vf [] fl e2) := ⟨(heapSet (o := 2) (v := .slice none 0 0) (unhide HO).box), (unhide HO).lo, (DAns.set (o := 2) (u := .slice none 0 0) ⟨PAns.nil _ _, (unhide HO).ans.pf, (unhide HO).ans.p2, fun g hg => by rcases hg with hg | ⟨e, he, _⟩; cases hg; cases he⟩ (unhide HO).box)⟩
  have BF := hide (stays_set (o := 2) (u := .slice none 0 0) (unhide BW) (.inl (.inl rfl)))
  go_wp2
  go_end0
  exact ⟨_, rfl, unhide HF, unhide BF⟩

set_option maxHeartbeats 4000000 in
set_option maxRecDepth 100000 in
theorem endM_st {B : Nat} (w : World) (O : Nat) (has : Bool) (v2 v1 vf : Value) (e1 e2 : List El) (fl : List Int) (k p x : Int) (sa : Option Addr) (sc : Nat) (ps : List Ix.Pg) (h : Op B w O has v2 v1 vf e1 fl e2) (_hB : B ≤ w.heap.size) :
    Calls Tryz.prog 69 #[.pointer (some ⟨O, 0, none⟩), .agg #[.int .i64 k, .int .i64 p, .int .i64 x, .slice sa ps.length sc]] w fun e w' => ∃ v, e = .returned v ∧ Op B w' O false (.slice none 0 0) v1 vf e1 fl [] ∧ Stays (fun x => x = O ∨ vf.ownBlock = some x) w w' := by
  have b0 := below1 w (.cells #[.int .i64 k, .int .i64 p, .int .i64 x, .slice sa ps.length sc] 47)
  have HS := hide (heap_alloc_new w (.cells #[.int .i64 k, .int .i64 p, .int .i64 x, .slice sa ps.length sc] 47))
  have HO := hide (h.later b0)
  have BW := hide ((Stays.refl (fun x => x = O ∨ vf.ownBlock = some x) w).below b0)
  clear h b0
  go_enter Tryz.func69, Tryz.ntmps69
  have f0 := frozenOf (unhide HO).box 0
  have c0 := cellOf (unhide HO).box 0
  have f1 := frozenOf (unhide HO).box 1
  have c1 := cellOf (unhide HO).box 1
  have HF : Hid (Op B (((w.alloc (.cells #[.int .i64 k, .int .i64 p, .int .i64 x, .slice sa ps.length sc] 47)).setCell ⟨O, 0, none⟩ (.bool false)).setCell ⟨O, 1, none⟩ (.slice none 0 0)) O false (.slice none 0 0) v1 vf e1 fl []) := ⟨(heapSet (o := 1) (v := .slice none 0 0) (heapSet (o := 0) (v := .bool false) (unhide HO).box)), (unhide HO).lo, (DAns.set (o := 1) (u := .slice none 0 0) (DAns.set (o := 0) (u := .bool false) ⟨(unhide HO).ans.p1, (unhide HO).ans.pf, PAns.nil _ _, fun g _ hg => by rcases hg with hg | ⟨e, he, _⟩; cases hg; cases he⟩ (unhide HO).box) (heapSet (o := 0) (v := .bool false) (unhide HO).box))⟩
  have BF := hide (stays_set (o := 1) (u := .slice none 0 0) (stays_set (o := 0) (u := .bool false) (unhide BW) (.inl (.inl rfl))) (.inl (.inl rfl)))
  go_wp2
  go_end0
  exact ⟨_, rfl, unhide HF, unhide BF⟩

set_option maxHeartbeats 4000000 in
set_option maxRecDepth 100000 in
theorem stayM_st {B : Nat} (w : World) (O : Nat) (has : Bool) (v2 v1 vf : Value) (e1 e2 : List El) (fl : List Int) (k p x : Int) (sa : Option Addr) (sc : Nat) (ps : List Ix.Pg) (h : Op B w O has v2 v1 vf e1 fl e2) (_hB : B ≤ w.heap.size) :
    Calls Tryz.prog 70 #[.pointer (some ⟨O, 0, none⟩), .agg #[.int .i64 k, .int .i64 p, .int .i64 x, .slice sa ps.length sc]] w fun e w' => ∃ v, e = .returned v ∧ Op B w' O has v2 v1 vf e1 fl e2 ∧ Stays (fun x => x = O ∨ vf.ownBlock = some x) w w' := by
  have b0 := below1 w (.cells #[.int .i64 k, .int .i64 p, .int .i64 x, .slice sa ps.length sc] 47)
  have HS := hide (heap_alloc_new w (.cells #[.int .i64 k, .int .i64 p, .int .i64 x, .slice sa ps.length sc] 47))
  have HO := hide (h.later b0)
  have BW := hide ((Stays.refl (fun x => x = O ∨ vf.ownBlock = some x) w).below b0)
  clear h b0
  go_enter Tryz.func70, Tryz.ntmps70
  go_wp2
  go_end0
  exact ⟨_, rfl, unhide HO, unhide BW⟩
end Go.Proofs.YtkhanndmbpemfaaGreatDoor

/- Rows of steps whose packages have the room that they say; a row of steps of one's own, its packages readable; an open disk that does one step behind the other. -/
namespace Go.Proofs.YtkhanndmbpemfaaGreatDoor
open Go.RowKit

/-- A slice of steps that can be read, all its blocks among N, with room. -/
def StsR (N : Nat → Prop) (w : World) (v : Value) (l : List Dk.S) : Prop :=
  ∃ a cap, v = .slice a l.length cap ∧ l.length ≤ cap ∧ l.length ≤ 1000000000 ∧ (0 < l.length → ∃ b off, a = some ⟨b, off, none⟩ ∧ b < w.heap.size ∧ N b ∧ ∀ i (s : Dk.S), l[i]? = some s → ∃ pv, SAt w b (off + i * 4) s pv ∧ Pks N w pv s.ps ∧ RoomV pv s.ps.length)
theorem StsR.keep {N : Nat → Prop} {w w' : World} {v : Value} {l : List Dk.S} (h : StsR N w v l) (hs : w.heap.size ≤ w'.heap.size) (hk : ∀ k, k < w.heap.size → N k → w'.heap[k]? = w.heap[k]?) : StsR N w' v l := by
  obtain ⟨a, cap, hv, hc, hl, hr⟩ := h
  refine ⟨a, cap, hv, hc, hl, fun hp => ?_⟩
  obtain ⟨b, off, ha, hbs, hN, hcc⟩ := hr hp
  refine ⟨b, off, ha, Nat.lt_of_lt_of_le hbs hs, hN, fun i s hi => ?_⟩
  obtain ⟨pv, h1, h2, h3⟩ := hcc i s hi
  exact ⟨pv, h1.keep (hk b hbs hN), h2.keep hs hk, h3⟩
theorem StsR.later {N : Nat → Prop} {w w' : World} {v : Value} {l : List Dk.S} (h : StsR N w v l) (hb : Below w.heap.size w w') : StsR N w' v l := h.keep hb.size (fun k hk _ => hb.block k hk)
theorem StsR.stays {N M : Nat → Prop} {w w' : World} {v : Value} {l : List Dk.S} (h : StsR N w v l) (hs : Stays M w w') (hN : ∀ b, N b → ¬ M b) : StsR N w' v l := h.keep hs.size (fun k hk hn => hs.block k hk (hN k hn))
theorem StsR.weak {N N' : Nat → Prop} {w : World} {v : Value} {l : List Dk.S} (h : StsR N w v l) (hN : ∀ b, N b → N' b) : StsR N' w v l := by
  obtain ⟨a, cap, hv, hc, hl, hr⟩ := h
  refine ⟨a, cap, hv, hc, hl, fun hp => ?_⟩
  obtain ⟨b, off, ha, hbs, h1, hcc⟩ := hr hp
  refine ⟨b, off, ha, hbs, hN b h1, fun i s hi => ?_⟩
  obtain ⟨pv, h2, h3, h4⟩ := hcc i s hi
  exact ⟨pv, h2, h3.weak hN, h4⟩
theorem StsR.bound {N : Nat → Prop} {w : World} {v : Value} {l : List Dk.S} (h : StsR N w v l) : StsR (fun b => N b ∧ b < w.heap.size) w v l := by
  obtain ⟨a, cap, hv, hc, hl, hr⟩ := h
  refine ⟨a, cap, hv, hc, hl, fun hp => ?_⟩
  obtain ⟨b, off, ha, hbs, h1, hcc⟩ := hr hp
  refine ⟨b, off, ha, hbs, ⟨h1, hbs⟩, fun i s hi => ?_⟩
  obtain ⟨pv, h2, h3, h4⟩ := hcc i s hi
  exact ⟨pv, h2, h3.bound, h4⟩
theorem StsR.sts {N : Nat → Prop} {w : World} {v : Value} {l : List Dk.S} (h : StsR N w v l) : Sts N w v l := by
  obtain ⟨a, cap, hv, hc, hl, hr⟩ := h
  refine ⟨a, cap, hv, hl, fun hp => ?_⟩
  obtain ⟨b, off, ha, hbs, h1, hcc⟩ := hr hp
  refine ⟨b, off, ha, hbs, h1, fun i s hi => ?_⟩
  obtain ⟨pv, h2, h3, _⟩ := hcc i s hi
  exact ⟨pv, h2, h3⟩
theorem StsR.slice {N : Nat → Prop} {w : World} {v : Value} {l : List Dk.S} (h : StsR N w v l) : ∃ a cap, v = .slice a l.length cap ∧ l.length ≤ cap := by
  obtain ⟨a, cap, hv, hc, _⟩ := h
  exact ⟨a, cap, hv, hc⟩
theorem StsR.at {N : Nat → Prop} {w : World} {a : Option Addr} {n c i : Nat} {l : List Dk.S} {s : Dk.S} (h : StsR N w (.slice a n c) l) (hi : l[i]? = some s) : ∃ b off pa pc, a = some ⟨b, off, none⟩ ∧ SAt w b (off + i * 4) s (.slice pa s.ps.length pc) ∧ Pks N w (.slice pa s.ps.length pc) s.ps ∧ s.ps.length ≤ pc ∧ b < w.heap.size ∧ N b := by
  obtain ⟨a', cap, e, _, hl, hr⟩ := h
  injection e with e1 e2 e3
  subst e1 e3
  obtain ⟨b, off, ha, hbs, hN, hc⟩ := hr (by
    have := (List.getElem?_eq_some_iff.1 hi).1
    omega)
  obtain ⟨pv, h1, h2, h3⟩ := hc i s hi
  obtain ⟨pa, pc, hp⟩ := h2.slice
  subst hp
  exact ⟨b, off, pa, pc, ha, h1, h2, h3 _ _ rfl, hbs, hN⟩
/-- The open disk as data. -/
structure OpD (B : Nat) (w : World) (O : Nat) (D : Dk.D) (v2 v1 vf : Value) : Prop where
  op : ∃ e1 e2, Op B w O D.has v2 v1 vf e1 D.fl e2 ∧ e1.map (·.1) = D.db ∧ e2.map (·.1) = D.jr
theorem OpD.later {B : Nat} {w w' : World} {O : Nat} {D : Dk.D} {v2 v1 vf : Value} (h : OpD B w O D v2 v1 vf) (b : Below w.heap.size w w') : OpD B w' O D v2 v1 vf := by
  obtain ⟨e1, e2, h1, h2, h3⟩ := h.op
  exact ⟨e1, e2, h1.later b, h2, h3⟩
end Go.Proofs.YtkhanndmbpemfaaGreatDoor
