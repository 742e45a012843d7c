import Derived.Test.YtkhanndmbpemfaaGreatDoorMix18
import Derived.Deep.CutRange
/- spec.l21Do and spec.l21Tear: what a step does to a disk whose rows are its own. -/
namespace Go.Proofs.YtkhanndmbpemfaaGreatDoor
open Go.RowKit

attribute [local go_sem ↓] Go.wp_at_zero Go.wp_at_succ

/-- A disk that is returned, its rows its own. -/
def DkRet (B : Nat) (w : World) (a : Dk.D) (v : Value) : Prop := ∃ q1 qf q2 d1 d2, v = dkV q1 qf a.has q2 ∧ DAns B w q1 qf q2 d1 a.fl d2 ∧ d1.map (·.1) = a.db ∧ d2.map (·.1) = a.jr
/-- A cell of a disk's box is written: rows stay. -/
theorem DAns.setD {B : Nat} {w : World} {v2 v1 vf : Value} {e1 e2 : List El} {fl : List Int} {O o : Nat} {u : Value} {c : Array Value} (h : DAns B w v1 vf v2 e1 fl e2) (hO : w.heap[O]? = some (Obj.cells c 31 (0, 0))) : DAns B (w.setCell ⟨O, o, none⟩ u) v1 vf v2 e1 fl e2 :=
  ⟨h.p1.keep (fun g hg => Below.heap_setCell _ _ _ _ (fun e => by have e' : g = O := e; subst e'; exact h.p1.notDisk hO hg)), own_set h.pf hO (by decide), h.p2.keep (fun g hg => Below.heap_setCell _ _ _ _ (fun e => by have e' : g = O := e; subst e'; exact h.p2.notDisk hO hg)), h.far⟩
theorem PAns.empty {B : Nat} {w : World} {g : Nat} (h : w.heap[g]? = some (.cells #[] 94 (0, 0))) (hg : B ≤ g) : PAns B w (.slice (some ⟨g, 0, none⟩) 0 0) [] :=
  ⟨empty_own (sz := 4) h hg, fun _ he => (by cases he), List.Pairwise.nil⟩
/-- The store into the answer's box. -/
theorem endE {w w6 : World} {R B : Nat} {u1 uf u2 : Value} {has : Bool} {e1 e2 : List El} {fl : List Int} {r0 r1 r2 r3 : Value}
    (hR : w6.heap[R]? = some (.cells #[r0, r1, r2, r3] 31 (0, 0))) (lR : B ≤ R) (hb : Below B w w6)
    (hA : DAns B w6 u1 uf u2 e1 fl e2) {w' : World}
    (hw : w' = (((w6.setCell ⟨R, 0, none⟩ u1).setCell ⟨R, 1, none⟩ uf).setCell ⟨R, 2, none⟩ (.bool has)).setCell ⟨R, 3, none⟩ u2) :
    (w'.cell? ⟨R, 0, none⟩ = some u1 ∧ w'.cell? ⟨R, 1, none⟩ = some uf ∧ w'.cell? ⟨R, 2, none⟩ = some (.bool has) ∧ w'.cell? ⟨R, 3, none⟩ = some u2) ∧ DAns B w' u1 uf u2 e1 fl e2 ∧ Below B w w' := by
  have h' : w'.heap[R]? = some (.cells #[u1, uf, .bool has, u2] 31 (0, 0)) := by rw [hw, heapSet (heapSet (heapSet (heapSet hR)))]; rfl
  have hfar : ∀ g, g ≠ R → w'.heap[g]? = w6.heap[g]? := fun g hg => by rw [hw, Below.heap_setCell _ _ _ _ hg, Below.heap_setCell _ _ _ _ hg, Below.heap_setCell _ _ _ _ hg, Below.heap_setCell _ _ _ _ hg]
  refine ⟨⟨cellOf h' 0, cellOf h' 1, cellOf h' 2, cellOf h' 3⟩, ⟨hA.p1.keep (fun g hg => hfar g (fun e => by subst e; exact hA.p1.notDisk hR hg)), own_keepS hA.pf (fun g _ e _ _ => hfar g (fun e2 => own_ne hA.pf hR (by decide) (by rw [e, e2]))), hA.p2.keep (fun g hg => hfar g (fun e => by subst e; exact hA.p2.notDisk hR hg)), hA.far⟩, ?_⟩
  rw [hw]
  exact below_set (below_set (below_set (below_set hb lR) lR) lR) lR

set_option linter.unusedSimpArgs false in
set_option maxHeartbeats 8000000 in
set_option maxRecDepth 100000 in
theorem l21Do_any {B : Nat} (w : World) (has : Bool) (u1 uf u2 : Value) (e1 e2 : List El) (fl : List Int) (k p x : Int) (sa : Option Addr) (sc : Nat) (ps : List Ix.Pg) (h : DAns B w u1 uf u2 e1 fl e2) (hB : B ≤ w.heap.size) (hp : Pks (fun _ => True) w (.slice sa ps.length sc) ps) (hl : ps.length ≤ 1000) (hk : k = 1 ∨ k = 2 ∨ k = 3 ∨ k = 4) (p0 : 0 ≤ p) (p1 : p < fl.length) :
    Calls Tryz.prog 57 #[dkV u1 uf has u2, stV k p x (.slice sa ps.length sc)] w fun e w' => ∃ v, e = .returned v ∧ DkRet B w' (Dk.D.step ⟨e1.map (·.1), fl, has, e2.map (·.1)⟩ ⟨k, p, x, ps⟩) v ∧ Below B w w' := by
  obtain ⟨a1, c1, i1⟩ := own_formS h.p1.own
  obtain ⟨g, cf, iff', hBg, hgl⟩ := h.pf.form (by omega)
  obtain ⟨a2, c2, i2⟩ := own_formS h.p2.own
  subst i1 iff' i2
  obtain ⟨AA, hAA⟩ : ∃ AA, AA = Dk.D.step ⟨e1.map (·.1), fl, has, e2.map (·.1)⟩ ⟨k, p, x, ps⟩ := ⟨_, rfl⟩
  rw [← hAA]
  have HAA := hide hAA
  obtain ⟨b0, k0, k1, k2, kz⟩ := three_boxesD w (.cells #[.slice a1 e1.length c1, .slice (some ⟨g, 0, none⟩) fl.length cf, .bool has, .slice a2 e2.length c2] 31) (.cells #[.int .i64 k, .int .i64 p, .int .i64 x, .slice sa ps.length sc] 47) (.cells #[.slice none 0 0, .slice none 0 0, .bool false, .slice none 0 0] 31)
  have HD := hide k0
  have HT := hide k1
  have HR := hide k2
  have BW := hide (b0.mono hB)
  have BW0 := hide b0
  have HA := hide (h.later b0)
  have HP := hide hp
  have HPB := hide (And.intro p0 p1)
  have HB := hide hB
  have HG := hide hBg
  have HL := hide hl
  clear h hp b0 k0 k1 k2 kz p0 p1 hB hAA hBg hgl hl
  dsimp only [dkV, stV] at *
  go_enter Tryz.func57, Tryz.ntmps57
  go_upto_region 1 with fail
  generalize World.alloc _ _ = W0 at *
  rcases hk with rfl | rfl | rfl | rfl
  · have HE : Hid (AA = ⟨e1.map (·.1), fl, true, ps⟩) := by show _ = _; rw [unhide HAA]; rfl
    obtain ⟨⟨x0, y0⟩, ⟨x1, y1⟩, ⟨x2, y2⟩, x3, y3⟩ : (_ ∧ _) ∧ (_ ∧ _) ∧ (_ ∧ _) ∧ _ ∧ _ := ⟨⟨cellOf (unhide HD) 0, frozenOf (unhide HD) 0⟩, ⟨cellOf (unhide HD) 1, frozenOf (unhide HD) 1⟩, ⟨cellOf (unhide HD) 2, frozenOf (unhide HD) 2⟩, cellOf (unhide HD) 3, frozenOf (unhide HD) 3⟩
    obtain ⟨t0, t1, t2, t3⟩ : _ ∧ _ ∧ _ ∧ _ := ⟨cellOf (unhide HT) 0, cellOf (unhide HT) 1, cellOf (unhide HT) 2, cellOf (unhide HT) 3⟩
    replace HA := hide (DAns.setD (o := 2) (u := .bool true) (unhide HA) (unhide HD))
    replace HT := hide ((Below.heap_setCell W0 ⟨w.heap.size, 2, none⟩ (.bool true) (w.heap.size + 1) (by show w.heap.size + 1 ≠ w.heap.size; omega)).trans (unhide HT))
    replace HR := hide ((Below.heap_setCell W0 ⟨w.heap.size, 2, none⟩ (.bool true) (w.heap.size + 1 + 1) (by show w.heap.size + 1 + 1 ≠ w.heap.size; omega)).trans (unhide HR))
    replace HD := hide (heapSet (o := 2) (v := .bool true) (unhide HD))
    replace BW := hide (below_set (o := 2) (u := .bool true) (X := w.heap.size) (unhide BW) (unhide HB))
    replace BW0 := hide (below_set (o := 2) (u := .bool true) (X := w.heap.size) (unhide BW0) (Nat.le_refl _))
    obtain ⟨s0, s1, s2, s3⟩ : _ ∧ _ ∧ _ ∧ _ := ⟨cellOf (unhide HT) 0, cellOf (unhide HT) 1, cellOf (unhide HT) 2, cellOf (unhide HT) 3⟩
    have CC := hide (l12Copy_any (W0.setCell ⟨w.heap.size, 2, none⟩ (.bool true)) _ ps ((unhide HP).later (unhide BW0)) (unhide HL))
    go_wp2_with fail
    refine (unhide CC).mono ?_
    rintro e w1 ⟨u, els, rfl, hP, hm, b⟩
    obtain ⟨ua, uc, hu⟩ := own_formS hP.own
    subst hu
    have hN : Hid (∀ g, blkP (.slice ua els.length uc) els g → ¬ blkP (.slice a1 e1.length c1) e1 g) := fun g hg hg2 => by
      have := (hP.lt g hg).1
      have := ((unhide HA).p1.lt g hg2).2
      omega
    have PN := hide (hP.base (B' := B) (by have := (unhide BW0).size; have := unhide HB; omega))
    have HM := hide hm
    replace HA := hide ((unhide HA).later b)
    replace HD := hide ((b.block _ (heapLt (unhide HD))).trans (unhide HD))
    replace HT := hide ((b.block _ (heapLt (unhide HT))).trans (unhide HT))
    replace HR := hide ((b.block _ (heapLt (unhide HR))).trans (unhide HR))
    replace BW := hide ((unhide BW).trans (b.mono (by have := (unhide BW0).size; have := unhide HB; omega)))
    replace BW0 := hide ((unhide BW0).trans (b.mono (unhide BW0).size))
    clear hP hm b CC x0 x1 x2 x3 y0 y1 y2 y3 t0 t1 t2 t3 s0 s1 s2 s3
    replace HA : Hid (DAns B w1 (.slice a1 e1.length c1) (.slice (some ⟨g, 0, none⟩) fl.length cf) (.slice ua els.length uc) e1 fl els) := ⟨(unhide HA).p1, (unhide HA).pf, unhide PN, fun g hg hg2 => unhide hN g hg2 hg⟩
    obtain ⟨⟨x0, y0⟩, ⟨x1, y1⟩, ⟨x2, y2⟩, x3, y3⟩ : (_ ∧ _) ∧ (_ ∧ _) ∧ (_ ∧ _) ∧ _ ∧ _ := ⟨⟨cellOf (unhide HD) 0, frozenOf (unhide HD) 0⟩, ⟨cellOf (unhide HD) 1, frozenOf (unhide HD) 1⟩, ⟨cellOf (unhide HD) 2, frozenOf (unhide HD) 2⟩, cellOf (unhide HD) 3, frozenOf (unhide HD) 3⟩
    replace HA := hide (DAns.setD (o := 3) (u := .slice ua els.length uc) (unhide HA) (unhide HD))
    replace HT := hide ((Below.heap_setCell w1 ⟨w.heap.size, 3, none⟩ (.slice ua els.length uc) (w.heap.size + 1) (by show w.heap.size + 1 ≠ w.heap.size; omega)).trans (unhide HT))
    replace HR := hide ((Below.heap_setCell w1 ⟨w.heap.size, 3, none⟩ (.slice ua els.length uc) (w.heap.size + 1 + 1) (by show w.heap.size + 1 + 1 ≠ w.heap.size; omega)).trans (unhide HR))
    replace HD := hide (heapSet (o := 3) (v := .slice ua els.length uc) (unhide HD))
    replace BW := hide (below_set (o := 3) (u := .slice ua els.length uc) (X := w.heap.size) (unhide BW) (unhide HB))
    replace BW0 := hide (below_set (o := 3) (u := .slice ua els.length uc) (X := w.heap.size) (unhide BW0) (Nat.le_refl _))
    obtain ⟨z0, z1, z2, z3⟩ : _ ∧ _ ∧ _ ∧ _ := ⟨cellOf (unhide HD) 0, cellOf (unhide HD) 1, cellOf (unhide HD) 2, cellOf (unhide HD) 3⟩
    obtain ⟨⟨r0, k0⟩, ⟨r1, k1⟩, ⟨r2, k2⟩, r3, k3⟩ : (_ ∧ _) ∧ (_ ∧ _) ∧ (_ ∧ _) ∧ _ ∧ _ := ⟨⟨cellOf (unhide HR) 0, frozenOf (unhide HR) 0⟩, ⟨cellOf (unhide HR) 1, frozenOf (unhide HR) 1⟩, ⟨cellOf (unhide HR) 2, frozenOf (unhide HR) 2⟩, cellOf (unhide HR) 3, frozenOf (unhide HR) 3⟩
    go_wp2
    obtain ⟨⟨q0, q1, q2, q3⟩, hans, hbel⟩ := endE (w := w) (unhide HR) (by have := unhide HB; omega) (unhide BW) (has := true) (unhide HA) rfl
    exact bodyPost_ret (v := .agg #[.slice a1 e1.length c1, .slice (some ⟨g, 0, none⟩) fl.length cf, .bool true, .slice ua els.length uc]) (by simp [results, Tryz.results57, go_sem, q0, q1, q2, q3]) rfl ⟨_, rfl, by rw [unhide HE]; exact ⟨_, _, _, e1, els, rfl, hans, rfl, unhide HM⟩, hbel⟩
  · obtain ⟨n, rfl⟩ := Int.eq_ofNat_of_zero_le (unhide HPB).1
    have HE : Hid (AA = ⟨e1.map (·.1), fl.set n (x), has, e2.map (·.1)⟩) := by show _ = _; rw [unhide HAA]; rfl
    have hn : n < fl.length := by have := (unhide HPB).2; omega
    have hpt := OwI.put (p := n) (x := x) (unhide HA).pf
    have q0 : W0.cell? ⟨g, n, none⟩ = some (.int .i64 (Ky.nth fl n)) := by
      rw [(unhide HA).pf.cellAt n (by omega), List.getElem?_map, List.getElem?_eq_getElem hn]
      unfold Ky.nth
      rw [List.getD_eq_getElem?_getD, List.getElem?_eq_getElem hn]
      rfl
    have q1 : W0.frozen? ⟨g, n, none⟩ = false := (unhide HA).pf.frozenAt n
    have nD : w.heap.size ≠ g := fun e => own_ne (unhide HA).pf (unhide HD) (by decide) (by rw [e]; rfl)
    have nT : w.heap.size + 1 ≠ g := fun e => own_ne (unhide HA).pf (unhide HT) (by decide) (by rw [e]; rfl)
    have nR : w.heap.size + 1 + 1 ≠ g := fun e => own_ne (unhide HA).pf (unhide HR) (by decide) (by rw [e]; rfl)
    have hi0 : (0 : Int) ≤ (n : Int) := Int.natCast_nonneg _
    have hi1 : (n : Int) < (fl.length : Int) := by omega
    obtain ⟨⟨x0, y0⟩, ⟨x1, y1⟩, ⟨x2, y2⟩, x3, y3⟩ : (_ ∧ _) ∧ (_ ∧ _) ∧ (_ ∧ _) ∧ _ ∧ _ := ⟨⟨cellOf (unhide HD) 0, frozenOf (unhide HD) 0⟩, ⟨cellOf (unhide HD) 1, frozenOf (unhide HD) 1⟩, ⟨cellOf (unhide HD) 2, frozenOf (unhide HD) 2⟩, cellOf (unhide HD) 3, frozenOf (unhide HD) 3⟩
    obtain ⟨t0, t1, t2, t3⟩ : _ ∧ _ ∧ _ ∧ _ := ⟨cellOf (unhide HT) 0, cellOf (unhide HT) 1, cellOf (unhide HT) 2, cellOf (unhide HT) 3⟩
    replace HA : Hid (DAns B (W0.setCell ⟨g, n, none⟩ (.int .i64 (x))) (.slice a1 e1.length c1) (.slice (some ⟨g, 0, none⟩) fl.length cf) (.slice a2 e2.length c2) e1 (fl.set n (x)) e2) := ⟨(unhide HA).p1.staysI (unhide HA).pf hpt.2, hpt.1, (unhide HA).p2.staysI (unhide HA).pf hpt.2, (unhide HA).far⟩
    replace HD := hide ((Below.heap_setCell W0 ⟨g, n, none⟩ (.int .i64 (x)) w.heap.size nD).trans (unhide HD))
    replace HR := hide ((Below.heap_setCell W0 ⟨g, n, none⟩ (.int .i64 (x)) (w.heap.size + 1 + 1) nR).trans (unhide HR))
    replace BW := hide (below_set (o := n) (u := .int .i64 (x)) (X := g) (unhide BW) (unhide HG))
    clear hpt BW0
    obtain ⟨z0, z1, z2, z3⟩ : _ ∧ _ ∧ _ ∧ _ := ⟨cellOf (unhide HD) 0, cellOf (unhide HD) 1, cellOf (unhide HD) 2, cellOf (unhide HD) 3⟩
    obtain ⟨⟨r0, k0⟩, ⟨r1, k1⟩, ⟨r2, k2⟩, r3, k3⟩ : (_ ∧ _) ∧ (_ ∧ _) ∧ (_ ∧ _) ∧ _ ∧ _ := ⟨⟨cellOf (unhide HR) 0, frozenOf (unhide HR) 0⟩, ⟨cellOf (unhide HR) 1, frozenOf (unhide HR) 1⟩, ⟨cellOf (unhide HR) 2, frozenOf (unhide HR) 2⟩, cellOf (unhide HR) 3, frozenOf (unhide HR) 3⟩
    have HN := hide hn
    clear hn
    go_wp2
    obtain ⟨⟨q0, q1, q2, q3⟩, hans, hbel⟩ := endE (w := w) (unhide HR) (by have := unhide HB; omega) (unhide BW) (has := has) (unhide HA) rfl
    exact bodyPost_ret (v := .agg #[.slice a1 e1.length c1, .slice (some ⟨g, 0, none⟩) fl.length cf, .bool has, .slice a2 e2.length c2]) (by simp [results, Tryz.results57, go_sem, q0, q1, q2, q3]) rfl ⟨_, rfl, by rw [unhide HE]; exact ⟨_, _, _, e1, e2, rfl, hans, rfl, rfl⟩, hbel⟩
  · have HE : Hid (AA = ⟨ps, fl, has, e2.map (·.1)⟩) := by show _ = _; rw [unhide HAA]; rfl
    obtain ⟨⟨x0, y0⟩, ⟨x1, y1⟩, ⟨x2, y2⟩, x3, y3⟩ : (_ ∧ _) ∧ (_ ∧ _) ∧ (_ ∧ _) ∧ _ ∧ _ := ⟨⟨cellOf (unhide HD) 0, frozenOf (unhide HD) 0⟩, ⟨cellOf (unhide HD) 1, frozenOf (unhide HD) 1⟩, ⟨cellOf (unhide HD) 2, frozenOf (unhide HD) 2⟩, cellOf (unhide HD) 3, frozenOf (unhide HD) 3⟩
    obtain ⟨t0, t1, t2, t3⟩ : _ ∧ _ ∧ _ ∧ _ := ⟨cellOf (unhide HT) 0, cellOf (unhide HT) 1, cellOf (unhide HT) 2, cellOf (unhide HT) 3⟩
    have CC := hide (l12Copy_any W0 _ ps ((unhide HP).later (unhide BW0)) (unhide HL))
    go_wp2_with fail
    refine (unhide CC).mono ?_
    rintro e w1 ⟨u, els, rfl, hP, hm, b⟩
    obtain ⟨ua, uc, hu⟩ := own_formS hP.own
    subst hu
    have hN : Hid (∀ g, blkP (.slice ua els.length uc) els g → ¬ blkP (.slice a2 e2.length c2) e2 g) := fun g hg hg2 => by
      have := (hP.lt g hg).1
      have := ((unhide HA).p2.lt g hg2).2
      omega
    have PN := hide (hP.base (B' := B) (by have := (unhide BW0).size; have := unhide HB; omega))
    have HM := hide hm
    replace HA := hide ((unhide HA).later b)
    replace HD := hide ((b.block _ (heapLt (unhide HD))).trans (unhide HD))
    replace HT := hide ((b.block _ (heapLt (unhide HT))).trans (unhide HT))
    replace HR := hide ((b.block _ (heapLt (unhide HR))).trans (unhide HR))
    replace BW := hide ((unhide BW).trans (b.mono (by have := (unhide BW0).size; have := unhide HB; omega)))
    replace BW0 := hide ((unhide BW0).trans (b.mono (unhide BW0).size))
    clear hP hm b CC x0 x1 x2 x3 y0 y1 y2 y3 t0 t1 t2 t3
    replace HA : Hid (DAns B w1 (.slice ua els.length uc) (.slice (some ⟨g, 0, none⟩) fl.length cf) (.slice a2 e2.length c2) els fl e2) := ⟨unhide PN, (unhide HA).pf, (unhide HA).p2, fun g hg hg2 => unhide hN g hg hg2⟩
    obtain ⟨⟨x0, y0⟩, ⟨x1, y1⟩, ⟨x2, y2⟩, x3, y3⟩ : (_ ∧ _) ∧ (_ ∧ _) ∧ (_ ∧ _) ∧ _ ∧ _ := ⟨⟨cellOf (unhide HD) 0, frozenOf (unhide HD) 0⟩, ⟨cellOf (unhide HD) 1, frozenOf (unhide HD) 1⟩, ⟨cellOf (unhide HD) 2, frozenOf (unhide HD) 2⟩, cellOf (unhide HD) 3, frozenOf (unhide HD) 3⟩
    replace HA := hide (DAns.setD (o := 0) (u := .slice ua els.length uc) (unhide HA) (unhide HD))
    replace HT := hide ((Below.heap_setCell w1 ⟨w.heap.size, 0, none⟩ (.slice ua els.length uc) (w.heap.size + 1) (by show w.heap.size + 1 ≠ w.heap.size; omega)).trans (unhide HT))
    replace HR := hide ((Below.heap_setCell w1 ⟨w.heap.size, 0, none⟩ (.slice ua els.length uc) (w.heap.size + 1 + 1) (by show w.heap.size + 1 + 1 ≠ w.heap.size; omega)).trans (unhide HR))
    replace HD := hide (heapSet (o := 0) (v := .slice ua els.length uc) (unhide HD))
    replace BW := hide (below_set (o := 0) (u := .slice ua els.length uc) (X := w.heap.size) (unhide BW) (unhide HB))
    replace BW0 := hide (below_set (o := 0) (u := .slice ua els.length uc) (X := w.heap.size) (unhide BW0) (Nat.le_refl _))
    obtain ⟨z0, z1, z2, z3⟩ : _ ∧ _ ∧ _ ∧ _ := ⟨cellOf (unhide HD) 0, cellOf (unhide HD) 1, cellOf (unhide HD) 2, cellOf (unhide HD) 3⟩
    obtain ⟨⟨r0, k0⟩, ⟨r1, k1⟩, ⟨r2, k2⟩, r3, k3⟩ : (_ ∧ _) ∧ (_ ∧ _) ∧ (_ ∧ _) ∧ _ ∧ _ := ⟨⟨cellOf (unhide HR) 0, frozenOf (unhide HR) 0⟩, ⟨cellOf (unhide HR) 1, frozenOf (unhide HR) 1⟩, ⟨cellOf (unhide HR) 2, frozenOf (unhide HR) 2⟩, cellOf (unhide HR) 3, frozenOf (unhide HR) 3⟩
    go_wp2
    obtain ⟨⟨q0, q1, q2, q3⟩, hans, hbel⟩ := endE (w := w) (unhide HR) (by have := unhide HB; omega) (unhide BW) (has := has) (unhide HA) rfl
    exact bodyPost_ret (v := .agg #[.slice ua els.length uc, .slice (some ⟨g, 0, none⟩) fl.length cf, .bool has, .slice a2 e2.length c2]) (by simp [results, Tryz.results57, go_sem, q0, q1, q2, q3]) rfl ⟨_, rfl, by rw [unhide HE]; exact ⟨_, _, _, els, e2, rfl, hans, unhide HM, rfl⟩, hbel⟩
  · have hO1 := fun g hg => ((unhide HA).p1.lt g hg).2
    have b0s := (unhide BW0).size
    have HE : Hid (AA = ⟨e1.map (·.1), fl, false, []⟩) := by show _ = _; rw [unhide HAA]; rfl
    obtain ⟨⟨x0, y0⟩, ⟨x1, y1⟩, ⟨x2, y2⟩, x3, y3⟩ : (_ ∧ _) ∧ (_ ∧ _) ∧ (_ ∧ _) ∧ _ ∧ _ := ⟨⟨cellOf (unhide HD) 0, frozenOf (unhide HD) 0⟩, ⟨cellOf (unhide HD) 1, frozenOf (unhide HD) 1⟩, ⟨cellOf (unhide HD) 2, frozenOf (unhide HD) 2⟩, cellOf (unhide HD) 3, frozenOf (unhide HD) 3⟩
    obtain ⟨t0, t1, t2, t3⟩ : _ ∧ _ ∧ _ ∧ _ := ⟨cellOf (unhide HT) 0, cellOf (unhide HT) 1, cellOf (unhide HT) 2, cellOf (unhide HT) 3⟩
    replace HA := hide (DAns.setD (o := 2) (u := .bool false) (unhide HA) (unhide HD))
    replace HT := hide ((Below.heap_setCell W0 ⟨w.heap.size, 2, none⟩ (.bool false) (w.heap.size + 1) (by show w.heap.size + 1 ≠ w.heap.size; omega)).trans (unhide HT))
    replace HR := hide ((Below.heap_setCell W0 ⟨w.heap.size, 2, none⟩ (.bool false) (w.heap.size + 1 + 1) (by show w.heap.size + 1 + 1 ≠ w.heap.size; omega)).trans (unhide HR))
    replace HD := hide (heapSet (o := 2) (v := .bool false) (unhide HD))
    replace BW := hide (below_set (o := 2) (u := .bool false) (X := w.heap.size) (unhide BW) (unhide HB))
    replace BW0 := hide (below_set (o := 2) (u := .bool false) (X := w.heap.size) (unhide BW0) (Nat.le_refl _))
    have b := below1 (W0.setCell ⟨w.heap.size, 2, none⟩ (.bool false)) (.cells #[] 94)
    have HX : Hid (((W0.setCell ⟨w.heap.size, 2, none⟩ (.bool false)).alloc (.cells #[] 94)).heap[W0.heap.size]? = some (.cells #[] 94 (0, 0))) := by have h := heap_alloc_new (W0.setCell ⟨w.heap.size, 2, none⟩ (.bool false)) (.cells #[] 94); rw [show (W0.setCell ⟨w.heap.size, 2, none⟩ (.bool false)).heap.size = W0.heap.size by simp [World.setCell]] at h; exact h
    have LX : Hid (B ≤ W0.heap.size) := by
      show B ≤ W0.heap.size
      have := b0s; have := unhide HB; omega
    replace HA := hide ((unhide HA).later b)
    replace HD := hide ((b.block _ (heapLt (unhide HD))).trans (unhide HD))
    replace HT := hide ((b.block _ (heapLt (unhide HT))).trans (unhide HT))
    replace HR := hide ((b.block _ (heapLt (unhide HR))).trans (unhide HR))
    replace BW := hide ((unhide BW).trans (b.mono (by have := (unhide BW0).size; have := unhide HB; omega)))
    replace BW0 := hide ((unhide BW0).trans (b.mono (unhide BW0).size))
    clear b
    have PN := hide (PAns.empty (unhide HX) (unhide LX))
    have hlt : ∀ g, blkP (.slice (some ⟨W0.heap.size, 0, none⟩) 0 0) [] g → g = W0.heap.size := fun g hg => by
      rcases hg with hg | ⟨e, he, _⟩
      · exact (Option.some.inj hg).symm
      · cases he
    have hold : Hid (∀ g, blkP (.slice a1 e1.length c1) e1 g → g < W0.heap.size) := hO1
    replace HA : Hid (DAns B ((W0.setCell ⟨w.heap.size, 2, none⟩ (.bool false)).alloc (.cells #[] 94)) (.slice a1 e1.length c1) (.slice (some ⟨g, 0, none⟩) fl.length cf) (.slice (some ⟨W0.heap.size, 0, none⟩) 0 0) e1 fl []) := ⟨(unhide HA).p1, (unhide HA).pf, unhide PN, fun g hg hg2 => by have := unhide hold g hg; have := hlt g hg2; omega⟩
    obtain ⟨⟨v0, j0⟩, ⟨v1, j1⟩, ⟨v2, j2⟩, v3, j3⟩ : (_ ∧ _) ∧ (_ ∧ _) ∧ (_ ∧ _) ∧ _ ∧ _ := ⟨⟨cellOf (unhide HD) 0, frozenOf (unhide HD) 0⟩, ⟨cellOf (unhide HD) 1, frozenOf (unhide HD) 1⟩, ⟨cellOf (unhide HD) 2, frozenOf (unhide HD) 2⟩, cellOf (unhide HD) 3, frozenOf (unhide HD) 3⟩
    replace HA := hide (DAns.setD (o := 3) (u := .slice (some ⟨W0.heap.size, 0, none⟩) 0 0) (unhide HA) (unhide HD))
    replace HT := hide ((Below.heap_setCell ((W0.setCell ⟨w.heap.size, 2, none⟩ (.bool false)).alloc (.cells #[] 94)) ⟨w.heap.size, 3, none⟩ (.slice (some ⟨W0.heap.size, 0, none⟩) 0 0) (w.heap.size + 1) (by show w.heap.size + 1 ≠ w.heap.size; omega)).trans (unhide HT))
    replace HR := hide ((Below.heap_setCell ((W0.setCell ⟨w.heap.size, 2, none⟩ (.bool false)).alloc (.cells #[] 94)) ⟨w.heap.size, 3, none⟩ (.slice (some ⟨W0.heap.size, 0, none⟩) 0 0) (w.heap.size + 1 + 1) (by show w.heap.size + 1 + 1 ≠ w.heap.size; omega)).trans (unhide HR))
    replace HD := hide (heapSet (o := 3) (v := .slice (some ⟨W0.heap.size, 0, none⟩) 0 0) (unhide HD))
    replace BW := hide (below_set (o := 3) (u := .slice (some ⟨W0.heap.size, 0, none⟩) 0 0) (X := w.heap.size) (unhide BW) (unhide HB))
    replace BW0 := hide (below_set (o := 3) (u := .slice (some ⟨W0.heap.size, 0, none⟩) 0 0) (X := w.heap.size) (unhide BW0) (Nat.le_refl _))
    obtain ⟨z0, z1, z2, z3⟩ : _ ∧ _ ∧ _ ∧ _ := ⟨cellOf (unhide HD) 0, cellOf (unhide HD) 1, cellOf (unhide HD) 2, cellOf (unhide HD) 3⟩
    obtain ⟨⟨r0, k0⟩, ⟨r1, k1⟩, ⟨r2, k2⟩, r3, k3⟩ : (_ ∧ _) ∧ (_ ∧ _) ∧ (_ ∧ _) ∧ _ ∧ _ := ⟨⟨cellOf (unhide HR) 0, frozenOf (unhide HR) 0⟩, ⟨cellOf (unhide HR) 1, frozenOf (unhide HR) 1⟩, ⟨cellOf (unhide HR) 2, frozenOf (unhide HR) 2⟩, cellOf (unhide HR) 3, frozenOf (unhide HR) 3⟩
    go_wp2
    obtain ⟨⟨q0, q1, q2, q3⟩, hans, hbel⟩ := endE (w := w) (unhide HR) (by have := unhide HB; omega) (unhide BW) (has := false) (unhide HA) rfl
    exact bodyPost_ret (v := .agg #[.slice a1 e1.length c1, .slice (some ⟨g, 0, none⟩) fl.length cf, .bool false, .slice (some ⟨W0.heap.size, 0, none⟩) 0 0]) (by simp [results, Tryz.results57, go_sem, q0, q1, q2, q3]) rfl ⟨_, rfl, by rw [unhide HE]; exact ⟨_, _, _, e1, [], rfl, hans, rfl, rfl⟩, hbel⟩

set_option linter.unusedSimpArgs false in
set_option maxHeartbeats 8000000 in
set_option maxRecDepth 100000 in
theorem l21Tear_any {B : Nat} (w : World) (has : Bool) (u1 uf u2 : Value) (e1 e2 : List El) (fl : List Int) (k p x : Int) (sa : Option Addr) (sc : Nat) (ps : List Ix.Pg) (h : DAns B w u1 uf u2 e1 fl e2) (hB : B ≤ w.heap.size) (hp : Pks (fun _ => True) w (.slice sa ps.length sc) ps) (hl : ps.length ≤ 1000) (hk : k = 1 ∨ k = 2 ∨ k = 3 ∨ k = 4) (p0 : 0 ≤ p) (p1 : p < fl.length) :
    Calls Tryz.prog 58 #[dkV u1 uf has u2, stV k p x (.slice sa ps.length sc)] w fun e w' => ∃ v, e = .returned v ∧ DkRet B w' (Dk.D.torn ⟨e1.map (·.1), fl, has, e2.map (·.1)⟩ ⟨k, p, x, ps⟩) v ∧ Below B w w' := by
  obtain ⟨a1, c1, i1⟩ := own_formS h.p1.own
  obtain ⟨g, cf, iff', hBg, hgl⟩ := h.pf.form (by omega)
  obtain ⟨a2, c2, i2⟩ := own_formS h.p2.own
  subst i1 iff' i2
  obtain ⟨AA, hAA⟩ : ∃ AA, AA = Dk.D.torn ⟨e1.map (·.1), fl, has, e2.map (·.1)⟩ ⟨k, p, x, ps⟩ := ⟨_, rfl⟩
  rw [← hAA]
  have HAA := hide hAA
  obtain ⟨b0, k0, k1, k2, kz⟩ := three_boxesD w (.cells #[.slice a1 e1.length c1, .slice (some ⟨g, 0, none⟩) fl.length cf, .bool has, .slice a2 e2.length c2] 31) (.cells #[.int .i64 k, .int .i64 p, .int .i64 x, .slice sa ps.length sc] 47) (.cells #[.slice none 0 0, .slice none 0 0, .bool false, .slice none 0 0] 31)
  have HD := hide k0
  have HT := hide k1
  have HR := hide k2
  have BW := hide (b0.mono hB)
  have BW0 := hide b0
  have HA := hide (h.later b0)
  have HP := hide hp
  have HPB := hide (And.intro p0 p1)
  have HB := hide hB
  have HG := hide hBg
  have HL := hide hl
  clear h hp b0 k0 k1 k2 kz p0 p1 hB hAA hBg hgl hl
  dsimp only [dkV, stV] at *
  go_enter Tryz.func58, Tryz.ntmps58
  go_upto_region 1 with fail
  generalize World.alloc _ _ = W0 at *
  rcases hk with rfl | rfl | rfl | rfl
  · have HE : Hid (AA = ⟨e1.map (·.1), fl, has, e2.map (·.1)⟩) := by show _ = _; rw [unhide HAA]; rfl
    obtain ⟨⟨x0, y0⟩, ⟨x1, y1⟩, ⟨x2, y2⟩, x3, y3⟩ : (_ ∧ _) ∧ (_ ∧ _) ∧ (_ ∧ _) ∧ _ ∧ _ := ⟨⟨cellOf (unhide HD) 0, frozenOf (unhide HD) 0⟩, ⟨cellOf (unhide HD) 1, frozenOf (unhide HD) 1⟩, ⟨cellOf (unhide HD) 2, frozenOf (unhide HD) 2⟩, cellOf (unhide HD) 3, frozenOf (unhide HD) 3⟩
    obtain ⟨t0, t1, t2, t3⟩ : _ ∧ _ ∧ _ ∧ _ := ⟨cellOf (unhide HT) 0, cellOf (unhide HT) 1, cellOf (unhide HT) 2, cellOf (unhide HT) 3⟩
    obtain ⟨⟨r0, k0⟩, ⟨r1, k1⟩, ⟨r2, k2⟩, r3, k3⟩ : (_ ∧ _) ∧ (_ ∧ _) ∧ (_ ∧ _) ∧ _ ∧ _ := ⟨⟨cellOf (unhide HR) 0, frozenOf (unhide HR) 0⟩, ⟨cellOf (unhide HR) 1, frozenOf (unhide HR) 1⟩, ⟨cellOf (unhide HR) 2, frozenOf (unhide HR) 2⟩, cellOf (unhide HR) 3, frozenOf (unhide HR) 3⟩
    go_wp2
    obtain ⟨⟨q0, q1, q2, q3⟩, hans, hbel⟩ := endE (w := w) (unhide HR) (by have := unhide HB; omega) (unhide BW) (has := has) (unhide HA) rfl
    exact bodyPost_ret (v := .agg #[.slice a1 e1.length c1, .slice (some ⟨g, 0, none⟩) fl.length cf, .bool has, .slice a2 e2.length c2]) (by simp [results, Tryz.results58, go_sem, q0, q1, q2, q3]) rfl ⟨_, rfl, by rw [unhide HE]; exact ⟨_, _, _, e1, e2, rfl, hans, rfl, rfl⟩, hbel⟩
  · obtain ⟨n, rfl⟩ := Int.eq_ofNat_of_zero_le (unhide HPB).1
    have HE : Hid (AA = ⟨e1.map (·.1), fl.set n (-2), has, e2.map (·.1)⟩) := by show _ = _; rw [unhide HAA]; rfl
    have hn : n < fl.length := by have := (unhide HPB).2; omega
    have hpt := OwI.put (p := n) (x := -2) (unhide HA).pf
    have q0 : W0.cell? ⟨g, n, none⟩ = some (.int .i64 (Ky.nth fl n)) := by
      rw [(unhide HA).pf.cellAt n (by omega), List.getElem?_map, List.getElem?_eq_getElem hn]
      unfold Ky.nth
      rw [List.getD_eq_getElem?_getD, List.getElem?_eq_getElem hn]
      rfl
    have q1 : W0.frozen? ⟨g, n, none⟩ = false := (unhide HA).pf.frozenAt n
    have nD : w.heap.size ≠ g := fun e => own_ne (unhide HA).pf (unhide HD) (by decide) (by rw [e]; rfl)
    have nT : w.heap.size + 1 ≠ g := fun e => own_ne (unhide HA).pf (unhide HT) (by decide) (by rw [e]; rfl)
    have nR : w.heap.size + 1 + 1 ≠ g := fun e => own_ne (unhide HA).pf (unhide HR) (by decide) (by rw [e]; rfl)
    have hi0 : (0 : Int) ≤ (n : Int) := Int.natCast_nonneg _
    have hi1 : (n : Int) < (fl.length : Int) := by omega
    obtain ⟨⟨x0, y0⟩, ⟨x1, y1⟩, ⟨x2, y2⟩, x3, y3⟩ : (_ ∧ _) ∧ (_ ∧ _) ∧ (_ ∧ _) ∧ _ ∧ _ := ⟨⟨cellOf (unhide HD) 0, frozenOf (unhide HD) 0⟩, ⟨cellOf (unhide HD) 1, frozenOf (unhide HD) 1⟩, ⟨cellOf (unhide HD) 2, frozenOf (unhide HD) 2⟩, cellOf (unhide HD) 3, frozenOf (unhide HD) 3⟩
    obtain ⟨t0, t1, t2, t3⟩ : _ ∧ _ ∧ _ ∧ _ := ⟨cellOf (unhide HT) 0, cellOf (unhide HT) 1, cellOf (unhide HT) 2, cellOf (unhide HT) 3⟩
    replace HA : Hid (DAns B (W0.setCell ⟨g, n, none⟩ (.int .i64 (-2))) (.slice a1 e1.length c1) (.slice (some ⟨g, 0, none⟩) fl.length cf) (.slice a2 e2.length c2) e1 (fl.set n (-2)) e2) := ⟨(unhide HA).p1.staysI (unhide HA).pf hpt.2, hpt.1, (unhide HA).p2.staysI (unhide HA).pf hpt.2, (unhide HA).far⟩
    replace HD := hide ((Below.heap_setCell W0 ⟨g, n, none⟩ (.int .i64 (-2)) w.heap.size nD).trans (unhide HD))
    replace HR := hide ((Below.heap_setCell W0 ⟨g, n, none⟩ (.int .i64 (-2)) (w.heap.size + 1 + 1) nR).trans (unhide HR))
    replace BW := hide (below_set (o := n) (u := .int .i64 (-2)) (X := g) (unhide BW) (unhide HG))
    clear hpt BW0
    obtain ⟨z0, z1, z2, z3⟩ : _ ∧ _ ∧ _ ∧ _ := ⟨cellOf (unhide HD) 0, cellOf (unhide HD) 1, cellOf (unhide HD) 2, cellOf (unhide HD) 3⟩
    obtain ⟨⟨r0, k0⟩, ⟨r1, k1⟩, ⟨r2, k2⟩, r3, k3⟩ : (_ ∧ _) ∧ (_ ∧ _) ∧ (_ ∧ _) ∧ _ ∧ _ := ⟨⟨cellOf (unhide HR) 0, frozenOf (unhide HR) 0⟩, ⟨cellOf (unhide HR) 1, frozenOf (unhide HR) 1⟩, ⟨cellOf (unhide HR) 2, frozenOf (unhide HR) 2⟩, cellOf (unhide HR) 3, frozenOf (unhide HR) 3⟩
    have HN := hide hn
    clear hn
    go_wp2
    obtain ⟨⟨q0, q1, q2, q3⟩, hans, hbel⟩ := endE (w := w) (unhide HR) (by have := unhide HB; omega) (unhide BW) (has := has) (unhide HA) rfl
    exact bodyPost_ret (v := .agg #[.slice a1 e1.length c1, .slice (some ⟨g, 0, none⟩) fl.length cf, .bool has, .slice a2 e2.length c2]) (by simp [results, Tryz.results58, go_sem, q0, q1, q2, q3]) rfl ⟨_, rfl, by rw [unhide HE]; exact ⟨_, _, _, e1, e2, rfl, hans, rfl, rfl⟩, hbel⟩
  · have hO2 := fun g hg => ((unhide HA).p2.lt g hg).2
    have b0s := (unhide BW0).size
    have HE : Hid (AA = ⟨[], fl, has, e2.map (·.1)⟩) := by show _ = _; rw [unhide HAA]; rfl
    obtain ⟨⟨x0, y0⟩, ⟨x1, y1⟩, ⟨x2, y2⟩, x3, y3⟩ : (_ ∧ _) ∧ (_ ∧ _) ∧ (_ ∧ _) ∧ _ ∧ _ := ⟨⟨cellOf (unhide HD) 0, frozenOf (unhide HD) 0⟩, ⟨cellOf (unhide HD) 1, frozenOf (unhide HD) 1⟩, ⟨cellOf (unhide HD) 2, frozenOf (unhide HD) 2⟩, cellOf (unhide HD) 3, frozenOf (unhide HD) 3⟩
    obtain ⟨t0, t1, t2, t3⟩ : _ ∧ _ ∧ _ ∧ _ := ⟨cellOf (unhide HT) 0, cellOf (unhide HT) 1, cellOf (unhide HT) 2, cellOf (unhide HT) 3⟩
    have b := below1 W0 (.cells #[] 94)
    have HX : Hid ((W0.alloc (.cells #[] 94)).heap[W0.heap.size]? = some (.cells #[] 94 (0, 0))) := heap_alloc_new _ _
    have LX : Hid (B ≤ W0.heap.size) := by
      show B ≤ W0.heap.size
      have := b0s; have := unhide HB; omega
    replace HA := hide ((unhide HA).later b)
    replace HD := hide ((b.block _ (heapLt (unhide HD))).trans (unhide HD))
    replace HT := hide ((b.block _ (heapLt (unhide HT))).trans (unhide HT))
    replace HR := hide ((b.block _ (heapLt (unhide HR))).trans (unhide HR))
    replace BW := hide ((unhide BW).trans (b.mono (by have := (unhide BW0).size; have := unhide HB; omega)))
    replace BW0 := hide ((unhide BW0).trans (b.mono (unhide BW0).size))
    clear b
    have PN := hide (PAns.empty (unhide HX) (unhide LX))
    have hlt : ∀ g, blkP (.slice (some ⟨W0.heap.size, 0, none⟩) 0 0) [] g → g = W0.heap.size := fun g hg => by
      rcases hg with hg | ⟨e, he, _⟩
      · exact (Option.some.inj hg).symm
      · cases he
    have hold : Hid (∀ g, blkP (.slice a2 e2.length c2) e2 g → g < W0.heap.size) := hO2
    replace HA : Hid (DAns B (W0.alloc (.cells #[] 94)) (.slice (some ⟨W0.heap.size, 0, none⟩) 0 0) (.slice (some ⟨g, 0, none⟩) fl.length cf) (.slice a2 e2.length c2) [] fl e2) := ⟨unhide PN, (unhide HA).pf, (unhide HA).p2, fun g hg hg2 => by have := unhide hold g hg2; have := hlt g hg; omega⟩
    obtain ⟨⟨v0, j0⟩, ⟨v1, j1⟩, ⟨v2, j2⟩, v3, j3⟩ : (_ ∧ _) ∧ (_ ∧ _) ∧ (_ ∧ _) ∧ _ ∧ _ := ⟨⟨cellOf (unhide HD) 0, frozenOf (unhide HD) 0⟩, ⟨cellOf (unhide HD) 1, frozenOf (unhide HD) 1⟩, ⟨cellOf (unhide HD) 2, frozenOf (unhide HD) 2⟩, cellOf (unhide HD) 3, frozenOf (unhide HD) 3⟩
    replace HA := hide (DAns.setD (o := 0) (u := .slice (some ⟨W0.heap.size, 0, none⟩) 0 0) (unhide HA) (unhide HD))
    replace HT := hide ((Below.heap_setCell (W0.alloc (.cells #[] 94)) ⟨w.heap.size, 0, none⟩ (.slice (some ⟨W0.heap.size, 0, none⟩) 0 0) (w.heap.size + 1) (by show w.heap.size + 1 ≠ w.heap.size; omega)).trans (unhide HT))
    replace HR := hide ((Below.heap_setCell (W0.alloc (.cells #[] 94)) ⟨w.heap.size, 0, none⟩ (.slice (some ⟨W0.heap.size, 0, none⟩) 0 0) (w.heap.size + 1 + 1) (by show w.heap.size + 1 + 1 ≠ w.heap.size; omega)).trans (unhide HR))
    replace HD := hide (heapSet (o := 0) (v := .slice (some ⟨W0.heap.size, 0, none⟩) 0 0) (unhide HD))
    replace BW := hide (below_set (o := 0) (u := .slice (some ⟨W0.heap.size, 0, none⟩) 0 0) (X := w.heap.size) (unhide BW) (unhide HB))
    replace BW0 := hide (below_set (o := 0) (u := .slice (some ⟨W0.heap.size, 0, none⟩) 0 0) (X := w.heap.size) (unhide BW0) (Nat.le_refl _))
    obtain ⟨z0, z1, z2, z3⟩ : _ ∧ _ ∧ _ ∧ _ := ⟨cellOf (unhide HD) 0, cellOf (unhide HD) 1, cellOf (unhide HD) 2, cellOf (unhide HD) 3⟩
    obtain ⟨⟨r0, k0⟩, ⟨r1, k1⟩, ⟨r2, k2⟩, r3, k3⟩ : (_ ∧ _) ∧ (_ ∧ _) ∧ (_ ∧ _) ∧ _ ∧ _ := ⟨⟨cellOf (unhide HR) 0, frozenOf (unhide HR) 0⟩, ⟨cellOf (unhide HR) 1, frozenOf (unhide HR) 1⟩, ⟨cellOf (unhide HR) 2, frozenOf (unhide HR) 2⟩, cellOf (unhide HR) 3, frozenOf (unhide HR) 3⟩
    go_wp2
    obtain ⟨⟨q0, q1, q2, q3⟩, hans, hbel⟩ := endE (w := w) (unhide HR) (by have := unhide HB; omega) (unhide BW) (has := has) (unhide HA) rfl
    exact bodyPost_ret (v := .agg #[.slice (some ⟨W0.heap.size, 0, none⟩) 0 0, .slice (some ⟨g, 0, none⟩) fl.length cf, .bool has, .slice a2 e2.length c2]) (by simp [results, Tryz.results58, go_sem, q0, q1, q2, q3]) rfl ⟨_, rfl, by rw [unhide HE]; exact ⟨_, _, _, [], e2, rfl, hans, rfl, rfl⟩, hbel⟩
  · have HE : Hid (AA = ⟨e1.map (·.1), fl, has, e2.map (·.1)⟩) := by show _ = _; rw [unhide HAA]; rfl
    obtain ⟨⟨x0, y0⟩, ⟨x1, y1⟩, ⟨x2, y2⟩, x3, y3⟩ : (_ ∧ _) ∧ (_ ∧ _) ∧ (_ ∧ _) ∧ _ ∧ _ := ⟨⟨cellOf (unhide HD) 0, frozenOf (unhide HD) 0⟩, ⟨cellOf (unhide HD) 1, frozenOf (unhide HD) 1⟩, ⟨cellOf (unhide HD) 2, frozenOf (unhide HD) 2⟩, cellOf (unhide HD) 3, frozenOf (unhide HD) 3⟩
    obtain ⟨t0, t1, t2, t3⟩ : _ ∧ _ ∧ _ ∧ _ := ⟨cellOf (unhide HT) 0, cellOf (unhide HT) 1, cellOf (unhide HT) 2, cellOf (unhide HT) 3⟩
    obtain ⟨⟨r0, k0⟩, ⟨r1, k1⟩, ⟨r2, k2⟩, r3, k3⟩ : (_ ∧ _) ∧ (_ ∧ _) ∧ (_ ∧ _) ∧ _ ∧ _ := ⟨⟨cellOf (unhide HR) 0, frozenOf (unhide HR) 0⟩, ⟨cellOf (unhide HR) 1, frozenOf (unhide HR) 1⟩, ⟨cellOf (unhide HR) 2, frozenOf (unhide HR) 2⟩, cellOf (unhide HR) 3, frozenOf (unhide HR) 3⟩
    go_wp2
    obtain ⟨⟨q0, q1, q2, q3⟩, hans, hbel⟩ := endE (w := w) (unhide HR) (by have := unhide HB; omega) (unhide BW) (has := has) (unhide HA) rfl
    exact bodyPost_ret (v := .agg #[.slice a1 e1.length c1, .slice (some ⟨g, 0, none⟩) fl.length cf, .bool has, .slice a2 e2.length c2]) (by simp [results, Tryz.results58, go_sem, q0, q1, q2, q3]) rfl ⟨_, rfl, by rw [unhide HE]; exact ⟨_, _, _, e1, e2, rfl, hans, rfl, rfl⟩, hbel⟩
end Go.Proofs.YtkhanndmbpemfaaGreatDoor
