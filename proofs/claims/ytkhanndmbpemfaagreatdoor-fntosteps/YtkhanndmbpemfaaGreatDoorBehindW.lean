import Derived.Test.YtkhanndmbpemfaaGreatDoorMix17
import Derived.Test.YtkhanndmbpemfaaGreatDoorDoingW
/- What impl.DiskDo and impl.DiskTear return: the disk behind a step, done or torn, in rows of its own; for every disk and step that can be read. -/
namespace Go.Proofs.YtkhanndmbpemfaaGreatDoor
open Go.RowKit Go.Maps

attribute [local go_sem ↓] Go.wp_at_zero Go.wp_at_succ

namespace Dk
def D.none : D := ⟨[], [], false, []⟩
def D.step (d : D) (s : S) : D :=
  if s.k = 1 then { d with has := true, jr := s.ps } else if s.k = 2 then { d with fl := d.fl.set s.p.toNat s.x } else if s.k = 3 then { d with db := s.ps } else { d with has := false, jr := [] }
def D.torn (d : D) (s : S) : D := if s.k = 2 then { d with fl := d.fl.set s.p.toNat (-2) } else if s.k = 3 then { d with db := [] } else d
def doA (d : D) (s : S) : D × Bool := if d.ok = true ∧ s.ok = true then (d.step s, true) else (D.none, false)
def tearA (d : D) (s : S) : D × Bool := if d.ok = true ∧ s.ok = true then (d.torn s, true) else (D.none, false)
theorem S.ok_get {s : S} (h : s.ok = true) : (s.k = 1 ∨ s.k = 2 ∨ s.k = 3 ∨ s.k = 4) ∧ (0 ≤ s.p ∧ s.p ≤ 5) ∧ (-1 ≤ s.x ∧ s.x ≤ 9) ∧ Ix.planOk s.ps = true := by
  unfold S.ok at h
  rw [Bool.and_eq_true, Bool.and_eq_true, Bool.and_eq_true] at h
  refine ⟨?_, Pk.inB_true.1 h.2.1, Pk.inB_true.1 h.2.2.1, h.2.2.2⟩
  have ho := h.1
  unfold S.own at ho
  by_cases h1 : s.k = 1
  · exact .inl h1
  by_cases h3 : s.k = 3
  · exact .inr (.inr (.inl h3))
  by_cases h2 : s.k = 2
  · exact .inr (.inl h2)
  by_cases h4 : s.k = 4
  · exact .inr (.inr (.inr h4))
  rw [if_neg (by omega), if_neg h2, if_neg h4] at ho
  cases ho
end Dk
theorem wp_lookF (w : World) {o : Oper} {a : Act} {K : Act → World → Prop} {Q : Exit → Act → World → Prop}
    (m x : Operand) (t : TypeId) (hop : o.op = Op.lookup t m x false) (e : TypeId) (ht : Tryz.prog.underlying t = some (.map 3 e)) (hz : (zeroValue e).run Tryz.prog w = .ok nilF w) (b n : Nat) (V : Int → Value)
    (hm : a.eval m = .map (some b)) (h : MapF w b n V) (i : Int) (hx : a.eval x = .int .i64 i) (h0 : -9223372036854775808 ≤ i) (h1 : i ≤ 9223372036854775807)
    (hK : K (a.put o.dst (V i)) w) : o.wp Tryz.prog a w K Q := by
  have hrun := h.look ht hz h0 h1
  unfold Oper.wp
  simp [execOp, hop, hm, hx, hrun, Result.andThen]
  exact hK
theorem zeroF (w : World) : (zeroValue 66).run Tryz.prog w = .ok nilF w := by kernel_rfl

set_option maxHeartbeats 4000000 in
set_option maxRecDepth 100000 in
theorem closed_any {B : Nat} (w : World) (O : Nat) (has : Bool) (v2 v1 vf : Value) (e1 e2 : List El) (fl : List Int) (h : Op B w O has v2 v1 vf e1 fl e2) (hB : B ≤ w.heap.size) :
    Calls Tryz.prog 36 #[.pointer (some ⟨O, 0, none⟩)] w fun e w' => e = .returned (dkV v1 vf has v2) ∧ DAns B w' v1 vf v2 e1 fl e2 ∧ Below B w w' := by
  have b0 := below1 w (.cells #[.slice none 0 0, .slice none 0 0, .bool false, .slice none 0 0] 31)
  have HR := hide (heap_alloc_new w (.cells #[.slice none 0 0, .slice none 0 0, .bool false, .slice none 0 0] 31))
  have HO := hide (h.later b0)
  have BW := hide (b0.mono hB)
  have hlo := h.lo
  obtain ⟨a1, c1, i1⟩ := own_formS h.ans.p1.own
  obtain ⟨af, cf, iff'⟩ := own_formS h.ans.pf
  obtain ⟨a2, c2, i2⟩ := own_formS h.ans.p2.own
  subst i1 iff' i2
  clear h b0
  dsimp only [dkV]
  go_enter Tryz.func36, Tryz.ntmps36
  go_wp2_with fail
  generalize w.alloc _ = W0 at *
  obtain ⟨⟨z0, y0⟩, ⟨z1, y1⟩, ⟨z2, y2⟩, z3, y3⟩ : (_ ∧ _) ∧ (_ ∧ _) ∧ (_ ∧ _) ∧ _ ∧ _ := ⟨⟨cellOf (unhide HR) 0, frozenOf (unhide HR) 0⟩, ⟨cellOf (unhide HR) 1, frozenOf (unhide HR) 1⟩, ⟨cellOf (unhide HR) 2, frozenOf (unhide HR) 2⟩, cellOf (unhide HR) 3, frozenOf (unhide HR) 3⟩
  have HR0 := HR
  have HO0 := HO
  have BW0 := BW
  have hd := below_drew W0
  replace HR := hide ((hd.block _ (heapLt (unhide HR))).trans (unhide HR))
  replace HO := hide ((unhide HO).later hd)
  replace BW := hide ((unhide BW).trans (hd.mono (by have := (unhide BW).size; omega)))
  clear hd
  have hSS : W0.drew.cell? ⟨O, 0, none⟩ = some (.bool has) ∧ W0.drew.cell? ⟨O, 1, none⟩ = some (.slice a2 e2.length c2) ∧ W0.drew.cell? ⟨O, 2, none⟩ = some (.slice a1 e1.length c1) ∧ W0.drew.cell? ⟨O, 3, none⟩ = some (.slice af fl.length cf) := ⟨cellOf (unhide HO).box 0, cellOf (unhide HO).box 1, cellOf (unhide HO).box 2, cellOf (unhide HO).box 3⟩
  refine wl_region (S := fun w' => w'.cell? ⟨O, 0, none⟩ = some (.bool has) ∧ w'.cell? ⟨O, 1, none⟩ = some (.slice a2 e2.length c2) ∧ w'.cell? ⟨O, 2, none⟩ = some (.slice a1 e1.length c1) ∧ w'.cell? ⟨O, 3, none⟩ = some (.slice af fl.length cf)) (s := 19) (by kernel_rfl) hSS (fun hHeld => ?_)
  clear hSS
  refine wl_take (i := 0) (d := some 3) rfl rfl (by kernel_rfl) (by kernel_rfl) (by kernel_rfl) (by kernel_rfl) (by kernel_rfl) (fun _ _ _ h => h) (by rfl) (v := ?_) ?_ (by assumption) ?_
  rotate_left
  · (intro w hSw; (try dsimp only at hSw); go_simp <;> with_reducible rfl)
  simp only [Act.put, List.setIfInBounds_toArray, List.set_cons_zero, List.set_cons_succ]
  refine wl_take (i := 1) (d := some 4) rfl rfl (by kernel_rfl) (by kernel_rfl) (by kernel_rfl) (by kernel_rfl) (by kernel_rfl) (fun _ _ _ h => h) (by rfl) (v := ?_) ?_ (by assumption) ?_
  rotate_left
  · (intro w hSw; (try dsimp only at hSw); go_simp <;> with_reducible rfl)
  simp only [Act.put, List.setIfInBounds_toArray, List.set_cons_zero, List.set_cons_succ]
  refine wl_take (i := 2) (d := some 5) rfl rfl (by kernel_rfl) (by kernel_rfl) (by kernel_rfl) (by kernel_rfl) (by kernel_rfl) (fun _ _ _ h => h) (by rfl) (v := ?_) ?_ (by assumption) ?_
  rotate_left
  · (intro w hSw; (try dsimp only at hSw); go_simp <;> with_reducible rfl)
  simp only [Act.put, List.setIfInBounds_toArray, List.set_cons_zero, List.set_cons_succ]
  refine wl_take (i := 3) (d := some 6) rfl rfl (by kernel_rfl) (by kernel_rfl) (by kernel_rfl) (by kernel_rfl) (by kernel_rfl) (fun _ _ _ h => h) (by rfl) (v := ?_) ?_ (by assumption) ?_
  rotate_left
  · (intro w hSw; (try dsimp only at hSw); go_simp <;> with_reducible rfl)
  simp only [Act.put, List.setIfInBounds_toArray, List.set_cons_zero, List.set_cons_succ]
  refine wl_take (i := 4) (d := some 7) rfl rfl (by kernel_rfl) (by kernel_rfl) (by kernel_rfl) (by kernel_rfl) (by kernel_rfl) (fun _ _ _ h => h) (by rfl) (v := ?_) ?_ (by assumption) ?_
  rotate_left
  · (intro w hSw; (try dsimp only at hSw); go_simp <;> with_reducible rfl)
  simp only [Act.put, List.setIfInBounds_toArray, List.set_cons_zero, List.set_cons_succ]
  refine wl_take (i := 5) (d := some 8) rfl rfl (by kernel_rfl) (by kernel_rfl) (by kernel_rfl) (by kernel_rfl) (by kernel_rfl) (fun _ _ _ h => h) (by rfl) (v := ?_) ?_ (by assumption) ?_
  rotate_left
  · (intro w hSw; (try dsimp only at hSw); go_simp <;> with_reducible rfl)
  simp only [Act.put, List.setIfInBounds_toArray, List.set_cons_zero, List.set_cons_succ]
  refine wl_take (i := 6) (d := some 9) rfl rfl (by kernel_rfl) (by kernel_rfl) (by kernel_rfl) (by kernel_rfl) (by kernel_rfl) (fun _ _ _ h => h) (by rfl) (v := ?_) ?_ (by assumption) ?_
  rotate_left
  · (intro w hSw; (try dsimp only at hSw); go_simp <;> with_reducible rfl)
  simp only [Act.put, List.setIfInBounds_toArray, List.set_cons_zero, List.set_cons_succ]
  refine wl_take (i := 7) (d := some 10) rfl rfl (by kernel_rfl) (by kernel_rfl) (by kernel_rfl) (by kernel_rfl) (by kernel_rfl) (fun _ _ _ h => h) (by rfl) (v := ?_) ?_ (by assumption) ?_
  rotate_left
  · (intro w hSw; (try dsimp only at hSw); go_simp <;> with_reducible rfl)
  simp only [Act.put, List.setIfInBounds_toArray, List.set_cons_zero, List.set_cons_succ]
  refine wl_take (i := 8) (d := some 11) rfl rfl (by kernel_rfl) (by kernel_rfl) (by kernel_rfl) (by kernel_rfl) (by kernel_rfl) (fun _ _ _ h => h) (by rfl) (v := ?_) ?_ (by assumption) ?_
  rotate_left
  · (intro w hSw; (try dsimp only at hSw); go_simp <;> with_reducible rfl)
  simp only [Act.put, List.setIfInBounds_toArray, List.set_cons_zero, List.set_cons_succ]
  refine wl_take (i := 9) (d := some 12) rfl rfl (by kernel_rfl) (by kernel_rfl) (by kernel_rfl) (by kernel_rfl) (by kernel_rfl) (fun _ _ _ h => h) (by rfl) (v := ?_) ?_ (by assumption) ?_
  rotate_left
  · (intro w hSw; (try dsimp only at hSw); go_simp <;> with_reducible rfl)
  simp only [Act.put, List.setIfInBounds_toArray, List.set_cons_zero, List.set_cons_succ]
  refine wl_take (i := 10) (d := some 13) rfl rfl (by kernel_rfl) (by kernel_rfl) (by kernel_rfl) (by kernel_rfl) (by kernel_rfl) (fun _ _ _ h => h) (by rfl) (v := ?_) ?_ (by assumption) ?_
  rotate_left
  · (intro w hSw; (try dsimp only at hSw); go_simp <;> with_reducible rfl)
  simp only [Act.put, List.setIfInBounds_toArray, List.set_cons_zero, List.set_cons_succ]
  refine wl_take (i := 11) (d := some 14) rfl rfl (by kernel_rfl) (by kernel_rfl) (by kernel_rfl) (by kernel_rfl) (by kernel_rfl) (fun _ _ _ h => h) (by rfl) (v := ?_) ?_ (by assumption) ?_
  rotate_left
  · (intro w hSw; (try dsimp only at hSw); go_simp <;> with_reducible rfl)
  simp only [Act.put, List.setIfInBounds_toArray, List.set_cons_zero, List.set_cons_succ]
  refine wl_take (i := 12) (d := some 15) rfl rfl (by kernel_rfl) (by kernel_rfl) (by kernel_rfl) (by kernel_rfl) (by kernel_rfl) (fun _ _ _ h => h) (by rfl) (v := ?_) ?_ (by assumption) ?_
  rotate_left
  · (intro w hSw; (try dsimp only at hSw); go_simp <;> with_reducible rfl)
  simp only [Act.put, List.setIfInBounds_toArray, List.set_cons_zero, List.set_cons_succ]
  refine wl_take (i := 13) (d := some 16) rfl rfl (by kernel_rfl) (by kernel_rfl) (by kernel_rfl) (by kernel_rfl) (by kernel_rfl) (fun _ _ _ h => h) (by rfl) (v := ?_) ?_ (by assumption) ?_
  rotate_left
  · (intro w hSw; (try dsimp only at hSw); go_simp <;> with_reducible rfl)
  simp only [Act.put, List.setIfInBounds_toArray, List.set_cons_zero, List.set_cons_succ]
  refine wl_take (i := 14) (d := some 17) rfl rfl (by kernel_rfl) (by kernel_rfl) (by kernel_rfl) (by kernel_rfl) (by kernel_rfl) (fun _ _ _ h => h) (by rfl) (v := ?_) ?_ (by assumption) ?_
  rotate_left
  · (intro w hSw; (try dsimp only at hSw); go_simp <;> with_reducible rfl)
  simp only [Act.put, List.setIfInBounds_toArray, List.set_cons_zero, List.set_cons_succ]
  refine wl_take (i := 15) (d := some 18) rfl rfl (by kernel_rfl) (by kernel_rfl) (by kernel_rfl) (by kernel_rfl) (by kernel_rfl) (fun _ _ _ h => h) (by rfl) (v := ?_) ?_ (by assumption) ?_
  rotate_left
  · (intro w hSw; (try dsimp only at hSw); go_simp <;> with_reducible rfl)
  simp only [Act.put, List.setIfInBounds_toArray, List.set_cons_zero, List.set_cons_succ]
  refine wl_take (i := 16) (d := some 19) rfl rfl (by kernel_rfl) (by kernel_rfl) (by kernel_rfl) (by kernel_rfl) (by kernel_rfl) (fun _ _ _ h => h) (by rfl) (v := ?_) ?_ (by assumption) ?_
  rotate_left
  · (intro w hSw; (try dsimp only at hSw); go_simp <;> with_reducible rfl)
  simp only [Act.put, List.setIfInBounds_toArray, List.set_cons_zero, List.set_cons_succ]
  refine wl_take (i := 17) (d := some 20) rfl rfl (by kernel_rfl) (by kernel_rfl) (by kernel_rfl) (by kernel_rfl) (by kernel_rfl) (fun _ _ _ h => h) (by rfl) (v := ?_) ?_ (by assumption) ?_
  rotate_left
  · (intro w hSw; (try dsimp only at hSw); go_simp <;> with_reducible rfl)
  simp only [Act.put, List.setIfInBounds_toArray, List.set_cons_zero, List.set_cons_succ]
  refine wl_take (i := 18) (d := some 21) rfl rfl (by kernel_rfl) (by kernel_rfl) (by kernel_rfl) (by kernel_rfl) (by kernel_rfl) (fun _ _ _ h => h) (by rfl) (v := ?_) ?_ (by assumption) ?_
  rotate_left
  · (intro w hSw; (try dsimp only at hSw); go_simp <;> with_reducible rfl)
  simp only [Act.put, List.setIfInBounds_toArray, List.set_cons_zero, List.set_cons_succ]
  refine wl_one (i := 19) (by kernel_rfl) rfl (by rfl) (fun K hK => ?_)
  go_simp
  refine hK.out _ _ (fun h => absurd rfl h) ?_
  clear hK K
  refine wl_done (by kernel_rfl) ?_
  clear hHeld z0 z1 z2 z3 y0 y1 y2 y3
  go_wp2
  have far : ∀ W' : World, W' = (((W0.setCell ⟨w.heap.size, 0, none⟩ (.slice a1 e1.length c1)).setCell ⟨w.heap.size, 1, none⟩ (.slice af fl.length cf)).setCell ⟨w.heap.size, 2, none⟩ (.bool has)).setCell ⟨w.heap.size, 3, none⟩ (.slice a2 e2.length c2) → (W'.cell? ⟨w.heap.size, 0, none⟩ = some (.slice a1 e1.length c1) ∧ W'.cell? ⟨w.heap.size, 1, none⟩ = some (.slice af fl.length cf) ∧ W'.cell? ⟨w.heap.size, 2, none⟩ = some (.bool has) ∧ W'.cell? ⟨w.heap.size, 3, none⟩ = some (.slice a2 e2.length c2)) ∧ DAns B W' (.slice a1 e1.length c1) (.slice af fl.length cf) (.slice a2 e2.length c2) e1 fl e2 ∧ Below B w W' := fun W' hW' => by
    have hfar : ∀ k, k ≠ w.heap.size → W'.heap[k]? = W0.heap[k]? := fun k hk => by rw [hW', Below.heap_setCell _ _ _ _ hk, Below.heap_setCell _ _ _ _ hk, Below.heap_setCell _ _ _ _ hk, Below.heap_setCell _ _ _ _ hk]
    have h' : W'.heap[w.heap.size]? = some (.cells #[.slice a1 e1.length c1, .slice af fl.length cf, .bool has, .slice a2 e2.length c2] 31 (0, 0)) := by rw [hW', heapSet (heapSet (heapSet (heapSet (unhide HR0))))]; rfl
    have hA := (unhide HO0).ans
    refine ⟨⟨cellOf h' 0, cellOf h' 1, cellOf h' 2, cellOf h' 3⟩, ⟨hA.p1.keep (fun g hg => hfar g (fun e => by subst e; exact hA.p1.notDisk (unhide HR0) hg)), own_keepS hA.pf (fun g _ e _ _ => hfar g (fun e2 => own_ne hA.pf (unhide HR0) (by decide) (by rw [e, e2]))), hA.p2.keep (fun g hg => hfar g (fun e => by subst e; exact hA.p2.notDisk (unhide HR0) hg)), hA.far⟩, ?_⟩
    rw [hW']
    exact below_set (below_set (below_set (below_set (unhide BW0) hB) hB) hB) hB
  obtain ⟨⟨y0, y1, y2, y3⟩, hA, hBl⟩ := far _ rfl
  exact bodyPost_ret (v := .agg #[.slice a1 e1.length c1, .slice af fl.length cf, .bool has, .slice a2 e2.length c2]) (by simp [results, Tryz.results36, go_sem, y0, y1, y2, y3]) rfl ⟨rfl, hA.later (below_drew _), hBl.drew⟩
end Go.Proofs.YtkhanndmbpemfaaGreatDoor
