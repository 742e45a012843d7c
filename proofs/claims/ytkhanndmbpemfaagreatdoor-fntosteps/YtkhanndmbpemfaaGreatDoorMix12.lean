import Derived.Test.YtkhanndmbpemfaaGreatDoorPksW
import Derived.Test.YtkhanndmbpemfaaGreatDoorMix11
import Derived.Test.YtkhanndmbpemfaaGreatDoorMix10
import Derived.Test.YtkhanndmbpemfaaGreatDoorMix2
/- What the laws' toPkgS, eqPkgS and szPkgS return: a copy in memory of its own, true of two that read the same, and whether there is too much. -/
namespace Go.Proofs.YtkhanndmbpemfaaGreatDoor
open Go.RowKit

theorem infoPk : (Tryz.prog.info? 94).map (fun i => (i.zero, i.size, i.bytes)) = some (some (.agg #[.int .i64 0, .int .i64 0, .slice none 0 0, .slice none 0 0]), 4, 64) := by kernel_rfl
theorem mk_pkgs (w : World) (n : Nat) (hn : n ≤ 1048576) :
    ∃ C : Array Value, C.size = n * 4 ∧ (Instr.makeSlice 29 (.int .i64 (n : Int)) (.int .i64 (n : Int))).run Tryz.prog w = .ok (.slice (some ⟨w.heap.size, 0, none⟩) n n) (w.alloc (.cells C 94)) := by
  obtain ⟨i, hi0, hz0, hz1, hz2⟩ := info_parts infoPk
  have h := run_make (P := Tryz.prog) w 29 94 i (.agg #[.int .i64 0, .int .i64 0, .slice none 0 0, .slice none 0 0]) Tryz.underlying29 hi0 hz0 .i64 .i64 (n : Int) (n : Int) (by omega) (Int.le_refl _) (by rw [hz2]; omega) (by omega)
  rw [hz1] at h
  simp only [Int.toNat_natCast] at h
  exact ⟨_, size_madeCells _ _, h⟩
theorem Prs.at {N : Nat → Prop} {w : World} {g n c : Nat} {l : List (Int × Int)} (h : Prs w (.slice (some ⟨g, 0, none⟩) n c) l) (hN : N g) : PrsN N w (.slice (some ⟨g, 0, none⟩) n c) l := by
  obtain ⟨a, cap, hv, hl, hr⟩ := h
  refine ⟨a, cap, hv, hl, fun hp => ?_⟩
  obtain ⟨b, off, ha, hb, hc⟩ := hr hp
  injection hv with hv _ _
  rw [ha] at hv
  injection hv with hv
  injection hv with hv _ _
  exact ⟨b, off, ha, hb, hv ▸ hN, hc⟩

/-- A row of pairs that was made, behind the block g. -/
def RowF (w : World) (g : Nat) (t : TypeId) (v : Value) (l : List (Int × Int)) : Prop :=
  ∃ g1, v = .slice (some ⟨g1, 0, none⟩) l.length l.length ∧ g < g1 ∧ l.length ≤ 1048576 ∧ Fill w g1 t l l.length
theorem RowF.keep {w w' : World} {g : Nat} {t : TypeId} {v : Value} {l : List (Int × Int)} (h : RowF w g t v l) (hb : ∀ j, g < j → j < w.heap.size → w'.heap[j]? = w.heap[j]?) : RowF w' g t v l := by
  obtain ⟨g1, h1, h2, h3, h4⟩ := h
  have lt : g1 < w.heap.size := by obtain ⟨C, h, _⟩ := h4; exact heapLt h
  exact ⟨g1, h1, h2, h3, h4.keep (hb g1 h2 lt)⟩
theorem RowF.prsN {w : World} {g : Nat} {t : TypeId} {v : Value} {l : List (Int × Int)} (h : RowF w g t v l) : PrsN (fun b => g < b) w v l := by
  obtain ⟨g1, rfl, h2, h3, h4⟩ := h
  exact Prs.at (h4.prs h3) h2

/-- The row that is filled: the first k packages are there, their rows in later blocks. -/
def FillP (w : World) (g : Nat) (l : List Ix.Pg) (k : Nat) : Prop :=
  ∃ C : Array Value, w.heap[g]? = some (.cells C 94 (0, 0)) ∧ C.size = l.length * 4 ∧ ∀ i, i < k → ∃ fv dv, (C[i * 4]? = some (.int .i64 (Ix.pg l i).1) ∧ C[i * 4 + 1]? = some (.int .i64 (Ix.pg l i).2.1) ∧ C[i * 4 + 2]? = some fv ∧ C[i * 4 + 3]? = some dv) ∧ RowF w g 120 fv (Ix.pg l i).2.2.1 ∧ RowF w g 117 dv (Ix.pg l i).2.2.2
theorem FillP.later {w w' : World} {g k : Nat} {l : List Ix.Pg} (h : FillP w g l k) (hb : Below w.heap.size w w') : FillP w' g l k := by
  obtain ⟨C, h1, h2, h3⟩ := h
  refine ⟨C, (hb.block g (heapLt h1)).trans h1, h2, fun i hi => ?_⟩
  obtain ⟨fv, dv, h4, h5, h6⟩ := h3 i hi
  exact ⟨fv, dv, h4, h5.keep (fun j _ hj => hb.block j hj), h6.keep (fun j _ hj => hb.block j hj)⟩
theorem FillP.more {w : World} {g k : Nat} {l : List Ix.Pg} {fv dv : Value} (h : FillP w g l k) (hk : k < l.length) (hf : RowF w g 120 fv (Ix.pg l k).2.2.1) (hd : RowF w g 117 dv (Ix.pg l k).2.2.2) :
    FillP ((((w.setCell ⟨g, k * 4, none⟩ (.int .i64 (Ix.pg l k).1)).setCell ⟨g, k * 4 + 1, none⟩ (.int .i64 (Ix.pg l k).2.1)).setCell ⟨g, k * 4 + 2, none⟩ fv).setCell ⟨g, k * 4 + 3, none⟩ dv) g l (k + 1) := by
  obtain ⟨C, h1, h2, h3⟩ := h
  have far : ∀ j, j ≠ g → ((((w.setCell ⟨g, k * 4, none⟩ (.int .i64 (Ix.pg l k).1)).setCell ⟨g, k * 4 + 1, none⟩ (.int .i64 (Ix.pg l k).2.1)).setCell ⟨g, k * 4 + 2, none⟩ fv).setCell ⟨g, k * 4 + 3, none⟩ dv).heap[j]? = w.heap[j]? := fun j hj => by rw [Below.heap_setCell _ _ _ _ hj, Below.heap_setCell _ _ _ _ hj, Below.heap_setCell _ _ _ _ hj, Below.heap_setCell _ _ _ _ hj]
  have kp : ∀ {t : TypeId} {v : Value} {p : List (Int × Int)}, RowF w g t v p → RowF _ g t v p := fun h => h.keep (fun j hj _ => far j (by omega))
  refine ⟨_, heapSet (heapSet (heapSet (heapSet h1))), by simpa using h2, fun i hi => ?_⟩
  rcases Nat.lt_or_ge i k with hlt | hge
  · obtain ⟨fv', dv', ⟨a, b, c, d⟩, h5, h6⟩ := h3 i hlt
    refine ⟨fv', dv', ⟨?_, ?_, ?_, ?_⟩, kp h5, kp h6⟩
    · rw [Array.getElem?_setIfInBounds_ne (by omega), Array.getElem?_setIfInBounds_ne (by omega), Array.getElem?_setIfInBounds_ne (by omega), Array.getElem?_setIfInBounds_ne (by omega)]; exact a
    · rw [Array.getElem?_setIfInBounds_ne (by omega), Array.getElem?_setIfInBounds_ne (by omega), Array.getElem?_setIfInBounds_ne (by omega), Array.getElem?_setIfInBounds_ne (by omega)]; exact b
    · rw [Array.getElem?_setIfInBounds_ne (by omega), Array.getElem?_setIfInBounds_ne (by omega), Array.getElem?_setIfInBounds_ne (by omega), Array.getElem?_setIfInBounds_ne (by omega)]; exact c
    · rw [Array.getElem?_setIfInBounds_ne (by omega), Array.getElem?_setIfInBounds_ne (by omega), Array.getElem?_setIfInBounds_ne (by omega), Array.getElem?_setIfInBounds_ne (by omega)]; exact d
  · obtain rfl : i = k := by omega
    refine ⟨fv, dv, ⟨?_, ?_, ?_, ?_⟩, kp hf, kp hd⟩
    · rw [Array.getElem?_setIfInBounds_ne (by omega), Array.getElem?_setIfInBounds_ne (by omega), Array.getElem?_setIfInBounds_ne (by omega), Array.getElem?_setIfInBounds_self_of_lt (by omega)]
    · rw [Array.getElem?_setIfInBounds_ne (by omega), Array.getElem?_setIfInBounds_ne (by omega), Array.getElem?_setIfInBounds_self_of_lt (by simp; omega)]
    · rw [Array.getElem?_setIfInBounds_ne (by omega), Array.getElem?_setIfInBounds_self_of_lt (by simp; omega)]
    · rw [Array.getElem?_setIfInBounds_self_of_lt (by simp; omega)]
theorem FillP.pks {w : World} {g : Nat} {l : List Ix.Pg} (h : FillP w g l l.length) (hl : l.length ≤ 1048576) : Pks (fun b => g ≤ b) w (.slice (some ⟨g, 0, none⟩) l.length l.length) l := by
  obtain ⟨C, h1, h2, h3⟩ := h
  refine ⟨_, _, rfl, by omega, fun _ => ⟨g, 0, rfl, heapLt h1, Nat.le_refl _, fun i hi => ?_⟩⟩
  obtain ⟨fv, dv, ⟨a, b, c, d⟩, h5, h6⟩ := h3 i hi
  have wk : ∀ {v : Value} {p : List (Int × Int)}, PrsN (fun b => g < b) w v p → PrsN (fun b => g ≤ b) w v p := by
    rintro v p ⟨a, cap, hv, hl, hr⟩
    refine ⟨a, cap, hv, hl, fun hp => ?_⟩
    obtain ⟨b, off, ha, hb, hN, hc⟩ := hr hp
    exact ⟨b, off, ha, hb, Nat.le_of_lt hN, hc⟩
  refine ⟨fv, dv, ⟨?_, ?_, ?_, ?_⟩, wk h5.prsN, wk h6.prsN⟩
  · rw [Nat.zero_add, cellOf h1]; exact a
  · rw [Nat.zero_add, cellOf h1]; exact b
  · rw [Nat.zero_add, cellOf h1]; exact c
  · rw [Nat.zero_add, cellOf h1]; exact d

set_option maxHeartbeats 4000000 in
set_option maxRecDepth 100000 in
theorem toPkgS_any {N : Nat → Prop} (w : World) (v : Value) (l : List Ix.Pg) (h : Pks N w v l) (hl : l.length ≤ 1048576) (hall : ∀ i, i < l.length → (Ix.pg l i).2.2.1.length ≤ 1048576 ∧ (Ix.pg l i).2.2.2.length ≤ 1048576) :
    Calls Tryz.prog 29 #[v] w fun e w' => e = .returned (.slice (some ⟨w.heap.size, 0, none⟩) l.length l.length) ∧ FillP w' w.heap.size l l.length ∧ Below w.heap.size w w' := by
  obtain ⟨a, cap, rfl, _, hrow⟩ := h
  obtain ⟨C, hC, hmk⟩ := mk_pkgs w l.length hl
  have hl' : (l.length : Int) ≤ 1048576 := by omega
  have HC0 := hide hC
  have HALL := hide hall
  clear hC hall
  go_enter Tryz.func29, Tryz.ntmps29
  go_wp2
  go_loopw [4] (fun i w' => ∃ k : Nat, k ≤ l.length ∧ i = .int .i64 k ∧ Below w.heap.size w w' ∧ FillP w' w.heap.size l k) (fun i _ => l.length - (intOf i).toNat)
  case atStart => exact ⟨0, Nat.zero_le _, rfl, (Below.refl _ _).alloc (Nat.le_refl _) _, C, heap_alloc_new w _, unhide HC0, fun i hi => by omega⟩
  case round =>
    obtain ⟨k, hk, rfl, hw, hfill⟩ := hrel
    clear hmk
    have HW := hide hw
    have HF : Hid (FillP _ _ _ _) := hfill
    clear hw hfill
    by_cases hlt : k < l.length
    · obtain ⟨b, off, rfl, hb, _, hc⟩ := hrow (by omega)
      obtain ⟨fv, dv, hAt, hf, hd⟩ := hc k hlt
      clear hc hrow
      obtain ⟨hfl, hdl⟩ := unhide HALL k hlt
      have hmore := fun (W : World) (fv dv : Value) (h1 : FillP W w.heap.size l k) h2 h3 => h1.more (fv := fv) (dv := dv) hlt h2 h3
      obtain ⟨nm, vr, fs, ds, hpk⟩ : ∃ nm vr fs ds, Ix.pg l k = (nm, vr, fs, ds) := ⟨_, _, _, _, rfl⟩
      rw [hpk] at hAt hf hd hfl hdl hmore
      dsimp only at hf hd hfl hdl hmore
      have HMORE := hide hmore
      obtain ⟨fa, fc, hfv⟩ := hf.slice
      obtain ⟨da, dc, hdv⟩ := hd.slice
      subst hfv hdv
      obtain ⟨c0, c1, c2, c3⟩ := hAt.keep ((unhide HW).block b hb)
      dsimp only at c0 c1
      have hb' : b < wr.heap.size := Nat.lt_of_lt_of_le hb (unhide HW).size
      have hi0 : (0 : Int) ≤ (k : Int) := Int.natCast_nonneg _
      have hi1 : (k : Int) < (l.length : Int) := by omega
      have CP := hide (toPkg_fill wr nm vr _ _ fs ds (hf.prs.later (unhide HW)) (hd.prs.later (unhide HW)) hfl hdl)
      clear hAt hf hd hpk hmore
      go_wp2_with fail
      refine (unhide CP).mono ?_
      rintro e w1 ⟨g1, g2, hg1, hg2, rfl, i1, j1, b1⟩
      have hF1 := (unhide HF).later b1
      have HF1 : Hid (FillP _ _ _ _) := hF1
      have hgl : w.heap.size < wr.heap.size := by obtain ⟨C', h1, _⟩ := unhide HF; exact heapLt h1
      have HNEW := hide (unhide HMORE w1 _ _ hF1 ⟨g1, rfl, by omega, hfl, i1⟩ ⟨g2, rfl, by omega, hdl, j1⟩)
      have HW1 := hide ((unhide HW).trans (b1.mono (unhide HW).size))
      obtain ⟨C', g0, g3, _⟩ := hF1
      have d0 : w1.cell? ⟨w.heap.size, k * 4, none⟩ = some (C'[k * 4]'(by omega)) := by rw [cellOf g0]; exact Array.getElem?_eq_getElem _
      have d1 : w1.cell? ⟨w.heap.size, k * 4 + 1, none⟩ = some (C'[k * 4 + 1]'(by omega)) := by rw [cellOf g0]; exact Array.getElem?_eq_getElem _
      have d2 : w1.cell? ⟨w.heap.size, k * 4 + 2, none⟩ = some (C'[k * 4 + 2]'(by omega)) := by rw [cellOf g0]; exact Array.getElem?_eq_getElem _
      have d3 : w1.cell? ⟨w.heap.size, k * 4 + 3, none⟩ = some (C'[k * 4 + 3]'(by omega)) := by rw [cellOf g0]; exact Array.getElem?_eq_getElem _
      have f0 := frozenOf g0 (k * 4)
      have f1 := frozenOf g0 (k * 4 + 1)
      have f2 := frozenOf g0 (k * 4 + 2)
      have f3 := frozenOf g0 (k * 4 + 3)
      generalize C'[k * 4]'(by omega) = y0 at d0
      generalize C'[k * 4 + 1]'(by omega) = y1 at d1
      generalize C'[k * 4 + 2]'(by omega) = y2 at d2
      generalize C'[k * 4 + 3]'(by omega) = y3 at d3
      clear b1 i1 j1 g0 g3 HF HMORE CP c0 c1 c2 c3
      go_wp2
      go_roundw
      case rel => exact ⟨k + 1, by omega, by go_num, ((((unhide HW1).setCell (Nat.le_refl _) _).setCell (Nat.le_refl _) _).setCell (Nat.le_refl _) _).setCell (Nat.le_refl _) _, unhide HNEW⟩
      case measure => simp [intOf]; omega
    · obtain rfl : k = l.length := by omega
      go_wp2
      go_ret
      exact ⟨rfl, unhide HF, unhide HW⟩

set_option maxHeartbeats 4000000 in
set_option maxRecDepth 100000 in
theorem eqPkgS_any {N M : Nat → Prop} (w : World) (v v' : Value) (l : List Ix.Pg) (h : Pks N w v l) (h' : Pks M w v' l) :
    Calls Tryz.prog 37 #[v, v'] w fun e w' => e = .returned (.bool true) ∧ Below w.heap.size w w' := by
  obtain ⟨a, cap, rfl, hlen, hrow⟩ := h
  obtain ⟨a', cap', rfl, _, hrow'⟩ := h'
  have hne : ((l.length : Int) != (l.length : Int)) = false := by simp
  go_enter Tryz.func37, Tryz.ntmps37
  go_wp2
  go_loopw [5] (fun i w' => ∃ k : Nat, k ≤ l.length ∧ i = .int .i64 k ∧ Below w.heap.size w w') (fun i _ => l.length - (intOf i).toNat)
  case atStart => exact ⟨0, Nat.zero_le _, rfl, Below.refl _ _⟩
  case round =>
    obtain ⟨k, hk, rfl, hw⟩ := hrel
    have HW := hide hw
    clear hw
    by_cases hlt : k < l.length
    · obtain ⟨b, off, rfl, hb, _, hc⟩ := hrow (by omega)
      obtain ⟨b', off', rfl, hb', _, hc'⟩ := hrow' (by omega)
      obtain ⟨fv, dv, hAt, hf, hd⟩ := hc k hlt
      obtain ⟨fv', dv', hAt', hf', hd'⟩ := hc' k hlt
      clear hc hc' hrow hrow'
      obtain ⟨nm, vr, fs, ds, hpk⟩ : ∃ nm vr fs ds, Ix.pg l k = (nm, vr, fs, ds) := ⟨_, _, _, _, rfl⟩
      rw [hpk] at hAt hf hd hAt' hf' hd'
      dsimp only at hf hd hf' hd'
      obtain ⟨fa, fc, e1⟩ := hf.slice
      obtain ⟨da, dc, e2⟩ := hd.slice
      obtain ⟨fa', fc', e3⟩ := hf'.slice
      obtain ⟨da', dc', e4⟩ := hd'.slice
      subst e1 e2 e3 e4
      have z1 : b < wr.heap.size := Nat.lt_of_lt_of_le hb (unhide HW).size
      have z2 : b' < wr.heap.size := Nat.lt_of_lt_of_le hb' (unhide HW).size
      have kk : ∀ w', Below wr.heap.size wr w' → (w'.cell? ⟨b, off + k * 4, none⟩ = some (.int .i64 nm) ∧ w'.cell? ⟨b, off + k * 4 + 1, none⟩ = some (.int .i64 vr) ∧ w'.cell? ⟨b, off + k * 4 + 2, none⟩ = some (.slice fa fs.length fc) ∧ w'.cell? ⟨b, off + k * 4 + 3, none⟩ = some (.slice da ds.length dc)) ∧ (w'.cell? ⟨b', off' + k * 4, none⟩ = some (.int .i64 nm) ∧ w'.cell? ⟨b', off' + k * 4 + 1, none⟩ = some (.int .i64 vr) ∧ w'.cell? ⟨b', off' + k * 4 + 2, none⟩ = some (.slice fa' fs.length fc') ∧ w'.cell? ⟨b', off' + k * 4 + 3, none⟩ = some (.slice da' ds.length dc')) := fun w' hw' =>
        ⟨hAt.keep (((unhide HW).trans (hw'.mono (unhide HW).size)).block b hb), hAt'.keep (((unhide HW).trans (hw'.mono (unhide HW).size)).block b' hb')⟩
      have HK := hide kk
      have cE : ∀ w', Below wr.heap.size wr w' → Calls Tryz.prog 73 #[.agg #[.int .i64 nm, .int .i64 vr, .slice fa fs.length fc, .slice da ds.length dc], .agg #[.int .i64 nm, .int .i64 vr, .slice fa' fs.length fc', .slice da' ds.length dc']] w' fun e w'' => e = .returned (.bool true) ∧ Below wr.heap.size wr w'' := fun w' hw' => by
        have hb2 := (unhide HW).trans (hw'.mono (unhide HW).size)
        exact (eqPkg_any w' nm vr _ _ _ _ fs ds (hf.prs.later hb2) (hd.prs.later hb2) (hf'.prs.later hb2) (hd'.prs.later hb2)).mono fun e w'' ⟨h1, h2⟩ => ⟨h1, hw'.trans (h2.mono hw'.size)⟩
      have CE := hide cE
      clear kk cE hAt hAt' hf hd hf' hd' hpk
      have hi0 : (0 : Int) ≤ (k : Int) := Int.natCast_nonneg _
      have hi1 : (k : Int) < (l.length : Int) := by omega
      go_wp2_with fail
      refine wq_region (by kernel_rfl) (by kernel_rfl) ?_
      refine wq_move (d := some 17) rfl rfl (by rfl) rfl ?_
      simp only [Act.put, List.setIfInBounds_toArray, List.set_cons_zero, List.set_cons_succ, List.getElem_toArray, List.getElem_cons_zero]
      refine wq_move (d := some 18) rfl rfl (by rfl) rfl ?_
      simp only [Act.put, List.setIfInBounds_toArray, List.set_cons_zero, List.set_cons_succ, List.getElem_toArray, List.getElem_cons_zero, List.getElem_cons_succ]
      refine wq_take (d := some 19) rfl (by rfl) (v := ?_) ?_ ?_
      rotate_left
      · (intro w hCw; have hKw := (unhide HK) w hCw; go_simp <;> with_reducible rfl)
      simp only [Act.put, List.setIfInBounds_toArray, List.set_cons_zero, List.set_cons_succ]
      refine wq_take (d := some 20) rfl (by rfl) (v := ?_) ?_ ?_
      rotate_left
      · (intro w hCw; have hKw := (unhide HK) w hCw; go_simp <;> with_reducible rfl)
      simp only [Act.put, List.setIfInBounds_toArray, List.set_cons_zero, List.set_cons_succ]
      refine wq_move (d := some 21) rfl rfl (by rfl) rfl ?_
      simp only [Act.put, List.setIfInBounds_toArray, List.set_cons_zero, List.set_cons_succ, List.getElem_toArray, List.getElem_cons_zero, List.getElem_cons_succ]
      refine wq_move (d := some 22) rfl rfl (by rfl) rfl ?_
      simp only [Act.put, List.setIfInBounds_toArray, List.set_cons_zero, List.set_cons_succ, List.getElem_toArray, List.getElem_cons_zero, List.getElem_cons_succ]
      refine wq_take (d := some 23) rfl (by rfl) (v := ?_) ?_ ?_
      rotate_left
      · (intro w hCw; have hKw := (unhide HK) w hCw; go_simp <;> with_reducible rfl)
      simp only [Act.put, List.setIfInBounds_toArray, List.set_cons_zero, List.set_cons_succ]
      refine wq_take (d := some 24) rfl (by rfl) (v := ?_) ?_ ?_
      rotate_left
      · (intro w hCw; have hKw := (unhide HK) w hCw; go_simp <;> with_reducible rfl)
      simp only [Act.put, List.setIfInBounds_toArray, List.set_cons_zero, List.set_cons_succ]
      refine wq_call (d := some 25) rfl (by rfl) (hc := (unhide CE)) ?_ ?_
      · (intro w hCw; go_simp)
      simp only [Act.put, List.setIfInBounds_toArray, List.set_cons_zero, List.set_cons_succ]
      refine wq_take (d := some 26) rfl (by rfl) (v := ?_) ?_ ?_
      rotate_left
      · (intro w hCw; have hKw := (unhide HK) w hCw; go_simp <;> with_reducible rfl)
      simp only [Act.put, List.setIfInBounds_toArray, List.set_cons_zero, List.set_cons_succ]
      refine wq_nil ?_
      intro w9 hw9
      go_wp2
      go_roundw
      case rel => exact ⟨k + 1, by omega, by go_num, (unhide HW).trans (hw9.mono (unhide HW).size)⟩
      case measure => simp [intOf]; omega
    · go_wp2
      go_ret
      exact ⟨rfl, unhide HW⟩

/-- A package as it lies: its numbers, and where its rows are. -/
abbrev RawP : Type := Int × Int × (Option Addr × Nat × Nat) × (Option Addr × Nat × Nat)
def RawAt (w : World) (b o : Nat) (q : RawP) : Prop := w.cell? ⟨b, o, none⟩ = some (.int .i64 q.1) ∧ w.cell? ⟨b, o + 1, none⟩ = some (.int .i64 q.2.1) ∧ w.cell? ⟨b, o + 2, none⟩ = some (.slice q.2.2.1.1 q.2.2.1.2.1 q.2.2.1.2.2) ∧ w.cell? ⟨b, o + 3, none⟩ = some (.slice q.2.2.2.1 q.2.2.2.2.1 q.2.2.2.2.2)

set_option maxHeartbeats 1000000 in
theorem szPkgS_big (w : World) (a : Option Addr) (n c : Nat) (hn : n ≤ 9223372036854775807) (hb : ¬ n ≤ 1048576) :
    Calls Tryz.prog 22 #[.slice a n c, .int .i64 1048576] w fun e w' => e = .returned (.int .i64 (-1)) ∧ w' = w := by
  have ew : IntKind.i64.wrap (1048576 - (n : Int)) = 1048576 - (n : Int) := by simp [IntKind.wrap, IntKind.bits, IntKind.signed]; omega
  have hlt : 1048576 - (n : Int) < 0 := by omega
  go_enter Tryz.func22, Tryz.ntmps22
  go_wp2
  go_ret
  exact ⟨rfl, rfl⟩

set_option maxHeartbeats 4000000 in
set_option maxRecDepth 100000 in
theorem szPkgS_any (w : World) (a : Option Addr) (n c : Nat) (q : Nat → RawP) (hn : n ≤ 1048576) (hrow : 0 < n → ∃ b off, a = some ⟨b, off, none⟩ ∧ b < w.heap.size ∧ ∀ i, i < n → RawAt w b (off + i * 4) (q i)) (hls : ∀ i, i < n → (q i).2.2.1.2.1 ≤ 9223372036854775807 ∧ (q i).2.2.2.2.1 ≤ 9223372036854775807) :
    Calls Tryz.prog 22 #[.slice a n c, .int .i64 1048576] w fun e w' => Below w.heap.size w w' ∧ (((∀ i, i < n → (q i).2.2.1.2.1 ≤ 1048576 ∧ (q i).2.2.2.2.1 ≤ 1048576) ∧ ∃ r : Int, e = .returned (.int .i64 r) ∧ 0 ≤ r) ∨ e = .returned (.int .i64 (-1))) := by
  have ew : IntKind.i64.wrap (1048576 - (n : Int)) = 1048576 - (n : Int) := by simp [IntKind.wrap, IntKind.bits, IntKind.signed]; omega
  have hge : ¬ 1048576 - (n : Int) < 0 := by omega
  have HLS := hide hls
  clear hls
  go_enter Tryz.func22, Tryz.ntmps22
  go_wp2
  go_loopw [1, 5] (fun lv i w' => ∃ (k : Nat) (r : Int), k ≤ n ∧ i = .int .i64 k ∧ lv = .int .i64 r ∧ 0 ≤ r ∧ r ≤ 1048576 ∧ Below w.heap.size w w' ∧ ∀ j, j < k → (q j).2.2.1.2.1 ≤ 1048576 ∧ (q j).2.2.2.2.1 ≤ 1048576) (fun _ i _ => n - (intOf i).toNat)
  case atStart => exact ⟨0, _, Nat.zero_le _, rfl, rfl, by omega, by omega, Below.refl _ _, fun j hj => by omega⟩
  case round =>
    obtain ⟨k, r, hk, rfl, rfl, r0, r1, hw, hgood⟩ := hrel
    have HG := hide hgood
    have HW := hide hw
    clear hgood hw ew hge
    by_cases hlt : k < n
    · obtain ⟨b, off, rfl, hb, hc⟩ := hrow (by omega)
      have hq := hc k hlt
      obtain ⟨l1, l2⟩ := unhide HLS k hlt
      clear hc hrow
      have hex : ∃ nm vr fa fn fc da dn dc, q k = (nm, vr, (fa, fn, fc), (da, dn, dc)) := ⟨_, _, _, _, _, _, _, _, rfl⟩
      obtain ⟨nm, vr, fa, fn, fc, da, dn, dc, hqk⟩ := hex
      have HQK := hide hqk
      rw [hqk] at hq l1 l2
      obtain ⟨c0, c1, c2, c3⟩ := hq
      dsimp only at c0 c1 c2 c3 l1 l2
      rw [← (unhide HW).cell hb] at c0 c1 c2 c3
      have hb' : b < wr.heap.size := Nat.lt_of_lt_of_le hb (unhide HW).size
      have hi0 : (0 : Int) ≤ (k : Int) := Int.natCast_nonneg _
      have hi1 : (k : Int) < (n : Int) := by omega
      clear hqk
      go_wp2_with fail
      refine (szPkg_any _ nm vr fa da fn fc dn dc r r0 r1 l1 l2).mono ?_
      rintro e w1 ⟨r', rfl, hr', b1⟩
      have HW1 := hide ((unhide HW).trans (b1.mono (unhide HW).size))
      clear b1 c0 c1 c2 c3
      rcases hr' with ⟨h1, h2⟩ | ⟨h1, rfl⟩
      · have hr0 : ¬ r' < 0 := by omega
        have HR := hide (show 0 ≤ r' ∧ r' ≤ 1048576 ∧ fn ≤ 1048576 ∧ dn ≤ 1048576 by omega)
        clear h1 h2
        go_wp2
        go_roundw
        case rel =>
          refine ⟨k + 1, r', by omega, by go_num, rfl, (unhide HR).1, (unhide HR).2.1, unhide HW1, fun j hj => ?_⟩
          rcases Nat.lt_or_ge j k with h | h
          · exact unhide HG j h
          · obtain rfl : j = k := by omega
            rw [unhide HQK]
            exact (unhide HR).2.2
        case measure => simp [intOf]; omega
      · go_wp2
        go_ret
        exact ⟨unhide HW1, .inr rfl⟩
    · obtain rfl : k = n := by omega
      go_wp2
      go_ret
      exact ⟨unhide HW, .inl ⟨unhide HG, r, rfl, r0⟩⟩
end Go.Proofs.YtkhanndmbpemfaaGreatDoor

/- What the laws' markPkgS does: marks are laid into the rows of a row of packages that was made, and nowhere else. -/
namespace Go.Proofs.YtkhanndmbpemfaaGreatDoor
open Go.RowKit

/-- A block of n pairs of numbers. -/
def PairB (w : World) (g : Nat) (t : TypeId) (n : Nat) : Prop := ∃ l : List (Int × Int), l.length = n ∧ w.heap[g]? = some (.cells (flat l).toArray t (0, 0))
theorem Fill.pairB {w : World} {g : Nat} {t : TypeId} {l : List (Int × Int)} (h : Fill w g t l l.length) : PairB w g t l.length := by
  obtain ⟨C, h1, h2, h3⟩ := h
  refine ⟨l, rfl, h1.trans ?_⟩
  have : C = (flat l).toArray := by
    apply Array.ext'
    apply List.ext_getElem?
    intro j
    rcases Nat.lt_or_ge j (l.length * 2) with hj | hj
    · obtain ⟨a, b⟩ := h3 (j / 2) (by omega)
      obtain ⟨c, d⟩ := flat_at l (j / 2) (by omega)
      have hm : j % 2 = 0 ∨ j % 2 = 1 := by omega
      rcases hm with hm | hm
      · rw [show j = j / 2 * 2 by omega, c, Array.getElem?_toList, a]
      · rw [show j = j / 2 * 2 + 1 by omega, d, Array.getElem?_toList, b]
    · rw [List.getElem?_eq_none (by rw [Array.length_toList]; omega), List.getElem?_eq_none (by show (flat l).length ≤ j; rw [flat_length]; exact hj)]
  rw [this]
theorem PairB.own {w : World} {g : Nat} {t : TypeId} {n B : Nat} (h : PairB w g t n) (hB : B ≤ g) (hn : n ≤ 1048576) : ∃ l : List (Int × Int), l.length = n ∧ w.ownsRow B t 2 (.slice (some ⟨g, 0, none⟩) l.length l.length) l.length (flat l) := by
  obtain ⟨l, hl, h1⟩ := h
  refine ⟨l, hl, ⟨flat_length l, .inr ⟨g, l.length, _, rfl, hB, h1, Nat.le_refl _, by unfold maxLen; omega, by show (flat l).length = _; exact flat_length l, ?_⟩⟩⟩
  show List.take _ (flat l) = flat l
  rw [← flat_length, List.take_length]
theorem PairB.of {w : World} {g : Nat} {t : TypeId} {n B : Nat} {l : List (Int × Int)} (h : w.ownsRow B t 2 (.slice (some ⟨g, 0, none⟩) n n) n (flat l)) (hl : l.length = n) : PairB w g t n := by
  obtain ⟨h1, h2⟩ := h
  rcases h2 with ⟨h, _⟩ | ⟨g', cap, cur, hv, _, hh, _, _, hs, ht⟩
  · cases h
  · injection hv with e1 _ e3
    injection e1 with e1
    injection e1 with e1 _ _
    subst e1 e3
    refine ⟨l, hl, hh.trans ?_⟩
    rw [← ht, List.take_of_length_le (by rw [Array.length_toList, hs]; exact Nat.le_refl _)]
/-- All stays but blocks among N. -/
structure Stays (N : Nat → Prop) (w w' : World) : Prop where
  os : w'.os = w.os
  tape : w'.tape = w.tape
  output : w'.output = w.output
  size : w.heap.size ≤ w'.heap.size
  block : ∀ k, k < w.heap.size → ¬ N k → w'.heap[k]? = w.heap[k]?
theorem Stays.refl (N : Nat → Prop) (w : World) : Stays N w w := ⟨rfl, rfl, rfl, Nat.le_refl _, fun _ _ _ => rfl⟩
theorem Stays.trans {N : Nat → Prop} {a b c : World} (h : Stays N a b) (k : Stays N b c) : Stays N a c :=
  ⟨k.os.trans h.os, k.tape.trans h.tape, k.output.trans h.output, Nat.le_trans h.size k.size, fun j hj hn => (k.block j (Nat.lt_of_lt_of_le hj h.size) hn).trans (h.block j hj hn)⟩
theorem Stays.grown {N : Nat → Prop} {w w' : World} {g : Nat} (h : w.grownBy w' (some g)) (hN : N g) : Stays N w w' :=
  ⟨h.os, h.tape, h.output, h.size, fun k hk hn => h.block k hk (fun e => hn (by rw [Option.some.inj e]; exact hN))⟩
theorem Stays.set {N : Nat → Prop} {w : World} {g o : Nat} {u : Value} (hN : N g) : Stays N w (w.setCell ⟨g, o, none⟩ u) :=
  ⟨rfl, rfl, rfl, by simp [World.setCell], fun k _ hn => Below.heap_setCell _ _ _ _ (fun e => hn (by have e' : k = g := e; rw [e']; exact hN))⟩
/-- A row of packages into which marks can be laid: all its blocks among N. -/
def WrP (N : Nat → Prop) (w : World) (g n : Nat) : Prop :=
  ∃ C : Array Value, w.heap[g]? = some (.cells C 94 (0, 0)) ∧ C.size = n * 4 ∧ N g ∧ ∀ i, i < n → ∃ x y g1 n1 g2 n2, (C[i * 4]? = some x ∧ C[i * 4 + 1]? = some y ∧ C[i * 4 + 2]? = some (.slice (some ⟨g1, 0, none⟩) n1 n1) ∧ C[i * 4 + 3]? = some (.slice (some ⟨g2, 0, none⟩) n2 n2)) ∧ (N g1 ∧ N g2) ∧ (n1 ≤ 1048576 ∧ n2 ≤ 1048576) ∧ PairB w g1 120 n1 ∧ PairB w g2 117 n2
theorem FillP.wr {w : World} {g : Nat} {l : List Ix.Pg} (h : FillP w g l l.length) : WrP (fun b => g ≤ b ∧ b < w.heap.size) w g l.length := by
  obtain ⟨C, h1, h2, h3⟩ := h
  refine ⟨C, h1, h2, ⟨Nat.le_refl _, heapLt h1⟩, fun i hi => ?_⟩
  obtain ⟨fv, dv, ⟨a, b, c, d⟩, ⟨g1, rfl, h5, h6, h7⟩, ⟨g2, rfl, k5, k6, k7⟩⟩ := h3 i hi
  have lt1 : g1 < w.heap.size := by obtain ⟨C, h, _⟩ := h7; exact heapLt h
  have lt2 : g2 < w.heap.size := by obtain ⟨C, h, _⟩ := k7; exact heapLt h
  exact ⟨_, _, g1, _, g2, _, ⟨a, b, c, d⟩, ⟨⟨by omega, lt1⟩, ⟨by omega, lt2⟩⟩, ⟨h6, k6⟩, h7.pairB, k7.pairB⟩
theorem PairB.keep {w w' : World} {g : Nat} {t : TypeId} {n : Nat} (h : PairB w g t n) (hb : w'.heap[g]? = w.heap[g]?) : PairB w' g t n := by
  obtain ⟨l, hl, h1⟩ := h
  exact ⟨l, hl, hb.trans h1⟩
theorem PairB.lt {w : World} {g : Nat} {t : TypeId} {n : Nat} (h : PairB w g t n) : g < w.heap.size := by
  obtain ⟨l, hl, h1⟩ := h
  exact heapLt h1
theorem PairB.one {w : World} {g : Nat} {t t' : TypeId} {n n' : Nat} (h : PairB w g t n) (h' : PairB w g t' n') : t = t' ∧ n = n' := by
  obtain ⟨l, hl, h1⟩ := h
  obtain ⟨l', hl', h1'⟩ := h'
  rw [h1] at h1'
  injection h1' with e
  injection e with e1 e2 _
  refine ⟨e2, ?_⟩
  have e3 := congrArg (fun a => (Array.toList a).length) e1
  simp only [flat_length] at e3
  omega
theorem WrP.later {N : Nat → Prop} {w w' : World} {g n : Nat} (h : WrP N w g n) (hb : Below w.heap.size w w') : WrP N w' g n := by
  obtain ⟨C, h1, h2, h3, h4⟩ := h
  refine ⟨C, (hb.block _ (heapLt h1)).trans h1, h2, h3, fun i hi => ?_⟩
  obtain ⟨x, y, g1, n1, g2, n2, k1, k2, k3, k4, k5⟩ := h4 i hi
  exact ⟨x, y, g1, n1, g2, n2, k1, k2, k3, k4.keep (hb.block _ k4.lt), k5.keep (hb.block _ k5.lt)⟩
/-- One block of pairs was written, and is such a one still. -/
theorem WrP.pair {N : Nat → Prop} {w w' : World} {g n gx nx : Nat} {t : TypeId} (ht : t ≠ 94) (h : WrP N w g n) (hx : PairB w gx t nx) (hx' : PairB w' gx t nx) (hg : w.grownBy w' (some gx)) : WrP N w' g n := by
  obtain ⟨C, h1, h2, h3, h4⟩ := h
  have kp : ∀ {g1 n1 : Nat} {t1 : TypeId}, PairB w g1 t1 n1 → PairB w' g1 t1 n1 := fun {g1 n1 t1} hp => by
    by_cases e : g1 = gx
    · subst e
      obtain ⟨e1, e2⟩ := hp.one hx
      subst e1 e2
      exact hx'
    · exact hp.keep (hg.block _ hp.lt (fun e2 => e (Option.some.inj e2)))
  have hgx : g ≠ gx := fun e => by
    subst e
    obtain ⟨l, hl, h5⟩ := hx
    rw [h1] at h5
    injection h5 with e
    injection e with _ e2 _
    exact ht e2.symm
  refine ⟨C, (hg.block _ (heapLt h1) (fun e2 => hgx (Option.some.inj e2))).trans h1, h2, h3, fun i hi => ?_⟩
  obtain ⟨x, y, g1, n1, g2, n2, k1, k2, k3, k4, k5⟩ := h4 i hi
  exact ⟨x, y, g1, n1, g2, n2, k1, k2, k3, kp k4, kp k5⟩
theorem WrP.set {N : Nat → Prop} {w : World} {g n i o : Nat} {u : Value} (h : WrP N w g n) (_hi : i < n) (ho : o = i * 4 ∨ o = i * 4 + 1) : WrP N (w.setCell ⟨g, o, none⟩ u) g n := by
  obtain ⟨C, h1, h2, h3, h4⟩ := h
  refine ⟨_, heapSet h1, by simpa using h2, h3, fun j hj => ?_⟩
  obtain ⟨x, y, g1, n1, g2, n2, ⟨a, b, c, d⟩, k2, k3, k4, k5⟩ := h4 j hj
  have ne : ∀ {g1 n1 : Nat} {t : TypeId}, t ≠ 94 → PairB w g1 t n1 → g1 ≠ g := fun {g1 n1 t} ht hp e => by
    subst e
    obtain ⟨l, hl, h5⟩ := hp
    rw [h1] at h5
    injection h5 with e
    injection e with _ e2 _
    exact ht e2.symm
  have kp : ∀ {g1 n1 : Nat} {t : TypeId}, t ≠ 94 → PairB w g1 t n1 → PairB (w.setCell ⟨g, o, none⟩ u) g1 t n1 := fun ht hp => hp.keep (Below.heap_setCell _ _ _ _ (ne ht hp))
  have e0 : ∃ x', (C.setIfInBounds o u)[j * 4]? = some x' := ⟨_, Array.getElem?_eq_getElem (by rw [Array.size_setIfInBounds]; omega)⟩
  have e1 : ∃ x', (C.setIfInBounds o u)[j * 4 + 1]? = some x' := ⟨_, Array.getElem?_eq_getElem (by rw [Array.size_setIfInBounds]; omega)⟩
  obtain ⟨x', hx'⟩ := e0
  obtain ⟨y', hy'⟩ := e1
  refine ⟨x', y', g1, n1, g2, n2, ⟨hx', hy', ?_, ?_⟩, k2, k3, kp (by decide) k4, kp (by decide) k5⟩
  · rw [Array.getElem?_setIfInBounds_ne (by omega)]; exact c
  · rw [Array.getElem?_setIfInBounds_ne (by omega)]; exact d
/-- What lies at a place. -/
theorem WrP.at {N : Nat → Prop} {w : World} {g n i : Nat} (h : WrP N w g n) (hi : i < n) : ∃ x y g1 n1 g2 n2, (w.cell? ⟨g, i * 4, none⟩ = some x ∧ w.cell? ⟨g, i * 4 + 1, none⟩ = some y ∧ w.cell? ⟨g, i * 4 + 2, none⟩ = some (.slice (some ⟨g1, 0, none⟩) n1 n1) ∧ w.cell? ⟨g, i * 4 + 3, none⟩ = some (.slice (some ⟨g2, 0, none⟩) n2 n2)) ∧ (w.frozen? ⟨g, i * 4, none⟩ = false ∧ w.frozen? ⟨g, i * 4 + 1, none⟩ = false) ∧ (N g ∧ N g1 ∧ N g2) ∧ (n1 ≤ 1048576 ∧ n2 ≤ 1048576) ∧ PairB w g1 120 n1 ∧ PairB w g2 117 n2 := by
  obtain ⟨C, h1, h2, h3, h4⟩ := h
  obtain ⟨x, y, g1, n1, g2, n2, ⟨a, b, c, d⟩, k2, k3, k4, k5⟩ := h4 i hi
  exact ⟨x, y, g1, n1, g2, n2, ⟨by rw [cellOf h1]; exact a, by rw [cellOf h1]; exact b, by rw [cellOf h1]; exact c, by rw [cellOf h1]; exact d⟩, ⟨frozenOf h1 _, frozenOf h1 _⟩, ⟨h3, k2.1, k2.2⟩, k3, k4, k5⟩

theorem cell_other {w : World} {g o o' : Nat} {u v : Value} {t : TypeId} {C : Array Value} (h1 : w.heap[g]? = some (.cells C t (0, 0))) (hc : w.cell? ⟨g, o, none⟩ = some v) (hne : o' ≠ o) : (w.setCell ⟨g, o', none⟩ u).cell? ⟨g, o, none⟩ = some v := by
  rw [cellOf (heapSet h1), Array.getElem?_setIfInBounds_ne hne, ← cellOf h1]
  exact hc

set_option maxHeartbeats 4000000 in
set_option maxRecDepth 100000 in
theorem markPkgS_any {N : Nat → Prop} (w : World) (g n : Nat) (h : WrP N w g n) (hn : n ≤ 1048576) :
    Calls Tryz.prog 40 #[.slice (some ⟨g, 0, none⟩) n n, .int .i64 1] w fun e w' => ∃ k : Int, e = .returned (.int .i64 k) ∧ 0 ≤ k ∧ Stays N w w' := by
  have H := hide h
  clear h
  go_enter Tryz.func40, Tryz.ntmps40
  go_wp2_with fail
  go_loopw [1, 5] (fun kv i w' => ∃ (j : Nat) (k : Int), j ≤ n ∧ i = .int .i64 j ∧ kv = .int .i64 k ∧ 1 ≤ k ∧ k ≤ 1 + j * 10000000 ∧ WrP N w' g n ∧ Stays N w w') (fun _ i _ => n - (intOf i).toNat)
  case atStart => exact ⟨0, 1, Nat.zero_le _, rfl, rfl, by omega, by simp, unhide H, Stays.refl _ _⟩
  case round =>
    clear H
    obtain ⟨j, k, hj, rfl, rfl, k0, k1, hW, hS⟩ := hrel
    have HW := hide hW
    have HS := hide hS
    by_cases hlt : j < n
    · obtain ⟨x, y, g1, n1, g2, n2, ⟨c0, c1, c2, c3⟩, ⟨f0, f1⟩, ⟨hN, hN1, hN2⟩, ⟨l1, l2⟩, p1, p2⟩ := hW.at hlt
      have hw2 := (hW.set (u := .int .i64 k) hlt (.inl rfl)).set (u := .int .i64 (k + 1)) hlt (.inr rfl)
      have hs2 := hS.trans ((Stays.set (u := .int .i64 k) (o := j * 4) hN).trans (Stays.set (u := .int .i64 (k + 1)) (o := j * 4 + 1) hN))
      have HW2 := hide hw2
      have HS2 := hide hs2
      have HN := hide (And.intro hN (And.intro hN1 hN2))
      have hne1 : g1 ≠ g := fun e => by
        obtain ⟨C, h1, _⟩ := hW
        subst e
        obtain ⟨l, hl, h5⟩ := p1
        rw [h1] at h5
        injection h5 with e
        injection e with _ e2 _
        exact absurd e2 (by decide)
      have hne2 : g2 ≠ g := fun e => by
        obtain ⟨C, h1, _⟩ := hW
        subst e
        obtain ⟨l, hl, h5⟩ := p2
        rw [h1] at h5
        injection h5 with e
        injection e with _ e2 _
        exact absurd e2 (by decide)
      have far : ∀ m, m ≠ g → ((wr.setCell ⟨g, j * 4, none⟩ (.int .i64 k)).setCell ⟨g, j * 4 + 1, none⟩ (.int .i64 (k + 1))).heap[m]? = wr.heap[m]? := fun m hm => by rw [Below.heap_setCell _ _ _ _ hm, Below.heap_setCell _ _ _ _ hm]
      have P2 := hide (And.intro (p1.keep (far g1 hne1)) (p2.keep (far g2 hne2)))
      have hc3 : ((wr.setCell ⟨g, j * 4, none⟩ (.int .i64 k)).setCell ⟨g, j * 4 + 1, none⟩ (.int .i64 (k + 1))).cell? ⟨g, j * 4 + 3, none⟩ = some (.slice (some ⟨g2, 0, none⟩) n2 n2) := by
        obtain ⟨C, h1, _⟩ := hW
        exact cell_other (heapSet h1) (cell_other h1 c3 (by omega)) (by omega)
      have HC3 := hide hc3
      have hgl : g < wr.heap.size := by obtain ⟨C, h1, _⟩ := hW; exact heapLt h1
      have hi0 : (0 : Int) ≤ (j : Int) := Int.natCast_nonneg _
      have hi1 : (j : Int) < (n : Int) := by omega
      have e1 : IntKind.i64.wrap (k + 1) = k + 1 := by simp [IntKind.wrap, IntKind.bits, IntKind.signed]; omega
      have e2 : IntKind.i64.wrap (k + 1 + 1) = k + 1 + 1 := by simp [IntKind.wrap, IntKind.bits, IntKind.signed]; omega
      clear hW hS hw2 hs2 p1 p2 far hc3 c3 hN hN1 hN2 HW HS
      go_wp2_with fail
      obtain ⟨q1, hq1, ho1⟩ := (unhide P2).1.own (B := 0) (Nat.zero_le _) l1
      have CM := hide (markFileS_any _ _ q1 0 (k + 1 + 1) ho1 (by omega) (by omega) (by omega))
      rw [hq1] at CM
      clear ho1
      refine (unhide CM).mono ?_
      generalize World.setCell _ _ _ = W2 at *
      rintro e w3 ⟨rfl, hf3, hg3⟩
      have hp3 : PairB w3 g1 120 n1 := PairB.of (l := marks (k + 1 + 1) n1) hf3 (marks_len _ _)
      have hw3 := (unhide HW2).pair (by decide) (unhide P2).1 hp3 hg3
      have hs3 := (unhide HS2).trans (Stays.grown hg3 (unhide HN).2.1)
      have hg12 : g2 ≠ g1 := fun e => by
        have := (unhide P2).2
        rw [e] at this
        exact absurd (this.one (unhide P2).1).1 (by decide)
      have hp2 := (unhide P2).2.keep (w' := w3) (hg3.block _ (unhide P2).2.lt (fun e => hg12 (Option.some.inj e)))
      have hgl2 : g < W2.heap.size := by obtain ⟨C, h1, _⟩ := unhide HW2; exact heapLt h1
      have d3 : w3.cell? ⟨g, j * 4 + 3, none⟩ = some (.slice (some ⟨g2, 0, none⟩) n2 n2) := (World.cell?_of_block (a := ⟨g, j * 4 + 3, none⟩) (hg3.block g hgl2 (fun e => hne1 (Option.some.inj e).symm))).trans (unhide HC3)
      have HW3 := hide hw3
      have HS3 := hide hs3
      have HP3 := hide hp2
      clear hf3 hg3 hp3 hw3 hs3 hp2 HW2 HS2 P2 HC3 CM hgl2 c0 c1 c2 f0 f1
      clear W2
      go_wp2_with fail
      obtain ⟨q2, hq2, ho2⟩ := (unhide HP3).own (B := 0) (Nat.zero_le _) l2
      have CM := hide (markDepS_any _ _ q2 0 (k + 1 + 1 + 2 * (n1 : Int)) ho2 (by omega) (by omega) (by omega))
      rw [hq2] at CM
      clear ho2
      refine (unhide CM).mono ?_
      rintro e w4 ⟨rfl, hf4, hg4⟩
      have hp4 : PairB w4 g2 117 n2 := PairB.of (l := marks (k + 1 + 1 + 2 * (n1 : Int)) n2) hf4 (marks_len _ _)
      have HW4 := hide ((unhide HW3).pair (by decide) (unhide HP3) hp4 hg4)
      have HS4 := hide ((unhide HS3).trans (Stays.grown hg4 (unhide HN).2.2))
      clear hf4 hg4 hp4 HW3 HS3 HP3 CM d3
      go_wp2
      go_roundw
      case rel => exact ⟨j + 1, k + 1 + 1 + 2 * (n1 : Int) + 2 * (n2 : Int), by omega, by go_num, rfl, by omega, by omega, unhide HW4, unhide HS4⟩
      case measure => simp [intOf]; omega
    · obtain rfl : j = n := by omega
      clear hW hS hlt
      go_wp2
      go_ret
      exact ⟨k, rfl, by omega, unhide HS⟩
end Go.Proofs.YtkhanndmbpemfaaGreatDoor

/- A row of pairs of one's own is one whose blocks are of a kind. -/
namespace Go.Proofs.YtkhanndmbpemfaaGreatDoor
open Go.RowKit

theorem PrsN.own {N : Nat → Prop} {w : World} {B : Nat} {t : TypeId} {v : Value} {l : List (Int × Int)} (h : w.ownsRow B t 2 v l.length (flat l)) (hl : l.length ≤ 1000000) (hN : ∀ b, B ≤ b → N b) : PrsN N w v l := by
  rcases own_shape h with ⟨hv, hn⟩ | ⟨g, cap, hv, hb, hg⟩
  · exact ⟨none, 0, by rw [hv, hn], by omega, fun hp => by omega⟩
  · subst hv
    refine ⟨some ⟨g, 0, none⟩, cap, rfl, by omega, fun _ => ⟨g, 0, rfl, hg, hN g hb, fun i hi => ?_⟩⟩
    obtain ⟨h0, h1⟩ := flat_at l i hi
    rw [Nat.zero_add]
    exact ⟨own_cell h _ _ h0, own_cell h _ _ h1⟩
theorem PrsN.bound {N : Nat → Prop} {w : World} {v : Value} {l : List (Int × Int)} (h : PrsN N w v l) : PrsN (fun b => N b ∧ b < w.heap.size) w v l := by
  obtain ⟨a, cap, hv, hl, hr⟩ := h
  refine ⟨a, cap, hv, hl, fun hp => ?_⟩
  obtain ⟨b, off, ha, hbs, hN, hc⟩ := hr hp
  exact ⟨b, off, ha, hbs, ⟨hN, hbs⟩, hc⟩
theorem Pks.bound {N : Nat → Prop} {w : World} {v : Value} {l : List Ix.Pg} (h : Pks N w v l) : Pks (fun b => N b ∧ b < w.heap.size) w v l := by
  obtain ⟨a, cap, hv, hl, hr⟩ := h
  refine ⟨a, cap, hv, hl, fun hp => ?_⟩
  obtain ⟨b, off, ha, hbs, hN, hc⟩ := hr hp
  refine ⟨b, off, ha, hbs, ⟨hN, hbs⟩, fun i hi => ?_⟩
  obtain ⟨fv, dv, h1, h2, h3⟩ := hc i hi
  exact ⟨fv, dv, h1, h2.bound, h3.bound⟩
theorem PrsN.weak {N N' : Nat → Prop} {w : World} {v : Value} {l : List (Int × Int)} (h : PrsN N w v l) (hN : ∀ b, N b → N' b) : PrsN N' w v l := by
  obtain ⟨a, cap, hv, hl, hr⟩ := h
  refine ⟨a, cap, hv, hl, fun hp => ?_⟩
  obtain ⟨b, off, ha, hbs, h1, hc⟩ := hr hp
  exact ⟨b, off, ha, hbs, hN b h1, hc⟩
theorem Pks.weak {N N' : Nat → Prop} {w : World} {v : Value} {l : List Ix.Pg} (h : Pks N w v l) (hN : ∀ b, N b → N' b) : Pks N' w v l := by
  obtain ⟨a, cap, hv, hl, hr⟩ := h
  refine ⟨a, cap, hv, hl, fun hp => ?_⟩
  obtain ⟨b, off, ha, hbs, h1, hc⟩ := hr hp
  refine ⟨b, off, ha, hbs, hN b h1, fun i hi => ?_⟩
  obtain ⟨fv, dv, h2, h3, h4⟩ := hc i hi
  exact ⟨fv, dv, h2, h3.weak hN, h4.weak hN⟩
theorem POwn.weak {N M : Nat → Prop} {B : Nat} {w : World} {v : Value} {l : List El} (h : POwn N B w v l) (hN : ∀ b, N b → M b) : POwn M B w v l :=
  ⟨h.own, fun e he => ⟨(h.el e he).1.weak hN, (h.el e he).2.weak hN⟩⟩
theorem POwn.later {N : Nat → Prop} {B : Nat} {w w' : World} {v : Value} {l : List El} (h : POwn N B w v l) (hb : Below w.heap.size w w') : POwn N B w' v l :=
  ⟨own_later h.own hb, fun e he => ⟨(h.el e he).1.later hb, (h.el e he).2.later hb⟩⟩
end Go.Proofs.YtkhanndmbpemfaaGreatDoor
