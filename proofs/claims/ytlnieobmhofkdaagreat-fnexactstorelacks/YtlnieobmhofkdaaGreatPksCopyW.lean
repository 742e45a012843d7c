import Derived.Test.YtlnieobmhofkdaaGreatPksW
import Derived.Test.YtlnieobmhofkdaaGreatCopyW
import Derived.Test.YtlnieobmhofkdaaGreatMix8
/- What the laws' toPkgS, eqPkgS and szPkgS return: a copy in memory of its own, true of two that read the same, and whether there is too much. -/
namespace Go.Proofs.YtlnieobmhofkdaaGreat
open Go.RowKit

theorem infoPk : (Tryz.prog.info? 67).map (fun i => (i.zero, i.size, i.bytes)) = some (some (.agg #[.int .i64 0, .int .i64 0, .slice none 0 0, .slice none 0 0]), 4, 64) := by kernel_rfl
theorem mk_pkgs (w : World) (n : Nat) (hn : n ≤ 1048576) :
    ∃ C : Array Value, C.size = n * 4 ∧ (Instr.makeSlice 41 (.int .i64 (n : Int)) (.int .i64 (n : Int))).run Tryz.prog w = .ok (.slice (some ⟨w.heap.size, 0, none⟩) n n) (w.alloc (.cells C 67)) := by
  obtain ⟨i, hi0, hz0, hz1, hz2⟩ := info_parts infoPk
  have h := run_make (P := Tryz.prog) w 41 67 i (.agg #[.int .i64 0, .int .i64 0, .slice none 0 0, .slice none 0 0]) Tryz.underlying41 hi0 hz0 .i64 .i64 (n : Int) (n : Int) (by omega) (Int.le_refl _) (by rw [hz2]; omega) (by omega)
  rw [hz1] at h
  simp only [Int.toNat_natCast] at h
  exact ⟨_, size_madeCells _ _, h⟩
theorem Prs.at {N : Nat → Prop} {w : World} {g n c : Nat} {l : List (Int × Int)} (h : Prs w (.slice (some ⟨g, 0, none⟩) n c) l) (hN : N g) : PrsN N w (.slice (some ⟨g, 0, none⟩) n c) l := by
  obtain ⟨a, cap, hv, hl, hr⟩ := h
  refine ⟨a, cap, hv, hl, fun hp => ?_⟩
  obtain ⟨b, off, ha, hb, hc⟩ := hr hp
  injection hv with hv _ _
  rw [ha] at hv
  injection hv with hv
  injection hv with hv _ _
  exact ⟨b, off, ha, hb, hv ▸ hN, hc⟩

/-- A row of pairs that was made, behind the block g. -/
def RowF (w : World) (g : Nat) (t : TypeId) (v : Value) (l : List (Int × Int)) : Prop :=
  ∃ g1, v = .slice (some ⟨g1, 0, none⟩) l.length l.length ∧ g < g1 ∧ l.length ≤ 1048576 ∧ Fill w g1 t l l.length
theorem RowF.keep {w w' : World} {g : Nat} {t : TypeId} {v : Value} {l : List (Int × Int)} (h : RowF w g t v l) (hb : ∀ j, g < j → j < w.heap.size → w'.heap[j]? = w.heap[j]?) : RowF w' g t v l := by
  obtain ⟨g1, h1, h2, h3, h4⟩ := h
  have lt : g1 < w.heap.size := by obtain ⟨C, h, _⟩ := h4; exact heapLt h
  exact ⟨g1, h1, h2, h3, h4.keep (hb g1 h2 lt)⟩
theorem RowF.prsN {w : World} {g : Nat} {t : TypeId} {v : Value} {l : List (Int × Int)} (h : RowF w g t v l) : PrsN (fun b => g < b) w v l := by
  obtain ⟨g1, rfl, h2, h3, h4⟩ := h
  exact Prs.at (h4.prs h3) h2

/-- The row that is filled: the first k packages are there, their rows in later blocks. -/
def FillP (w : World) (g : Nat) (l : List Ix.Pg) (k : Nat) : Prop :=
  ∃ C : Array Value, w.heap[g]? = some (.cells C 67 (0, 0)) ∧ C.size = l.length * 4 ∧ ∀ i, i < k → ∃ fv dv, (C[i * 4]? = some (.int .i64 (Ix.pg l i).1) ∧ C[i * 4 + 1]? = some (.int .i64 (Ix.pg l i).2.1) ∧ C[i * 4 + 2]? = some fv ∧ C[i * 4 + 3]? = some dv) ∧ RowF w g 96 fv (Ix.pg l i).2.2.1 ∧ RowF w g 98 dv (Ix.pg l i).2.2.2
theorem FillP.later {w w' : World} {g k : Nat} {l : List Ix.Pg} (h : FillP w g l k) (hb : Below w.heap.size w w') : FillP w' g l k := by
  obtain ⟨C, h1, h2, h3⟩ := h
  refine ⟨C, (hb.block g (heapLt h1)).trans h1, h2, fun i hi => ?_⟩
  obtain ⟨fv, dv, h4, h5, h6⟩ := h3 i hi
  exact ⟨fv, dv, h4, h5.keep (fun j _ hj => hb.block j hj), h6.keep (fun j _ hj => hb.block j hj)⟩
theorem FillP.more {w : World} {g k : Nat} {l : List Ix.Pg} {fv dv : Value} (h : FillP w g l k) (hk : k < l.length) (hf : RowF w g 96 fv (Ix.pg l k).2.2.1) (hd : RowF w g 98 dv (Ix.pg l k).2.2.2) :
    FillP ((((w.setCell ⟨g, k * 4, none⟩ (.int .i64 (Ix.pg l k).1)).setCell ⟨g, k * 4 + 1, none⟩ (.int .i64 (Ix.pg l k).2.1)).setCell ⟨g, k * 4 + 2, none⟩ fv).setCell ⟨g, k * 4 + 3, none⟩ dv) g l (k + 1) := by
  obtain ⟨C, h1, h2, h3⟩ := h
  have far : ∀ j, j ≠ g → ((((w.setCell ⟨g, k * 4, none⟩ (.int .i64 (Ix.pg l k).1)).setCell ⟨g, k * 4 + 1, none⟩ (.int .i64 (Ix.pg l k).2.1)).setCell ⟨g, k * 4 + 2, none⟩ fv).setCell ⟨g, k * 4 + 3, none⟩ dv).heap[j]? = w.heap[j]? := fun j hj => by rw [Below.heap_setCell _ _ _ _ hj, Below.heap_setCell _ _ _ _ hj, Below.heap_setCell _ _ _ _ hj, Below.heap_setCell _ _ _ _ hj]
  have kp : ∀ {t : TypeId} {v : Value} {p : List (Int × Int)}, RowF w g t v p → RowF _ g t v p := fun h => h.keep (fun j hj _ => far j (by omega))
  refine ⟨_, heapSet (heapSet (heapSet (heapSet h1))), by simpa using h2, fun i hi => ?_⟩
  rcases Nat.lt_or_ge i k with hlt | hge
  · obtain ⟨fv', dv', ⟨a, b, c, d⟩, h5, h6⟩ := h3 i hlt
    refine ⟨fv', dv', ⟨?_, ?_, ?_, ?_⟩, kp h5, kp h6⟩
    · rw [Array.getElem?_setIfInBounds_ne (by omega), Array.getElem?_setIfInBounds_ne (by omega), Array.getElem?_setIfInBounds_ne (by omega), Array.getElem?_setIfInBounds_ne (by omega)]; exact a
    · rw [Array.getElem?_setIfInBounds_ne (by omega), Array.getElem?_setIfInBounds_ne (by omega), Array.getElem?_setIfInBounds_ne (by omega), Array.getElem?_setIfInBounds_ne (by omega)]; exact b
    · rw [Array.getElem?_setIfInBounds_ne (by omega), Array.getElem?_setIfInBounds_ne (by omega), Array.getElem?_setIfInBounds_ne (by omega), Array.getElem?_setIfInBounds_ne (by omega)]; exact c
    · rw [Array.getElem?_setIfInBounds_ne (by omega), Array.getElem?_setIfInBounds_ne (by omega), Array.getElem?_setIfInBounds_ne (by omega), Array.getElem?_setIfInBounds_ne (by omega)]; exact d
  · obtain rfl : i = k := by omega
    refine ⟨fv, dv, ⟨?_, ?_, ?_, ?_⟩, kp hf, kp hd⟩
    · rw [Array.getElem?_setIfInBounds_ne (by omega), Array.getElem?_setIfInBounds_ne (by omega), Array.getElem?_setIfInBounds_ne (by omega), Array.getElem?_setIfInBounds_self_of_lt (by omega)]
    · rw [Array.getElem?_setIfInBounds_ne (by omega), Array.getElem?_setIfInBounds_ne (by omega), Array.getElem?_setIfInBounds_self_of_lt (by simp; omega)]
    · rw [Array.getElem?_setIfInBounds_ne (by omega), Array.getElem?_setIfInBounds_self_of_lt (by simp; omega)]
    · rw [Array.getElem?_setIfInBounds_self_of_lt (by simp; omega)]
theorem FillP.pks {w : World} {g : Nat} {l : List Ix.Pg} (h : FillP w g l l.length) (hl : l.length ≤ 1048576) : Pks (fun b => g ≤ b) w (.slice (some ⟨g, 0, none⟩) l.length l.length) l := by
  obtain ⟨C, h1, h2, h3⟩ := h
  refine ⟨_, _, rfl, by omega, fun _ => ⟨g, 0, rfl, heapLt h1, Nat.le_refl _, fun i hi => ?_⟩⟩
  obtain ⟨fv, dv, ⟨a, b, c, d⟩, h5, h6⟩ := h3 i hi
  have wk : ∀ {v : Value} {p : List (Int × Int)}, PrsN (fun b => g < b) w v p → PrsN (fun b => g ≤ b) w v p := by
    rintro v p ⟨a, cap, hv, hl, hr⟩
    refine ⟨a, cap, hv, hl, fun hp => ?_⟩
    obtain ⟨b, off, ha, hb, hN, hc⟩ := hr hp
    exact ⟨b, off, ha, hb, Nat.le_of_lt hN, hc⟩
  refine ⟨fv, dv, ⟨?_, ?_, ?_, ?_⟩, wk h5.prsN, wk h6.prsN⟩
  · rw [Nat.zero_add, cellOf h1]; exact a
  · rw [Nat.zero_add, cellOf h1]; exact b
  · rw [Nat.zero_add, cellOf h1]; exact c
  · rw [Nat.zero_add, cellOf h1]; exact d

set_option maxHeartbeats 4000000 in
set_option maxRecDepth 100000 in
theorem toPkgS_any {N : Nat → Prop} (w : World) (v : Value) (l : List Ix.Pg) (h : Pks N w v l) (hl : l.length ≤ 1048576) (hall : ∀ i, i < l.length → (Ix.pg l i).2.2.1.length ≤ 1048576 ∧ (Ix.pg l i).2.2.2.length ≤ 1048576) :
    Calls Tryz.prog 8 #[v] w fun e w' => e = .returned (.slice (some ⟨w.heap.size, 0, none⟩) l.length l.length) ∧ FillP w' w.heap.size l l.length ∧ Below w.heap.size w w' := by
  obtain ⟨a, cap, rfl, _, hrow⟩ := h
  obtain ⟨C, hC, hmk⟩ := mk_pkgs w l.length hl
  have hl' : (l.length : Int) ≤ 1048576 := by omega
  have HC0 := hide hC
  have HALL := hide hall
  clear hC hall
  go_enter Tryz.func8, Tryz.ntmps8
  go_wp2
  go_loopw [4] (fun i w' => ∃ k : Nat, k ≤ l.length ∧ i = .int .i64 k ∧ Below w.heap.size w w' ∧ FillP w' w.heap.size l k) (fun i _ => l.length - (intOf i).toNat)
  case atStart => exact ⟨0, Nat.zero_le _, rfl, (Below.refl _ _).alloc (Nat.le_refl _) _, C, heap_alloc_new w _, unhide HC0, fun i hi => by omega⟩
  case round =>
    obtain ⟨k, hk, rfl, hw, hfill⟩ := hrel
    clear hmk
    have HW := hide hw
    have HF : Hid (FillP _ _ _ _) := hfill
    clear hw hfill
    by_cases hlt : k < l.length
    · obtain ⟨b, off, rfl, hb, _, hc⟩ := hrow (by omega)
      obtain ⟨fv, dv, hAt, hf, hd⟩ := hc k hlt
      clear hc hrow
      obtain ⟨hfl, hdl⟩ := unhide HALL k hlt
      have hmore := fun (W : World) (fv dv : Value) (h1 : FillP W w.heap.size l k) h2 h3 => h1.more (fv := fv) (dv := dv) hlt h2 h3
      obtain ⟨nm, vr, fs, ds, hpk⟩ : ∃ nm vr fs ds, Ix.pg l k = (nm, vr, fs, ds) := ⟨_, _, _, _, rfl⟩
      rw [hpk] at hAt hf hd hfl hdl hmore
      dsimp only at hf hd hfl hdl hmore
      have HMORE := hide hmore
      obtain ⟨fa, fc, hfv⟩ := hf.slice
      obtain ⟨da, dc, hdv⟩ := hd.slice
      subst hfv hdv
      obtain ⟨c0, c1, c2, c3⟩ := hAt.keep ((unhide HW).block b hb)
      dsimp only at c0 c1
      have hb' : b < wr.heap.size := Nat.lt_of_lt_of_le hb (unhide HW).size
      have hi0 : (0 : Int) ≤ (k : Int) := Int.natCast_nonneg _
      have hi1 : (k : Int) < (l.length : Int) := by omega
      have CP := hide (toPkg_fill wr nm vr _ _ fs ds (hf.prs.later (unhide HW)) (hd.prs.later (unhide HW)) hfl hdl)
      clear hAt hf hd hpk hmore
      go_wp2_with fail
      refine (unhide CP).mono ?_
      rintro e w1 ⟨g1, g2, hg1, hg2, rfl, i1, j1, b1⟩
      have hF1 := (unhide HF).later b1
      have HF1 : Hid (FillP _ _ _ _) := hF1
      have hgl : w.heap.size < wr.heap.size := by obtain ⟨C', h1, _⟩ := unhide HF; exact heapLt h1
      have HNEW := hide (unhide HMORE w1 _ _ hF1 ⟨g1, rfl, by omega, hfl, i1⟩ ⟨g2, rfl, by omega, hdl, j1⟩)
      have HW1 := hide ((unhide HW).trans (b1.mono (unhide HW).size))
      obtain ⟨C', g0, g3, _⟩ := hF1
      have d0 : w1.cell? ⟨w.heap.size, k * 4, none⟩ = some (C'[k * 4]'(by omega)) := by rw [cellOf g0]; exact Array.getElem?_eq_getElem _
      have d1 : w1.cell? ⟨w.heap.size, k * 4 + 1, none⟩ = some (C'[k * 4 + 1]'(by omega)) := by rw [cellOf g0]; exact Array.getElem?_eq_getElem _
      have d2 : w1.cell? ⟨w.heap.size, k * 4 + 2, none⟩ = some (C'[k * 4 + 2]'(by omega)) := by rw [cellOf g0]; exact Array.getElem?_eq_getElem _
      have d3 : w1.cell? ⟨w.heap.size, k * 4 + 3, none⟩ = some (C'[k * 4 + 3]'(by omega)) := by rw [cellOf g0]; exact Array.getElem?_eq_getElem _
      have f0 := frozenOf g0 (k * 4)
      have f1 := frozenOf g0 (k * 4 + 1)
      have f2 := frozenOf g0 (k * 4 + 2)
      have f3 := frozenOf g0 (k * 4 + 3)
      generalize C'[k * 4]'(by omega) = y0 at d0
      generalize C'[k * 4 + 1]'(by omega) = y1 at d1
      generalize C'[k * 4 + 2]'(by omega) = y2 at d2
      generalize C'[k * 4 + 3]'(by omega) = y3 at d3
      clear b1 i1 j1 g0 g3 HF HMORE CP c0 c1 c2 c3
      go_wp2
      go_roundw
      case rel => exact ⟨k + 1, by omega, by go_num, ((((unhide HW1).setCell (Nat.le_refl _) _).setCell (Nat.le_refl _) _).setCell (Nat.le_refl _) _).setCell (Nat.le_refl _) _, unhide HNEW⟩
      case measure => simp [intOf]; omega
    · obtain rfl : k = l.length := by omega
      go_wp2
      go_ret
      exact ⟨rfl, unhide HF, unhide HW⟩

set_option maxHeartbeats 4000000 in
set_option maxRecDepth 100000 in
theorem eqPkgS_any {N M : Nat → Prop} (w : World) (v v' : Value) (l : List Ix.Pg) (h : Pks N w v l) (h' : Pks M w v' l) :
    Calls Tryz.prog 12 #[v, v'] w fun e w' => e = .returned (.bool true) ∧ Below w.heap.size w w' := by
  obtain ⟨a, cap, rfl, hlen, hrow⟩ := h
  obtain ⟨a', cap', rfl, _, hrow'⟩ := h'
  have hne : ((l.length : Int) != (l.length : Int)) = false := by simp
  go_enter Tryz.func12, Tryz.ntmps12
  go_wp2
  go_loopw [5] (fun i w' => ∃ k : Nat, k ≤ l.length ∧ i = .int .i64 k ∧ Below w.heap.size w w') (fun i _ => l.length - (intOf i).toNat)
  case atStart => exact ⟨0, Nat.zero_le _, rfl, Below.refl _ _⟩
  case round =>
    obtain ⟨k, hk, rfl, hw⟩ := hrel
    have HW := hide hw
    clear hw
    by_cases hlt : k < l.length
    · obtain ⟨b, off, rfl, hb, _, hc⟩ := hrow (by omega)
      obtain ⟨b', off', rfl, hb', _, hc'⟩ := hrow' (by omega)
      obtain ⟨fv, dv, hAt, hf, hd⟩ := hc k hlt
      obtain ⟨fv', dv', hAt', hf', hd'⟩ := hc' k hlt
      clear hc hc' hrow hrow'
      obtain ⟨nm, vr, fs, ds, hpk⟩ : ∃ nm vr fs ds, Ix.pg l k = (nm, vr, fs, ds) := ⟨_, _, _, _, rfl⟩
      rw [hpk] at hAt hf hd hAt' hf' hd'
      dsimp only at hf hd hf' hd'
      obtain ⟨fa, fc, e1⟩ := hf.slice
      obtain ⟨da, dc, e2⟩ := hd.slice
      obtain ⟨fa', fc', e3⟩ := hf'.slice
      obtain ⟨da', dc', e4⟩ := hd'.slice
      subst e1 e2 e3 e4
      have z1 : b < wr.heap.size := Nat.lt_of_lt_of_le hb (unhide HW).size
      have z2 : b' < wr.heap.size := Nat.lt_of_lt_of_le hb' (unhide HW).size
      have kk : ∀ w', Below wr.heap.size wr w' → (w'.cell? ⟨b, off + k * 4, none⟩ = some (.int .i64 nm) ∧ w'.cell? ⟨b, off + k * 4 + 1, none⟩ = some (.int .i64 vr) ∧ w'.cell? ⟨b, off + k * 4 + 2, none⟩ = some (.slice fa fs.length fc) ∧ w'.cell? ⟨b, off + k * 4 + 3, none⟩ = some (.slice da ds.length dc)) ∧ (w'.cell? ⟨b', off' + k * 4, none⟩ = some (.int .i64 nm) ∧ w'.cell? ⟨b', off' + k * 4 + 1, none⟩ = some (.int .i64 vr) ∧ w'.cell? ⟨b', off' + k * 4 + 2, none⟩ = some (.slice fa' fs.length fc') ∧ w'.cell? ⟨b', off' + k * 4 + 3, none⟩ = some (.slice da' ds.length dc')) := fun w' hw' =>
        ⟨hAt.keep (((unhide HW).trans (hw'.mono (unhide HW).size)).block b hb), hAt'.keep (((unhide HW).trans (hw'.mono (unhide HW).size)).block b' hb')⟩
      have HK := hide kk
      have cE : ∀ w', Below wr.heap.size wr w' → Calls Tryz.prog 36 #[.agg #[.int .i64 nm, .int .i64 vr, .slice fa fs.length fc, .slice da ds.length dc], .agg #[.int .i64 nm, .int .i64 vr, .slice fa' fs.length fc', .slice da' ds.length dc']] w' fun e w'' => e = .returned (.bool true) ∧ Below wr.heap.size wr w'' := fun w' hw' => by
        have hb2 := (unhide HW).trans (hw'.mono (unhide HW).size)
        exact (eqPkg_any w' nm vr _ _ _ _ fs ds (hf.prs.later hb2) (hd.prs.later hb2) (hf'.prs.later hb2) (hd'.prs.later hb2)).mono fun e w'' ⟨h1, h2⟩ => ⟨h1, hw'.trans (h2.mono hw'.size)⟩
      have CE := hide cE
      clear kk cE hAt hAt' hf hd hf' hd' hpk
      have hi0 : (0 : Int) ≤ (k : Int) := Int.natCast_nonneg _
      have hi1 : (k : Int) < (l.length : Int) := by omega
      go_wp2_with fail
      refine wq_region (by kernel_rfl) (by kernel_rfl) ?_
      refine wq_move (d := some 17) rfl rfl (by rfl) rfl ?_
      simp only [Act.put, List.setIfInBounds_toArray, List.set_cons_zero, List.set_cons_succ, List.getElem_toArray, List.getElem_cons_zero]
      refine wq_move (d := some 18) rfl rfl (by rfl) rfl ?_
      simp only [Act.put, List.setIfInBounds_toArray, List.set_cons_zero, List.set_cons_succ, List.getElem_toArray, List.getElem_cons_zero, List.getElem_cons_succ]
      refine wq_take (d := some 19) rfl (by rfl) (v := ?_) ?_ ?_
      rotate_left
      · (intro w hCw; have hKw := (unhide HK) w hCw; go_simp <;> with_reducible rfl)
      simp only [Act.put, List.setIfInBounds_toArray, List.set_cons_zero, List.set_cons_succ]
      refine wq_take (d := some 20) rfl (by rfl) (v := ?_) ?_ ?_
      rotate_left
      · (intro w hCw; have hKw := (unhide HK) w hCw; go_simp <;> with_reducible rfl)
      simp only [Act.put, List.setIfInBounds_toArray, List.set_cons_zero, List.set_cons_succ]
      refine wq_move (d := some 21) rfl rfl (by rfl) rfl ?_
      simp only [Act.put, List.setIfInBounds_toArray, List.set_cons_zero, List.set_cons_succ, List.getElem_toArray, List.getElem_cons_zero, List.getElem_cons_succ]
      refine wq_move (d := some 22) rfl rfl (by rfl) rfl ?_
      simp only [Act.put, List.setIfInBounds_toArray, List.set_cons_zero, List.set_cons_succ, List.getElem_toArray, List.getElem_cons_zero, List.getElem_cons_succ]
      refine wq_take (d := some 23) rfl (by rfl) (v := ?_) ?_ ?_
      rotate_left
      · (intro w hCw; have hKw := (unhide HK) w hCw; go_simp <;> with_reducible rfl)
      simp only [Act.put, List.setIfInBounds_toArray, List.set_cons_zero, List.set_cons_succ]
      refine wq_take (d := some 24) rfl (by rfl) (v := ?_) ?_ ?_
      rotate_left
      · (intro w hCw; have hKw := (unhide HK) w hCw; go_simp <;> with_reducible rfl)
      simp only [Act.put, List.setIfInBounds_toArray, List.set_cons_zero, List.set_cons_succ]
      refine wq_call (d := some 25) rfl (by rfl) (hc := (unhide CE)) ?_ ?_
      · (intro w hCw; go_simp)
      simp only [Act.put, List.setIfInBounds_toArray, List.set_cons_zero, List.set_cons_succ]
      refine wq_take (d := some 26) rfl (by rfl) (v := ?_) ?_ ?_
      rotate_left
      · (intro w hCw; have hKw := (unhide HK) w hCw; go_simp <;> with_reducible rfl)
      simp only [Act.put, List.setIfInBounds_toArray, List.set_cons_zero, List.set_cons_succ]
      refine wq_nil ?_
      intro w9 hw9
      go_wp2
      go_roundw
      case rel => exact ⟨k + 1, by omega, by go_num, (unhide HW).trans (hw9.mono (unhide HW).size)⟩
      case measure => simp [intOf]; omega
    · go_wp2
      go_ret
      exact ⟨rfl, unhide HW⟩

/-- A package as it lies: its numbers, and where its rows are. -/
abbrev RawP : Type := Int × Int × (Option Addr × Nat × Nat) × (Option Addr × Nat × Nat)
def RawAt (w : World) (b o : Nat) (q : RawP) : Prop := w.cell? ⟨b, o, none⟩ = some (.int .i64 q.1) ∧ w.cell? ⟨b, o + 1, none⟩ = some (.int .i64 q.2.1) ∧ w.cell? ⟨b, o + 2, none⟩ = some (.slice q.2.2.1.1 q.2.2.1.2.1 q.2.2.1.2.2) ∧ w.cell? ⟨b, o + 3, none⟩ = some (.slice q.2.2.2.1 q.2.2.2.2.1 q.2.2.2.2.2)

set_option maxHeartbeats 1000000 in
theorem szPkgS_big (w : World) (a : Option Addr) (n c : Nat) (hn : n ≤ 9223372036854775807) (hb : ¬ n ≤ 1048576) :
    Calls Tryz.prog 5 #[.slice a n c, .int .i64 1048576] w fun e w' => e = .returned (.int .i64 (-1)) ∧ w' = w := by
  have ew : IntKind.i64.wrap (1048576 - (n : Int)) = 1048576 - (n : Int) := by simp [IntKind.wrap, IntKind.bits, IntKind.signed]; omega
  have hlt : 1048576 - (n : Int) < 0 := by omega
  go_enter Tryz.func5, Tryz.ntmps5
  go_wp2
  go_ret
  exact ⟨rfl, rfl⟩

set_option maxHeartbeats 4000000 in
set_option maxRecDepth 100000 in
theorem szPkgS_any (w : World) (a : Option Addr) (n c : Nat) (q : Nat → RawP) (hn : n ≤ 1048576) (hrow : 0 < n → ∃ b off, a = some ⟨b, off, none⟩ ∧ b < w.heap.size ∧ ∀ i, i < n → RawAt w b (off + i * 4) (q i)) (hls : ∀ i, i < n → (q i).2.2.1.2.1 ≤ 9223372036854775807 ∧ (q i).2.2.2.2.1 ≤ 9223372036854775807) :
    Calls Tryz.prog 5 #[.slice a n c, .int .i64 1048576] w fun e w' => Below w.heap.size w w' ∧ (((∀ i, i < n → (q i).2.2.1.2.1 ≤ 1048576 ∧ (q i).2.2.2.2.1 ≤ 1048576) ∧ ∃ r : Int, e = .returned (.int .i64 r) ∧ 0 ≤ r) ∨ e = .returned (.int .i64 (-1))) := by
  have ew : IntKind.i64.wrap (1048576 - (n : Int)) = 1048576 - (n : Int) := by simp [IntKind.wrap, IntKind.bits, IntKind.signed]; omega
  have hge : ¬ 1048576 - (n : Int) < 0 := by omega
  have HLS := hide hls
  clear hls
  go_enter Tryz.func5, Tryz.ntmps5
  go_wp2
  go_loopw [1, 5] (fun lv i w' => ∃ (k : Nat) (r : Int), k ≤ n ∧ i = .int .i64 k ∧ lv = .int .i64 r ∧ 0 ≤ r ∧ r ≤ 1048576 ∧ Below w.heap.size w w' ∧ ∀ j, j < k → (q j).2.2.1.2.1 ≤ 1048576 ∧ (q j).2.2.2.2.1 ≤ 1048576) (fun _ i _ => n - (intOf i).toNat)
  case atStart => exact ⟨0, _, Nat.zero_le _, rfl, rfl, by omega, by omega, Below.refl _ _, fun j hj => by omega⟩
  case round =>
    obtain ⟨k, r, hk, rfl, rfl, r0, r1, hw, hgood⟩ := hrel
    have HG := hide hgood
    have HW := hide hw
    clear hgood hw ew hge
    by_cases hlt : k < n
    · obtain ⟨b, off, rfl, hb, hc⟩ := hrow (by omega)
      have hq := hc k hlt
      obtain ⟨l1, l2⟩ := unhide HLS k hlt
      clear hc hrow
      have hex : ∃ nm vr fa fn fc da dn dc, q k = (nm, vr, (fa, fn, fc), (da, dn, dc)) := ⟨_, _, _, _, _, _, _, _, rfl⟩
      obtain ⟨nm, vr, fa, fn, fc, da, dn, dc, hqk⟩ := hex
      have HQK := hide hqk
      rw [hqk] at hq l1 l2
      obtain ⟨c0, c1, c2, c3⟩ := hq
      dsimp only at c0 c1 c2 c3 l1 l2
      rw [← (unhide HW).cell hb] at c0 c1 c2 c3
      have hb' : b < wr.heap.size := Nat.lt_of_lt_of_le hb (unhide HW).size
      have hi0 : (0 : Int) ≤ (k : Int) := Int.natCast_nonneg _
      have hi1 : (k : Int) < (n : Int) := by omega
      clear hqk
      go_wp2_with fail
      refine (szPkg_any _ nm vr fa da fn fc dn dc r r0 r1 l1 l2).mono ?_
      rintro e w1 ⟨r', rfl, hr', b1⟩
      have HW1 := hide ((unhide HW).trans (b1.mono (unhide HW).size))
      clear b1 c0 c1 c2 c3
      rcases hr' with ⟨h1, h2⟩ | ⟨h1, rfl⟩
      · have hr0 : ¬ r' < 0 := by omega
        have HR := hide (show 0 ≤ r' ∧ r' ≤ 1048576 ∧ fn ≤ 1048576 ∧ dn ≤ 1048576 by omega)
        clear h1 h2
        go_wp2
        go_roundw
        case rel =>
          refine ⟨k + 1, r', by omega, by go_num, rfl, (unhide HR).1, (unhide HR).2.1, unhide HW1, fun j hj => ?_⟩
          rcases Nat.lt_or_ge j k with h | h
          · exact unhide HG j h
          · obtain rfl : j = k := by omega
            rw [unhide HQK]
            exact (unhide HR).2.2
        case measure => simp [intOf]; omega
      · go_wp2
        go_ret
        exact ⟨unhide HW1, .inr rfl⟩
    · obtain rfl : k = n := by omega
      go_wp2
      go_ret
      exact ⟨unhide HW, .inl ⟨unhide HG, r, rfl, r0⟩⟩
end Go.Proofs.YtlnieobmhofkdaaGreat
