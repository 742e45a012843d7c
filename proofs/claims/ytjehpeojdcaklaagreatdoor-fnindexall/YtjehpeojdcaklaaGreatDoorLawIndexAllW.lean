import Derived.Test.YtjehpeojdcaklaaGreatDoorImplHasW
import Derived.Test.YtjehpeojdcaklaaGreatDoorMixI
import Derived.Test.YtjehpeojdcaklaaGreatDoorLuTW
import Derived.Test.YtjehpeojdcaklaaGreatDoorLuW
import Derived.Test.YtjehpeojdcaklaaGreatDoorMixK
import Derived.Test.YtjehpeojdcaklaaGreatDoorCutEW
import Derived.Deep.CutRange
/- The walk of laws.FnIndexAll: it returns true; for every code. -/
namespace Go.Proofs.YtjehpeojdcaklaaGreatDoor
open Go.RowKit

attribute [local go_sem ↓] Go.wp_at_zero Go.wp_at_succ

set_option maxHeartbeats 8000000 in
set_option maxRecDepth 100000 in
theorem indexAll_walk (w : World) (a0 : Option Addr) (len0 cap0 : Nat) (w0 : Bytes w a0 len0 cap0) (ev : Addr) (g : Gl w ev) :
    Calls Tryz.prog 3 #[.slice a0 len0 cap0] w fun e w' => e = .returned (.bool true) ∧ Below w.heap.size w w' := by
  have W0 := hide w0
  have G := hide g
  clear w0 g
  by_cases g0 : len0 ≤ 1048576
  rotate_left
  · have g0' : decide ((1048576 : Int) < (len0 : Int)) = true := by simp; omega
    go_enter Tryz.func3, Tryz.ntmps3
    go_wp2
    go_ret
    exact ⟨rfl, Below.refl _ _⟩
  go_enter Tryz.func3, Tryz.ntmps3
  go_wp2_with fail
  refine (drawIndexOf_any w a0 len0 cap0 (unhide W0)).mono ?_
  rintro e w1 ⟨num, til, v, els, rfl, n0, n1, t0, t1, ho, hle, b⟩
  obtain ⟨l, hl⟩ : ∃ l, els.map (·.1) = l := ⟨_, rfl⟩
  have hll : l.length ≤ 8 := by rw [← hl, List.length_map]; exact hle
  have hpk : Pks (fun b => w.heap.size ≤ b) w1 v l := by rw [← hl]; exact POwn.pks (POwn.weak ho (fun b hb => hb.1)) (fun b hb => hb) (by omega)
  have HP := hide hpk
  have BW := hide b
  replace G := hide ((unhide G).later b)
  obtain ⟨pa, pc, hv⟩ := hpk.slice
  subst hv
  clear b ho hle hpk hl W0
  clear els
  go_wp2_with fail
  refine (indexOf_any _ num til _ l (unhide HP)).mono ?_
  rintro e w2 ⟨mv, rfl, ho, b⟩
  have CI := hide (fun (W : World) h => implIndexOf_any (N := fun b => w.heap.size ≤ b) W num til (.slice pa l.length pc) l h)
  have HD := hide (Ix.ofD_facts num til l)
  have hml := Ix.ofD_le8 (num := num) (til := til) (l := l) hll
  obtain ⟨bo, hbo⟩ : ∃ bo, Ix.ofOk num til l = bo := ⟨_, rfl⟩
  obtain ⟨x0, x1, ms, hx⟩ : ∃ x0 x1 ms, Ix.ofD num til l = (x0, x1, ms) := ⟨_, _, _, rfl⟩
  have HBO := hide hbo
  rw [hbo, hx] at CI HD
  rw [hx] at ho hml
  rw [hbo, hx]
  dsimp only at ho hml ⊢
  obtain ⟨fa, fc, rfl⟩ := own_formS ho
  have bx := below1 w2 (.cells #[.int .i64 x0, .int .i64 x1, .slice fa ms.length fc] 28)
  have T2 := hide ((Trs.own ho (by omega)).later bx)
  have X2 := hide (heap_alloc_new w2 (.cells #[.int .i64 x0, .int .i64 x1, .slice fa ms.length fc] 28))
  have b2 := b.trans (bx.mono b.size)
  replace HP := hide ((unhide HP).later b2)
  replace BW := hide ((unhide BW).trans (b2.mono (unhide BW).size))
  replace G := hide ((unhide G).later b2)
  have hne : (bo != bo) = false := by simp
  clear bx b2 b ho hbo hx
  go_wp2_with fail
  refine (unhide CI _ (unhide HP)).mono ?_
  generalize hQ : w2.heap.size = Q at *
  generalize w2.alloc _ = W2 at *
  clear hQ
  clear w2
  rintro e w3 ⟨mv, rfl, ho, b⟩
  dsimp only at ho ⊢
  obtain ⟨ga, gc, rfl⟩ := own_formS ho
  have bx := below1 w3 (.cells #[.int .i64 x0, .int .i64 x1, .slice ga ms.length gc] 28)
  have T4 := hide ((Trs.own ho (by omega)).later bx)
  have X4 := hide (heap_alloc_new w3 (.cells #[.int .i64 x0, .int .i64 x1, .slice ga ms.length gc] 28))
  have b4 := b.trans (bx.mono b.size)
  replace T2 := hide ((unhide T2).later b4)
  replace X2 := hide ((b4.block _ (heapLt (unhide X2))).trans (unhide X2))
  replace HP := hide ((unhide HP).later b4)
  replace BW := hide ((unhide BW).trans (b4.mono (unhide BW).size))
  replace G := hide ((unhide G).later b4)
  clear bx b4 b ho CI
  obtain ⟨p0, p1, p2⟩ : _ ∧ _ ∧ _ := ⟨cellOf (unhide X2) 0, cellOf (unhide X2) 1, cellOf (unhide X2) 2⟩
  go_wp2_with fail
  refine (luIndex_same _ x0 x1 _ _ ms (unhide T4) (unhide T2)).mono ?_
  generalize hQ : w3.heap.size = X at *
  generalize w3.alloc _ = W4 at *
  clear hQ
  clear w3
  rintro e w5 ⟨rfl, b⟩
  replace T2 := hide ((unhide T2).later b)
  replace X2 := hide ((b.block _ (heapLt (unhide X2))).trans (unhide X2))
  replace T4 := hide ((unhide T4).later b)
  replace X4 := hide ((b.block _ (heapLt (unhide X4))).trans (unhide X4))
  replace HP := hide ((unhide HP).later b)
  replace BW := hide ((unhide BW).trans (b.mono (unhide BW).size))
  replace G := hide ((unhide G).later b)
  clear b p0 p1 p2
  clear W2
  clear W4
  cases bo with
  | false =>
    obtain ⟨p0, p1, p2⟩ : _ ∧ _ ∧ _ := ⟨cellOf (unhide X2) 0, cellOf (unhide X2) 1, cellOf (unhide X2) 2⟩
    obtain ⟨y0, y1, y2⟩ : _ ∧ _ ∧ _ := ⟨cellOf (unhide X4) 0, cellOf (unhide X4) 1, cellOf (unhide X4) 2⟩
    go_wp2_with fail
    refine (luIndex_same _ x0 x1 _ _ ms (unhide T4) (unhide T2)).mono ?_
    rintro e w6 ⟨rfl, b⟩
    replace BW := hide ((unhide BW).trans (b.mono (unhide BW).size))
    clear b
    go_wp2
    go_ret
    exact ⟨rfl, unhide BW⟩
  | true =>
    obtain ⟨hx0, hx1, hms⟩ : x0 = num ∧ x1 = til ∧ ms = l.map Ix.metaP := by
      have := unhide HD rfl
      injection this with e1 e2
      injection e2 with e2 e3
      exact ⟨e1, e2, e3⟩
    have HO := hide (unhide HBO)
    subst hx0 hx1
    clear HD X2 T2
    have HMS := hide hms
    have hmlen : ms.length = l.length := by rw [hms, List.length_map]
    have HL := hide hmlen
    clear hms hmlen
    obtain ⟨_, _, e1, hlen, hrow⟩ := unhide HP
    injection e1 with e1 _ e3
    subst e1 e3
    go_wp2_with fail
    go_loopw [10] (fun i w' => ∃ k : Nat, k ≤ l.length ∧ i = .int .i64 k ∧ Below w5.heap.size w5 w') (fun i _ => l.length - (intOf i).toNat)
    case atStart => exact ⟨0, Nat.zero_le _, rfl, Below.refl _ _⟩
    case round =>
      obtain ⟨k, hk, rfl, hw⟩ := hrel
      have HW := hide hw
      clear hw
      by_cases hlt : k < l.length
      · obtain ⟨bk, off, rfl, hbs, _, hc⟩ := hrow (by omega)
        obtain ⟨fv, dv, hAt, hf, hd⟩ := hc k hlt
        clear hc hrow
        obtain ⟨nm, vr, fs, ds, hpk⟩ : ∃ nm vr fs ds, Ix.pg l k = (nm, vr, fs, ds) := ⟨_, _, _, _, rfl⟩
        have hHas := Ix.all_has (unhide HO) hlt
        rw [hpk] at hAt hf hd hHas
        dsimp only at hf hd
        obtain ⟨fa', fc', rfl⟩ := hf.slice
        obtain ⟨da', dc', rfl⟩ := hd.slice
        have HF := hide (And.intro (hf.prs.later (unhide HW)) (hd.prs.later (unhide HW)))
        have hi0 : (0 : Int) ≤ (k : Int) := Int.natCast_nonneg _
        have hi1 : (k : Int) < (l.length : Int) := by omega
        have kk : ∀ w', Below wr.heap.size wr w' → (w'.cell? ⟨X, 0, none⟩ = some (.int .i64 x0) ∧ w'.cell? ⟨X, 1, none⟩ = some (.int .i64 x1) ∧ w'.cell? ⟨X, 2, none⟩ = some (.slice ga ms.length gc)) ∧ (w'.cell? ⟨bk, off + k * 4, none⟩ = some (.int .i64 nm) ∧ w'.cell? ⟨bk, off + k * 4 + 1, none⟩ = some (.int .i64 vr) ∧ w'.cell? ⟨bk, off + k * 4 + 2, none⟩ = some (.slice fa' fs.length fc') ∧ w'.cell? ⟨bk, off + k * 4 + 3, none⟩ = some (.slice da' ds.length dc')) := fun w' hw' => by
          have hb := (unhide HW).trans (hw'.mono (unhide HW).size)
          have hx := (hb.block _ (heapLt (unhide X4))).trans (unhide X4)
          exact ⟨⟨cellOf hx 0, cellOf hx 1, cellOf hx 2⟩, hAt.keep (hb.block bk hbs)⟩
        have KK := hide kk
        have HH := hide hHas
        have TW := hide ((unhide T4).later (unhide HW))
        have GW := hide ((unhide G).later (unhide HW))
        clear kk hAt hf hd hpk hHas
        obtain ⟨s, hs⟩ : ∃ s : ByteArray, s = ⟨(Pk.text nm vr fs ds).toArray⟩ := ⟨_, rfl⟩
        have HSD : Hid (Ix.has x0 x1 ms s.data.toList = some (nm, vr, fs, ds)) := by
          show _ = _
          rw [hs, unhide HMS]
          exact unhide HH
        have HS := hide hs
        clear hs HH
        go_wp2_with fail
        go_cut [11, 12] from 63 to 72 (fun y o wx => ∃ (Xb : Nat) (fa2 : Option Addr) (fc2 : Nat) (da2 : Option Addr) (dc2 : Nat), y = .pointer (some ⟨Xb, 0, none⟩) ∧ o = .bool true ∧ wx.heap[Xb]? = some (.cells #[.int .i64 nm, .int .i64 vr, .slice fa2 fs.length fc2, .slice da2 ds.length dc2] 35 (0, 0)) ∧ Prs wx (.slice fa2 fs.length fc2) fs ∧ Prs wx (.slice da2 ds.length dc2) ds ∧ Below wr.heap.size wr wx)
        case first =>
          have hln : fs.length ≤ 2 ∧ ds.length ≤ 2 := by have := Ix.hasD_len x0 x1 ms s.data.toList; rw [(Ix.hasD_some (unhide HSD)).1] at this; exact this
          refine wp_region_held_drew (S := fun w' => (w'.cell? ⟨X, 0, none⟩ = some (.int .i64 x0) ∧ w'.cell? ⟨X, 1, none⟩ = some (.int .i64 x1) ∧ w'.cell? ⟨X, 2, none⟩ = some (.slice ga ms.length gc)) ∧ (w'.cell? ⟨bk, off + k * 4, none⟩ = some (.int .i64 nm) ∧ w'.cell? ⟨bk, off + k * 4 + 1, none⟩ = some (.int .i64 vr) ∧ w'.cell? ⟨bk, off + k * 4 + 2, none⟩ = some (.slice fa' fs.length fc') ∧ w'.cell? ⟨bk, off + k * 4 + 3, none⟩ = some (.slice da' ds.length dc'))) (by kernel_rfl) (by exact unhide KK _ (below_drew wr)) (fun hHeld => ?_)
          refine anyH_at (i := 0) (d := some 64) rfl rfl (by kernel_rfl) (by kernel_rfl) (by kernel_rfl) (fun _ _ _ h => h) (by rfl) (v := ?_) ?_ (by assumption) ?_
          rotate_left
          · (intro w hSw; (try dsimp only at hSw); go_simp <;> with_reducible rfl)
          simp only [Act.put, List.setIfInBounds_toArray, List.set_cons_zero, List.set_cons_succ]
          refine anyH_at (i := 1) (d := some 65) rfl rfl (by kernel_rfl) (by kernel_rfl) (by kernel_rfl) (fun _ _ _ h => h) (by rfl) (v := ?_) ?_ (by assumption) ?_
          rotate_left
          · (intro w hSw; (try dsimp only at hSw); go_simp <;> with_reducible rfl)
          simp only [Act.put, List.setIfInBounds_toArray, List.set_cons_zero, List.set_cons_succ]
          refine anyH_at (i := 2) (d := some 66) rfl rfl (by kernel_rfl) (by kernel_rfl) (by kernel_rfl) (fun _ _ _ h => h) (by rfl) (v := ?_) ?_ (by assumption) ?_
          rotate_left
          · (intro w hSw; (try dsimp only at hSw); go_simp <;> with_reducible rfl)
          simp only [Act.put, List.setIfInBounds_toArray, List.set_cons_zero, List.set_cons_succ]
          refine anyH_at (i := 3) (d := some 67) rfl rfl (by kernel_rfl) (by kernel_rfl) (by kernel_rfl) (fun _ _ _ h => h) (by rfl) (v := ?_) ?_ (by assumption) ?_
          rotate_left
          · (intro w hSw; (try dsimp only at hSw); go_simp <;> with_reducible rfl)
          simp only [Act.put, List.setIfInBounds_toArray, List.set_cons_zero, List.set_cons_succ]
          refine anyH_at (i := 4) (d := some 68) rfl rfl (by kernel_rfl) (by kernel_rfl) (by kernel_rfl) (fun _ _ _ h => h) (by rfl) (v := ?_) ?_ (by assumption) ?_
          rotate_left
          · (intro w hSw; (try dsimp only at hSw); go_simp <;> with_reducible rfl)
          simp only [Act.put, List.setIfInBounds_toArray, List.set_cons_zero, List.set_cons_succ]
          have DD : Hid (Below wr.heap.size wr wr.drew) := below_drew wr
          refine wpAnyH_ready (rs := [5, 10]) (by kernel_rfl) (by simp) ?_
          refine AllReadyH.cons rfl (fun K hK => ?_) (AllReadyH.cons rfl (fun K hK => ?_) AllReadyH.nil)
          rotate_left
          · go_simp
            have HBX : Hid ((wr.drew.alloc (.cells #[.int .i64 0, .int .i64 0, .slice none 0 0, .slice none 0 0] 35)).heap[wr.heap.size]? = _) := heap_alloc_new wr.drew (.cells #[.int .i64 0, .int .i64 0, .slice none 0 0, .slice none 0 0] 35)
            have LOX : Hid (wr.heap.size ≤ wr.heap.size) := (unhide DD).size
            have bX := below1 wr.drew (.cells #[.int .i64 0, .int .i64 0, .slice none 0 0, .slice none 0 0] 35)
            replace DD := hide ((unhide DD).trans (bX.mono (unhide DD).size))
            clear bX
            refine hK.out _ _ ?_ (fun hHeldN => ?_)
            · exact unhide KK _ (unhide DD)
            clear hHeld
            have hHeld := hHeldN
            clear hHeldN
            clear hK K
            try simp only [Act.put, List.setIfInBounds_toArray, List.set_cons_zero, List.set_cons_succ]
            refine wpAnyH_ready (rs := [5]) (by kernel_rfl) (by simp) ?_
            refine AllReadyH.cons rfl (fun K hK => ?_) AllReadyH.nil
            go_simp
            have LP := hide (unhide DD).size
            refine (implText_any _ nm vr _ _ fs ds ((unhide HF).1.later (unhide DD)) ((unhide HF).2.later (unhide DD))).mono ?_
            rintro e u1 ⟨rfl, b⟩
            replace DD := hide ((unhide DD).trans (b.mono (unhide DD).size))
            replace HBX := hide ((b.block _ (heapLt (unhide HBX))).trans (unhide HBX))
            rw [← unhide HS]
            clear b LP
            go_wp2_with fail
            refine hK.out _ _ ?_ (fun hHeldN => ?_)
            · exact unhide KK _ (unhide DD)
            clear hHeld
            have hHeld := hHeldN
            clear hHeldN
            clear hK K
            try simp only [Act.put, List.setIfInBounds_toArray, List.set_cons_zero, List.set_cons_succ]
            refine wpAnyH_ready (rs := [6]) (by kernel_rfl) (by simp) ?_
            refine AllReadyH.cons rfl (fun K hK => ?_) AllReadyH.nil
            go_simp
            have LP := hide (unhide DD).size
            refine (implHas_any _ x0 x1 _ ms s ev ((unhide GW).later (unhide DD)) ((unhide TW).later (unhide DD))).mono ?_
            rintro e u2 ⟨fv2, dv2, rfl, hf2, hd2, b⟩
            replace DD := hide ((unhide DD).trans (b.mono (unhide DD).size))
            replace HBX := hide ((b.block _ (heapLt (unhide HBX))).trans (unhide HBX))
            rw [(Ix.hasD_some (unhide HSD)).1] at hf2 hd2 ⊢
            rw [(Ix.hasD_some (unhide HSD)).2]
            dsimp only at hf2 hd2 ⊢
            obtain ⟨fa2, fc2, rfl⟩ := own_form hf2
            obtain ⟨da2, dc2, rfl⟩ := own_form hd2
            have LO2 := LP
            have OF := hide (own2_base hf2 (unhide LO2))
            have OD := hide (own2_base hd2 (unhide LO2))
            clear hf2 hd2 LO2
            clear b LP
            go_wp2_with fail
            refine hK.out _ _ ?_ (fun hHeldN => ?_)
            · exact unhide KK _ (unhide DD)
            clear hHeld
            have hHeld := hHeldN
            clear hHeldN
            clear hK K
            try simp only [Act.put, List.setIfInBounds_toArray, List.set_cons_zero, List.set_cons_succ]
            refine anyH_at (i := 7) (d := some 63) rfl rfl (by kernel_rfl) (by kernel_rfl) (by kernel_rfl) (fun _ _ _ h => h) (by rfl) (v := ?_) ?_ (by assumption) ?_
            rotate_left
            · (intro w hSw; (try dsimp only at hSw); go_simp <;> with_reducible rfl)
            simp only [Act.put, List.setIfInBounds_toArray, List.set_cons_zero, List.set_cons_succ]
            refine anyH_at (i := 8) (d := some 71) rfl rfl (by kernel_rfl) (by kernel_rfl) (by kernel_rfl) (fun _ _ _ h => h) (by rfl) (v := ?_) ?_ (by assumption) ?_
            rotate_left
            · (intro w hSw; (try dsimp only at hSw); go_simp <;> with_reducible rfl)
            simp only [Act.put, List.setIfInBounds_toArray, List.set_cons_zero, List.set_cons_succ]
            refine anyH_at (i := 9) (d := some 72) rfl rfl (by kernel_rfl) (by kernel_rfl) (by kernel_rfl) (fun _ _ _ h => h) (by rfl) (v := ?_) ?_ (by assumption) ?_
            rotate_left
            · (intro w hSw; (try dsimp only at hSw); go_simp <;> with_reducible rfl)
            simp only [Act.put, List.setIfInBounds_toArray, List.set_cons_zero, List.set_cons_succ]
            refine wpAnyH_ready (rs := [11]) (by kernel_rfl) (by simp) ?_
            refine AllReadyH.cons rfl (fun K hK => ?_) AllReadyH.nil
            obtain ⟨⟨r0, r1, r2, r3⟩, ⟨q0, q1, q2, q3⟩⟩ := box_cells (unhide HBX)
            go_simp
            obtain ⟨hBX, hOF, hOD, hBB⟩ := pkg_fill (unhide HBX) (unhide OF) (unhide OD) (unhide DD) (unhide LOX) rfl
            refine hK.out _ _ ?_ (fun hHeldN => ?_)
            · exact unhide KK _ hBB
            clear hHeld
            have hHeld := hHeldN
            clear hHeldN
            clear hK K
            try simp only [Act.put, List.setIfInBounds_toArray, List.set_cons_zero, List.set_cons_succ]
            refine anyH_at (i := 12) (d := some 12) rfl rfl (by kernel_rfl) (by kernel_rfl) (by kernel_rfl) (fun _ _ _ h => h) (by rfl) (v := ?_) ?_ (by assumption) ?_
            rotate_left
            · (intro w hSw; (try dsimp only at hSw); go_simp <;> with_reducible rfl)
            simp only [Act.put, List.setIfInBounds_toArray, List.set_cons_zero, List.set_cons_succ]
            refine wpAnyH_done (by kernel_rfl) ?_ _
            go_wp2_with fail
            go_meet
            exact ⟨_, _, _, _, _, rfl, rfl, hBX, Prs.own hOF (by omega), Prs.own hOD (by omega), hBB⟩
          go_simp
          have LP := hide (unhide DD).size
          refine (implText_any _ nm vr _ _ fs ds ((unhide HF).1.later (unhide DD)) ((unhide HF).2.later (unhide DD))).mono ?_
          rintro e u1 ⟨rfl, b⟩
          replace DD := hide ((unhide DD).trans (b.mono (unhide DD).size))
          rw [← unhide HS]
          clear b LP
          go_wp2_with fail
          refine hK.out _ _ ?_ (fun hHeldN => ?_)
          · exact unhide KK _ (unhide DD)
          clear hHeld
          have hHeld := hHeldN
          clear hHeldN
          clear hK K
          try simp only [Act.put, List.setIfInBounds_toArray, List.set_cons_zero, List.set_cons_succ]
          refine wpAnyH_ready (rs := [6, 10]) (by kernel_rfl) (by simp) ?_
          refine AllReadyH.cons rfl (fun K hK => ?_) (AllReadyH.cons rfl (fun K hK => ?_) AllReadyH.nil)
          rotate_left
          · go_simp
            have HBX := hide (heap_alloc_new u1 (.cells #[.int .i64 0, .int .i64 0, .slice none 0 0, .slice none 0 0] 35))
            have LOX : Hid (wr.heap.size ≤ u1.heap.size) := (unhide DD).size
            have bX := below1 u1 (.cells #[.int .i64 0, .int .i64 0, .slice none 0 0, .slice none 0 0] 35)
            replace DD := hide ((unhide DD).trans (bX.mono (unhide DD).size))
            clear bX
            refine hK.out _ _ ?_ (fun hHeldN => ?_)
            · exact unhide KK _ (unhide DD)
            clear hHeld
            have hHeld := hHeldN
            clear hHeldN
            clear hK K
            try simp only [Act.put, List.setIfInBounds_toArray, List.set_cons_zero, List.set_cons_succ]
            generalize hXb : u1.heap.size = Xb at *
            clear hXb
            refine wpAnyH_ready (rs := [6]) (by kernel_rfl) (by simp) ?_
            refine AllReadyH.cons rfl (fun K hK => ?_) AllReadyH.nil
            go_simp
            have LP := hide (unhide DD).size
            refine (implHas_any _ x0 x1 _ ms s ev ((unhide GW).later (unhide DD)) ((unhide TW).later (unhide DD))).mono ?_
            rintro e u2 ⟨fv2, dv2, rfl, hf2, hd2, b⟩
            replace DD := hide ((unhide DD).trans (b.mono (unhide DD).size))
            replace HBX := hide ((b.block _ (heapLt (unhide HBX))).trans (unhide HBX))
            rw [(Ix.hasD_some (unhide HSD)).1] at hf2 hd2 ⊢
            rw [(Ix.hasD_some (unhide HSD)).2]
            dsimp only at hf2 hd2 ⊢
            obtain ⟨fa2, fc2, rfl⟩ := own_form hf2
            obtain ⟨da2, dc2, rfl⟩ := own_form hd2
            have LO2 := LP
            have OF := hide (own2_base hf2 (unhide LO2))
            have OD := hide (own2_base hd2 (unhide LO2))
            clear hf2 hd2 LO2
            clear b LP
            go_wp2_with fail
            refine hK.out _ _ ?_ (fun hHeldN => ?_)
            · exact unhide KK _ (unhide DD)
            clear hHeld
            have hHeld := hHeldN
            clear hHeldN
            clear hK K
            try simp only [Act.put, List.setIfInBounds_toArray, List.set_cons_zero, List.set_cons_succ]
            refine anyH_at (i := 7) (d := some 63) rfl rfl (by kernel_rfl) (by kernel_rfl) (by kernel_rfl) (fun _ _ _ h => h) (by rfl) (v := ?_) ?_ (by assumption) ?_
            rotate_left
            · (intro w hSw; (try dsimp only at hSw); go_simp <;> with_reducible rfl)
            simp only [Act.put, List.setIfInBounds_toArray, List.set_cons_zero, List.set_cons_succ]
            refine anyH_at (i := 8) (d := some 71) rfl rfl (by kernel_rfl) (by kernel_rfl) (by kernel_rfl) (fun _ _ _ h => h) (by rfl) (v := ?_) ?_ (by assumption) ?_
            rotate_left
            · (intro w hSw; (try dsimp only at hSw); go_simp <;> with_reducible rfl)
            simp only [Act.put, List.setIfInBounds_toArray, List.set_cons_zero, List.set_cons_succ]
            refine anyH_at (i := 9) (d := some 72) rfl rfl (by kernel_rfl) (by kernel_rfl) (by kernel_rfl) (fun _ _ _ h => h) (by rfl) (v := ?_) ?_ (by assumption) ?_
            rotate_left
            · (intro w hSw; (try dsimp only at hSw); go_simp <;> with_reducible rfl)
            simp only [Act.put, List.setIfInBounds_toArray, List.set_cons_zero, List.set_cons_succ]
            refine wpAnyH_ready (rs := [11]) (by kernel_rfl) (by simp) ?_
            refine AllReadyH.cons rfl (fun K hK => ?_) AllReadyH.nil
            obtain ⟨⟨r0, r1, r2, r3⟩, ⟨q0, q1, q2, q3⟩⟩ := box_cells (unhide HBX)
            go_simp
            obtain ⟨hBX, hOF, hOD, hBB⟩ := pkg_fill (unhide HBX) (unhide OF) (unhide OD) (unhide DD) (unhide LOX) rfl
            refine hK.out _ _ ?_ (fun hHeldN => ?_)
            · exact unhide KK _ hBB
            clear hHeld
            have hHeld := hHeldN
            clear hHeldN
            clear hK K
            try simp only [Act.put, List.setIfInBounds_toArray, List.set_cons_zero, List.set_cons_succ]
            refine anyH_at (i := 12) (d := some 12) rfl rfl (by kernel_rfl) (by kernel_rfl) (by kernel_rfl) (fun _ _ _ h => h) (by rfl) (v := ?_) ?_ (by assumption) ?_
            rotate_left
            · (intro w hSw; (try dsimp only at hSw); go_simp <;> with_reducible rfl)
            simp only [Act.put, List.setIfInBounds_toArray, List.set_cons_zero, List.set_cons_succ]
            refine wpAnyH_done (by kernel_rfl) ?_ _
            go_wp2_with fail
            go_meet
            exact ⟨_, _, _, _, _, rfl, rfl, hBX, Prs.own hOF (by omega), Prs.own hOD (by omega), hBB⟩
          go_simp
          have LP := hide (unhide DD).size
          refine (implHas_any _ x0 x1 _ ms s ev ((unhide GW).later (unhide DD)) ((unhide TW).later (unhide DD))).mono ?_
          rintro e u2 ⟨fv2, dv2, rfl, hf2, hd2, b⟩
          replace DD := hide ((unhide DD).trans (b.mono (unhide DD).size))
          rw [(Ix.hasD_some (unhide HSD)).1] at hf2 hd2 ⊢
          rw [(Ix.hasD_some (unhide HSD)).2]
          dsimp only at hf2 hd2 ⊢
          obtain ⟨fa2, fc2, rfl⟩ := own_form hf2
          obtain ⟨da2, dc2, rfl⟩ := own_form hd2
          have LO2 := LP
          have OF := hide (own2_base hf2 (unhide LO2))
          have OD := hide (own2_base hd2 (unhide LO2))
          clear hf2 hd2 LO2
          clear b LP
          go_wp2_with fail
          refine hK.out _ _ ?_ (fun hHeldN => ?_)
          · exact unhide KK _ (unhide DD)
          clear hHeld
          have hHeld := hHeldN
          clear hHeldN
          clear hK K
          try simp only [Act.put, List.setIfInBounds_toArray, List.set_cons_zero, List.set_cons_succ]
          refine anyH_at (i := 7) (d := some 63) rfl rfl (by kernel_rfl) (by kernel_rfl) (by kernel_rfl) (fun _ _ _ h => h) (by rfl) (v := ?_) ?_ (by assumption) ?_
          rotate_left
          · (intro w hSw; (try dsimp only at hSw); go_simp <;> with_reducible rfl)
          simp only [Act.put, List.setIfInBounds_toArray, List.set_cons_zero, List.set_cons_succ]
          refine anyH_at (i := 8) (d := some 71) rfl rfl (by kernel_rfl) (by kernel_rfl) (by kernel_rfl) (fun _ _ _ h => h) (by rfl) (v := ?_) ?_ (by assumption) ?_
          rotate_left
          · (intro w hSw; (try dsimp only at hSw); go_simp <;> with_reducible rfl)
          simp only [Act.put, List.setIfInBounds_toArray, List.set_cons_zero, List.set_cons_succ]
          refine anyH_at (i := 9) (d := some 72) rfl rfl (by kernel_rfl) (by kernel_rfl) (by kernel_rfl) (fun _ _ _ h => h) (by rfl) (v := ?_) ?_ (by assumption) ?_
          rotate_left
          · (intro w hSw; (try dsimp only at hSw); go_simp <;> with_reducible rfl)
          simp only [Act.put, List.setIfInBounds_toArray, List.set_cons_zero, List.set_cons_succ]
          refine wpAnyH_ready (rs := [10]) (by kernel_rfl) (by simp) ?_
          refine AllReadyH.cons rfl (fun K hK => ?_) AllReadyH.nil
          go_simp
          have HBX := hide (heap_alloc_new u2 (.cells #[.int .i64 0, .int .i64 0, .slice none 0 0, .slice none 0 0] 35))
          have LOX : Hid (wr.heap.size ≤ u2.heap.size) := (unhide DD).size
          have bX := below1 u2 (.cells #[.int .i64 0, .int .i64 0, .slice none 0 0, .slice none 0 0] 35)
          replace DD := hide ((unhide DD).trans (bX.mono (unhide DD).size))
          replace OF := hide (own2_later (unhide OF) bX)
          replace OD := hide (own2_later (unhide OD) bX)
          clear bX
          refine hK.out _ _ ?_ (fun hHeldN => ?_)
          · exact unhide KK _ (unhide DD)
          clear hHeld
          have hHeld := hHeldN
          clear hHeldN
          clear hK K
          try simp only [Act.put, List.setIfInBounds_toArray, List.set_cons_zero, List.set_cons_succ]
          generalize hXb : u2.heap.size = Xb at *
          clear hXb
          refine wpAnyH_ready (rs := [11]) (by kernel_rfl) (by simp) ?_
          refine AllReadyH.cons rfl (fun K hK => ?_) AllReadyH.nil
          obtain ⟨⟨r0, r1, r2, r3⟩, ⟨q0, q1, q2, q3⟩⟩ := box_cells (unhide HBX)
          go_simp
          obtain ⟨hBX, hOF, hOD, hBB⟩ := pkg_fill (unhide HBX) (unhide OF) (unhide OD) (unhide DD) (unhide LOX) rfl
          refine hK.out _ _ ?_ (fun hHeldN => ?_)
          · exact unhide KK _ hBB
          clear hHeld
          have hHeld := hHeldN
          clear hHeldN
          clear hK K
          try simp only [Act.put, List.setIfInBounds_toArray, List.set_cons_zero, List.set_cons_succ]
          refine anyH_at (i := 12) (d := some 12) rfl rfl (by kernel_rfl) (by kernel_rfl) (by kernel_rfl) (fun _ _ _ h => h) (by rfl) (v := ?_) ?_ (by assumption) ?_
          rotate_left
          · (intro w hSw; (try dsimp only at hSw); go_simp <;> with_reducible rfl)
          simp only [Act.put, List.setIfInBounds_toArray, List.set_cons_zero, List.set_cons_succ]
          refine wpAnyH_done (by kernel_rfl) ?_ _
          go_wp2_with fail
          go_meet
          exact ⟨_, _, _, _, _, rfl, rfl, hBX, Prs.own hOF (by omega), Prs.own hOD (by omega), hBB⟩
        case rest =>
          obtain ⟨Xb, fa2, fc2, da2, dc2, rfl, rfl, hbx, hf2, hd2, hb2⟩ := hcut
          have hsame : same nm vr nm vr fs ds fs ds = true := same_yes ⟨rfl, rfl, rfl, rfl⟩
          have kk : ∀ w', Below wc.heap.size wc w' → (w'.cell? ⟨Xb, 0, none⟩ = some (.int .i64 nm) ∧ w'.cell? ⟨Xb, 1, none⟩ = some (.int .i64 vr) ∧ w'.cell? ⟨Xb, 2, none⟩ = some (.slice fa2 fs.length fc2) ∧ w'.cell? ⟨Xb, 3, none⟩ = some (.slice da2 ds.length dc2)) ∧ (w'.cell? ⟨bk, off + k * 4, none⟩ = some (.int .i64 nm) ∧ w'.cell? ⟨bk, off + k * 4 + 1, none⟩ = some (.int .i64 vr) ∧ w'.cell? ⟨bk, off + k * 4 + 2, none⟩ = some (.slice fa' fs.length fc') ∧ w'.cell? ⟨bk, off + k * 4 + 3, none⟩ = some (.slice da' ds.length dc')) := fun w' hw' => by
            have hx := (hw'.block _ (heapLt hbx)).trans hbx
            exact ⟨⟨cellOf hx 0, cellOf hx 1, cellOf hx 2, cellOf hx 3⟩, (unhide KK _ (hb2.trans (hw'.mono hb2.size))).2⟩
          have cP : ∀ w', Below wc.heap.size wc w' → Calls Tryz.prog 14 #[.agg #[.int .i64 nm, .int .i64 vr, .slice fa2 fs.length fc2, .slice da2 ds.length dc2], .agg #[.int .i64 nm, .int .i64 vr, .slice fa' fs.length fc', .slice da' ds.length dc']] w' fun e w'' => e = .returned (.bool true) ∧ Below wc.heap.size wc w'' := fun w' hw' => by
            have hB := hb2.trans (hw'.mono hb2.size)
            refine (lu_any w' nm vr nm vr _ _ _ _ fs ds fs ds (hf2.later hw') (hd2.later hw') ((unhide HF).1.later hB) ((unhide HF).2.later hB)).mono ?_
            rintro e w'' ⟨he, hb⟩
            exact ⟨by rw [he, hsame], hw'.trans (hb.mono hw'.size)⟩
          have K2 := hide kk
          have CP := hide cP
          have HW2 := hide ((unhide HW).trans (hb2.mono (unhide HW).size))
          clear kk cP hbx hf2 hd2 hb2 hsame
          go_wp2_with fail
          refine wq_region (by kernel_rfl) (by kernel_rfl) ?_
          refine wq_move (d := some 73) rfl rfl (by rfl) rfl ?_
          simp only [Act.put, List.setIfInBounds_toArray, List.set_cons_zero, List.set_cons_succ, List.getElem_toArray, List.getElem_cons_zero, List.getElem_cons_succ]
          refine wq_take (d := some 74) rfl (by rfl) (v := ?_) ?_ ?_
          rotate_left
          · (intro w hCw; have hKw := (unhide K2) w hCw; go_simp <;> with_reducible rfl)
          simp only [Act.put, List.setIfInBounds_toArray, List.set_cons_zero, List.set_cons_succ]
          refine wq_move (d := some 75) rfl rfl (by rfl) rfl ?_
          simp only [Act.put, List.setIfInBounds_toArray, List.set_cons_zero, List.set_cons_succ, List.getElem_toArray, List.getElem_cons_zero, List.getElem_cons_succ]
          refine wq_take (d := some 76) rfl (by rfl) (v := ?_) ?_ ?_
          rotate_left
          · (intro w hCw; have hKw := (unhide K2) w hCw; go_simp <;> with_reducible rfl)
          simp only [Act.put, List.setIfInBounds_toArray, List.set_cons_zero, List.set_cons_succ]
          refine wq_move (d := some 77) rfl rfl (by rfl) rfl ?_
          simp only [Act.put, List.setIfInBounds_toArray, List.set_cons_zero, List.set_cons_succ, List.getElem_toArray, List.getElem_cons_zero, List.getElem_cons_succ]
          refine wq_move (d := some 78) rfl rfl (by rfl) rfl ?_
          simp only [Act.put, List.setIfInBounds_toArray, List.set_cons_zero, List.set_cons_succ, List.getElem_toArray, List.getElem_cons_zero, List.getElem_cons_succ]
          refine wq_take (d := some 79) rfl (by rfl) (v := ?_) ?_ ?_
          rotate_left
          · (intro w hCw; have hKw := (unhide K2) w hCw; go_simp <;> with_reducible rfl)
          simp only [Act.put, List.setIfInBounds_toArray, List.set_cons_zero, List.set_cons_succ]
          refine wq_take (d := some 80) rfl (by rfl) (v := ?_) ?_ ?_
          rotate_left
          · (intro w hCw; have hKw := (unhide K2) w hCw; go_simp <;> with_reducible rfl)
          simp only [Act.put, List.setIfInBounds_toArray, List.set_cons_zero, List.set_cons_succ]
          refine wq_call (d := some 81) rfl (by rfl) (hc := (unhide CP)) ?_ ?_
          · (intro w hCw; go_simp)
          simp only [Act.put, List.setIfInBounds_toArray, List.set_cons_zero, List.set_cons_succ]
          refine wq_take (d := some 82) rfl (by rfl) (v := ?_) ?_ ?_
          rotate_left
          · (intro w hCw; have hKw := (unhide K2) w hCw; go_simp <;> with_reducible rfl)
          simp only [Act.put, List.setIfInBounds_toArray, List.set_cons_zero, List.set_cons_succ]
          refine wq_take (d := some 83) rfl (by rfl) (v := ?_) ?_ ?_
          rotate_left
          · (intro w hCw; have hKw := (unhide K2) w hCw; go_simp <;> with_reducible rfl)
          simp only [Act.put, List.setIfInBounds_toArray, List.set_cons_zero, List.set_cons_succ]
          refine wq_nil ?_
          intro w9 hw9
          go_wp2
          go_roundw
          case rel => exact ⟨k + 1, by omega, by go_num, (unhide HW2).trans (hw9.mono (unhide HW2).size)⟩
          case measure => simp [intOf]; omega
      · obtain rfl : k = l.length := by omega
        clear hlt hrow
        have hx := ((unhide HW).block _ (heapLt (unhide X4))).trans (unhide X4)
        obtain ⟨y0, y1, y2⟩ : _ ∧ _ ∧ _ := ⟨cellOf hx 0, cellOf hx 1, cellOf hx 2⟩
        have e1 : ((ms.length : Int) == (l.length : Int)) = true := by have := unhide HL; rw [beq_iff_eq]; omega
        have e2 : (x0 == x0) = true := by simp
        have e3 : (x1 == x1) = true := by simp
        have HID : Hid (Ix.idxOk x0 x1 ms = true) := by
          show _ = _
          rw [unhide HMS]
          exact (Ix.of_get (unhide HO)).2
        clear hx
        go_wp2_with fail
        refine (implIndexOk_any _ x0 x1 _ ms ((unhide T4).later (unhide HW))).mono ?_
        rw [unhide HID]
        rintro e w6 ⟨rfl, b⟩
        have HB := hide ((unhide BW).trans (((unhide HW).trans (b.mono (unhide HW).size)).mono (unhide BW).size))
        clear b y0 y1 y2
        go_wp2
        go_ret
        exact ⟨rfl, unhide HB⟩
end Go.Proofs.YtjehpeojdcaklaaGreatDoor
