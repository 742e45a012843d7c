import Derived.Test.YtlnieobmhofkdaaGreatDoorMix13
import Derived.Test.YtlnieobmhofkdaaGreatDoorMix14
import Derived.Test.YtlnieobmhofkdaaGreatDoorMix12
import Derived.Test.YtlnieobmhofkdaaGreatDoorMix17
import Derived.Test.YtlnieobmhofkdaaGreatDoorSpecHasW
import Derived.Test.YtlnieobmhofkdaaGreatDoorMix16
import Derived.Test.YtlnieobmhofkdaaGreatDoorMix8
import Derived.Deep.CutRange
/- What impl.StoreTrim and spec.StoreTrim return: just those of which the trusted index tells, in order, in rows of their own; for every trust and every row of packages. -/
namespace Go.Proofs.YtlnieobmhofkdaaGreatDoor
open Go.RowKit

attribute [local go_sem ↓] Go.wp_at_zero Go.wp_at_succ

/-- What StoreTrim answers, as data. -/
def Ix.trimA (t : Tr.T) (l : List Ix.Pg) : List Ix.Pg := if t.ok = true ∧ Ix.pkgsOk l = true then Ix.trim t.num t.til t.ms l else []
theorem Ix.trimA_bad {t : Tr.T} {l : List Ix.Pg} (h : t.ok = false) : Ix.trimA t l = [] := by unfold Ix.trimA; rw [if_neg (by rw [h]; simp)]
theorem Ix.trimA_off {t : Tr.T} {l : List Ix.Pg} (h : Ix.pkgsOk l = false) : Ix.trimA t l = [] := by unfold Ix.trimA; rw [if_neg (by rw [h]; simp)]
theorem Ix.trimA_yes {t : Tr.T} {l : List Ix.Pg} (h : t.ok = true) (h2 : Ix.pkgsOk l = true) : Ix.trimA t l = Ix.trim t.num t.til t.ms l := by unfold Ix.trimA; rw [if_pos ⟨h, h2⟩]

set_option maxHeartbeats 8000000 in
set_option maxRecDepth 100000 in
theorem implTrim_any {N : Nat → Prop} (w : World) (t : Tr.T) (kv mv v : Value) (l : List Ix.Pg) (ev : Addr) (g : Gl w ev) (hk : Ins w kv t.ks) (hm : Trs w mv t.ms) (h : Pks N w v l) :
    Calls Tryz.prog 23 #[tvT t kv mv, v] w fun e w' => ∃ u els, e = .returned u ∧ PAns w.heap.size w' u els ∧ els.map (·.1) = Ix.trimA t l ∧ Below w.heap.size w w' := by
  obtain ⟨i0, hI0, hz0, hz1, hz2⟩ := info_parts infoPkg
  obtain ⟨n, ks, d, has, num, til, ms⟩ := t
  dsimp only at hk hm
  obtain ⟨ka, kc, hkv⟩ := hk.slice
  obtain ⟨ma, mc, hmv⟩ := hm.slice
  obtain ⟨a, cap, hv⟩ := h.slice
  subst hkv hmv hv
  have B0 := below1 w (.cells #[.int .i64 n, .slice ka ks.length kc, .int .i64 d, .bool has, .int .i64 num, .int .i64 til, .slice ma ms.length mc] 30)
  have X0 := hide (Tb.new (n := n) (d := d) (has := has) (num := num) (til := til) hk hm 30)
  have H0 := hide (And.intro (h.later B0) (g.later B0))
  have BW := hide B0
  clear hk hm h g B0
  dsimp only [tvT, tv]
  go_enter Tryz.func23, Tryz.ntmps23
  go_wp2_with fail
  refine (implTrustOk_any _ n d _ ks has num til _ ms (unhide X0).ins (unhide X0).trs).mono ?_
  generalize w.alloc _ = W0 at *
  rintro e w1 ⟨rfl, b⟩
  replace X0 := hide ((unhide X0).later b)
  replace H0 := hide (And.intro ((unhide H0).1.later b) ((unhide H0).2.later b))
  replace BW := hide ((unhide BW).trans (b.mono (unhide BW).size))
  clear b
  clear W0
  cases hA : Tr.ok n ks d has num til ms
  · have HT := hide (Ix.trimA_bad hA : Ix.trimA ⟨n, ks, d, has, num, til, ms⟩ l = [])
    clear hA
    go_wp2
    go_ret
    exact ⟨_, [], rfl, PAns.nil _ _, (unhide HT).symm, unhide BW⟩
  go_wp2_with fail
  refine (implStoreOk_any _ _ l (unhide H0).1).mono ?_
  rintro e w2 ⟨rfl, b⟩
  replace X0 := hide ((unhide X0).later b)
  replace H0 := hide (And.intro ((unhide H0).1.later b) ((unhide H0).2.later b))
  replace BW := hide ((unhide BW).trans (b.mono (unhide BW).size))
  clear b
  clear w1
  cases hB : Ix.pkgsOk l
  · have HT := hide (Ix.trimA_off hB : Ix.trimA ⟨n, ks, d, has, num, til, ms⟩ l = [])
    clear hA
    go_wp2
    go_ret
    exact ⟨_, [], rfl, PAns.nil _ _, (unhide HT).symm, unhide BW⟩
  have hT : Ix.trimA ⟨n, ks, d, has, num, til, ms⟩ l = Ix.trim num til ms l := Ix.trimA_yes hA hB
  have HT := hide hT
  have HOK := hide hB
  have hl20 := Ix.pkgs_len hB
  clear hA hT hB
  go_wp2_with fail
  go_loopw [5, 20] (fun o i w' => ∃ (k : Nat) (els : List El), k ≤ l.length ∧ i = .int .i64 k ∧ els.length ≤ k ∧ els.map (·.1) = Ix.trim num til ms (l.take k) ∧ PAns w2.heap.size w' o els ∧ Below w2.heap.size w2 w') (fun _ i _ => l.length - (intOf i).toNat)
  case atStart => exact ⟨0, [], Nat.zero_le _, rfl, Nat.zero_le _, rfl, PAns.nil _ _, Below.refl _ _⟩
  case round =>
    obtain ⟨k, els, hk, rfl, hle, hmap, hP, hw⟩ := hrel
    have HM := hide hmap
    have HP := hide hP
    have HW := hide hw
    clear hmap hP hw
    by_cases hlt : k < l.length
    · have h0 := (unhide H0).1
      obtain ⟨a', cap', e1, hlen, hrow⟩ := h0
      injection e1 with e1 _ e3
      subst e1 e3
      obtain ⟨b, off, rfl, hb, _, hc⟩ := hrow (by omega)
      obtain ⟨fv, dv, hAt, hf, hd⟩ := hc k hlt
      clear hc hrow
      have hkept := Ix.has_kept (num := num) (til := til) (ms := ms) (unhide HOK) hlt
      have hsn := Ix.trim_snoc (num := num) (til := til) (ms := ms) hlt
      obtain ⟨nm, vr, fs, ds, hpk⟩ : ∃ nm vr fs ds, Ix.pg l k = (nm, vr, fs, ds) := ⟨_, _, _, _, rfl⟩
      rw [hpk] at hAt hf hd hkept hsn
      dsimp only at hf hd
      obtain ⟨fa, fc, hfv⟩ := hf.slice
      obtain ⟨da, dc, hdv⟩ := hd.slice
      subst hfv hdv
      obtain ⟨c0, c1, c2, c3⟩ := hAt.keep ((unhide HW).block b hb)
      dsimp only at c0 c1 c2 c3
      have hb' : b < wr.heap.size := Nat.lt_of_lt_of_le hb (unhide HW).size
      have hi0 : (0 : Int) ≤ (k : Int) := Int.natCast_nonneg _
      have hi1 : (k : Int) < (l.length : Int) := by omega
      have bX := below1 wr (.cells #[.int .i64 nm, .int .i64 vr, .slice fa fs.length fc, .slice da ds.length dc] 42)
      have HBX0 := hide (heap_alloc_new wr (.cells #[.int .i64 nm, .int .i64 vr, .slice fa fs.length fc, .slice da ds.length dc] 42))
      have hB1 := (unhide HW).trans (bX.mono (unhide HW).size)
      have HX1 := hide ((unhide X0).later hB1)
      have HG1 := hide ((unhide H0).2.later hB1)
      have HF1 := hide (And.intro (hf.prs.later hB1) (hd.prs.later hB1))
      have HP1 := hide ((unhide HP).later bX)
      have HW1 := hide hB1
      have HKE := hide hkept
      have HSN := hide hsn
      have hsz1 : w.heap.size ≤ wr.heap.size := Nat.le_trans (unhide BW).size (unhide HW).size
      obtain ⟨s, hs⟩ : ∃ s : ByteArray, s = ⟨(Pk.text nm vr fs ds).toArray⟩ := ⟨_, rfl⟩
      have HS := hide hs
      have hsd : s.data.toList = Ix.pText (nm, vr, fs, ds) := by rw [hs]; rfl
      have HSD := hide hsd
      clear hAt hf hd hpk hkept hsn bX hB1 hs hsd HP HW
      go_wp2_with fail
      generalize hXe : wr.heap.size = X at *
      clear hXe
      generalize wr.alloc _ = W1 at *
      clear c0 c1 c2 c3 hb'
      clear wr
      have hX1 : X < W1.heap.size := heapLt (unhide HBX0)
      have kk : ∀ w', Below W1.heap.size W1 w' → (w'.cell? ⟨w.heap.size, 4, none⟩ = some (.int .i64 num) ∧ w'.cell? ⟨w.heap.size, 5, none⟩ = some (.int .i64 til) ∧ w'.cell? ⟨w.heap.size, 6, none⟩ = some (.slice ma ms.length mc)) ∧ (w'.cell? ⟨X, 0, none⟩ = some (.int .i64 nm) ∧ w'.cell? ⟨X, 1, none⟩ = some (.int .i64 vr) ∧ w'.cell? ⟨X, 2, none⟩ = some (.slice fa fs.length fc) ∧ w'.cell? ⟨X, 3, none⟩ = some (.slice da ds.length dc)) := fun w' hw' => by
        have hx := (unhide HX1).later hw'
        have hy := (hw'.block _ hX1).trans (unhide HBX0)
        exact ⟨⟨hx.c4, hx.c5, hx.c6⟩, cellOf hy 0, cellOf hy 1, cellOf hy 2, cellOf hy 3⟩
      have KK := hide kk
      clear kk
      go_cut [8, 9] from 24 to 31 (fun y o wx => ∃ (Xb : Nat) (fa2 : Option Addr) (fc2 : Nat) (da2 : Option Addr) (dc2 : Nat), y = .pointer (some ⟨Xb, 0, none⟩) ∧ o = .bool (Ix.hasB num til ms s.data.toList) ∧ wx.heap[Xb]? = some (.cells #[.int .i64 (Ix.hasD num til ms s.data.toList).1, .int .i64 (Ix.hasD num til ms s.data.toList).2.1, .slice fa2 (Ix.hasD num til ms s.data.toList).2.2.1.length fc2, .slice da2 (Ix.hasD num til ms s.data.toList).2.2.2.length dc2] 42 (0, 0)) ∧ OwP W1.heap.size wx (.slice fa2 (Ix.hasD num til ms s.data.toList).2.2.1.length fc2) (.slice da2 (Ix.hasD num til ms s.data.toList).2.2.2.length dc2) (Ix.hasD num til ms s.data.toList).2.2.1 (Ix.hasD num til ms s.data.toList).2.2.2 ∧ Below W1.heap.size W1 wx)
      case first =>
        refine wp_region_held_drew (S := fun w' => (w'.cell? ⟨w.heap.size, 4, none⟩ = some (.int .i64 num) ∧ w'.cell? ⟨w.heap.size, 5, none⟩ = some (.int .i64 til) ∧ w'.cell? ⟨w.heap.size, 6, none⟩ = some (.slice ma ms.length mc)) ∧ (w'.cell? ⟨X, 0, none⟩ = some (.int .i64 nm) ∧ w'.cell? ⟨X, 1, none⟩ = some (.int .i64 vr) ∧ w'.cell? ⟨X, 2, none⟩ = some (.slice fa fs.length fc) ∧ w'.cell? ⟨X, 3, none⟩ = some (.slice da ds.length dc))) (by kernel_rfl) (by exact unhide KK _ (below_drew W1)) (fun hHeld => ?_)
        refine anyH_at (i := 0) (d := some 25) rfl rfl (by kernel_rfl) (by kernel_rfl) (by kernel_rfl) (fun _ _ _ h => h) (by rfl) (v := ?_) ?_ (by assumption) ?_
        rotate_left
        · (intro w hSw; (try dsimp only at hSw); go_simp <;> with_reducible rfl)
        simp only [Act.put, List.setIfInBounds_toArray, List.set_cons_zero, List.set_cons_succ]
        refine anyH_at (i := 1) (d := some 26) rfl rfl (by kernel_rfl) (by kernel_rfl) (by kernel_rfl) (fun _ _ _ h => h) (by rfl) (v := ?_) ?_ (by assumption) ?_
        rotate_left
        · (intro w hSw; (try dsimp only at hSw); go_simp <;> with_reducible rfl)
        simp only [Act.put, List.setIfInBounds_toArray, List.set_cons_zero, List.set_cons_succ]
        refine anyH_at (i := 2) (d := some 27) rfl rfl (by kernel_rfl) (by kernel_rfl) (by kernel_rfl) (fun _ _ _ h => h) (by rfl) (v := ?_) ?_ (by assumption) ?_
        rotate_left
        · (intro w hSw; (try dsimp only at hSw); go_simp <;> with_reducible rfl)
        simp only [Act.put, List.setIfInBounds_toArray, List.set_cons_zero, List.set_cons_succ]
        have DD : Hid (Below W1.heap.size W1 W1.drew) := below_drew W1
        refine wpAnyH_ready (rs := [3, 8]) (by kernel_rfl) (by simp) ?_
        refine AllReadyH.cons rfl (fun K hK => ?_) (AllReadyH.cons rfl (fun K hK => ?_) AllReadyH.nil)
        rotate_left
        · go_simp
          have HBX : Hid ((W1.drew.alloc (.cells #[.int .i64 0, .int .i64 0, .slice none 0 0, .slice none 0 0] 42)).heap[W1.heap.size]? = _) := heap_alloc_new W1.drew (.cells #[.int .i64 0, .int .i64 0, .slice none 0 0, .slice none 0 0] 42)
          have LOX : Hid (W1.heap.size ≤ W1.heap.size) := (unhide DD).size
          have bX := below1 W1.drew (.cells #[.int .i64 0, .int .i64 0, .slice none 0 0, .slice none 0 0] 42)
          replace DD := hide ((unhide DD).trans (bX.mono (unhide DD).size))
          clear bX
          refine hK.out _ _ ?_ (fun hHeldN => ?_)
          · exact unhide KK _ (unhide DD)
          clear hHeld
          have hHeld := hHeldN
          clear hHeldN
          clear hK K
          try simp only [Act.put, List.setIfInBounds_toArray, List.set_cons_zero, List.set_cons_succ]
          refine wpAnyH_ready (rs := [3]) (by kernel_rfl) (by simp) ?_
          refine AllReadyH.cons rfl (fun K hK => ?_) AllReadyH.nil
          go_simp
          have LP := hide (unhide DD).size
          refine (implText_any _ nm vr _ _ fs ds ((unhide HF1).1.later (unhide DD)) ((unhide HF1).2.later (unhide DD))).mono ?_
          rintro e u1 ⟨rfl, b⟩
          replace DD := hide ((unhide DD).trans (b.mono (unhide DD).size))
          replace HBX := hide ((b.block _ (heapLt (unhide HBX))).trans (unhide HBX))
          rw [← unhide HS]
          clear b LP
          go_wp2_with fail
          refine hK.out _ _ ?_ (fun hHeldN => ?_)
          · exact unhide KK _ (unhide DD)
          clear hHeld
          have hHeld := hHeldN
          clear hHeldN
          clear hK K
          try simp only [Act.put, List.setIfInBounds_toArray, List.set_cons_zero, List.set_cons_succ]
          refine wpAnyH_ready (rs := [4]) (by kernel_rfl) (by simp) ?_
          refine AllReadyH.cons rfl (fun K hK => ?_) AllReadyH.nil
          go_simp
          have LP := hide (unhide DD).size
          refine (implHas_any _ num til _ ms s ev ((unhide HG1).later (unhide DD)) ((unhide HX1).trs.later (unhide DD))).mono ?_
          rintro e u2 ⟨fv2, dv2, rfl, hf2, hd2, b⟩
          replace DD := hide ((unhide DD).trans (b.mono (unhide DD).size))
          replace HBX := hide ((b.block _ (heapLt (unhide HBX))).trans (unhide HBX))
          obtain ⟨fa2, fc2, rfl⟩ := own_form hf2
          obtain ⟨da2, dc2, rfl⟩ := own_form hd2
          have LO2 := LP
          have OF := hide (own2_base hf2 (unhide LO2))
          have OD := hide (own2_base hd2 (unhide LO2))
          clear hf2 hd2 LO2
          clear b LP
          go_wp2_with fail
          refine hK.out _ _ ?_ (fun hHeldN => ?_)
          · exact unhide KK _ (unhide DD)
          clear hHeld
          have hHeld := hHeldN
          clear hHeldN
          clear hK K
          try simp only [Act.put, List.setIfInBounds_toArray, List.set_cons_zero, List.set_cons_succ]
          refine anyH_at (i := 5) (d := some 24) rfl rfl (by kernel_rfl) (by kernel_rfl) (by kernel_rfl) (fun _ _ _ h => h) (by rfl) (v := ?_) ?_ (by assumption) ?_
          rotate_left
          · (intro w hSw; (try dsimp only at hSw); go_simp <;> with_reducible rfl)
          simp only [Act.put, List.setIfInBounds_toArray, List.set_cons_zero, List.set_cons_succ]
          refine anyH_at (i := 6) (d := some 30) rfl rfl (by kernel_rfl) (by kernel_rfl) (by kernel_rfl) (fun _ _ _ h => h) (by rfl) (v := ?_) ?_ (by assumption) ?_
          rotate_left
          · (intro w hSw; (try dsimp only at hSw); go_simp <;> with_reducible rfl)
          simp only [Act.put, List.setIfInBounds_toArray, List.set_cons_zero, List.set_cons_succ]
          refine anyH_at (i := 7) (d := some 31) rfl rfl (by kernel_rfl) (by kernel_rfl) (by kernel_rfl) (fun _ _ _ h => h) (by rfl) (v := ?_) ?_ (by assumption) ?_
          rotate_left
          · (intro w hSw; (try dsimp only at hSw); go_simp <;> with_reducible rfl)
          simp only [Act.put, List.setIfInBounds_toArray, List.set_cons_zero, List.set_cons_succ]
          refine wpAnyH_ready (rs := [9]) (by kernel_rfl) (by simp) ?_
          refine AllReadyH.cons rfl (fun K hK => ?_) AllReadyH.nil
          obtain ⟨⟨r0, r1, r2, r3⟩, ⟨q0, q1, q2, q3⟩⟩ := box_cells (unhide HBX)
          go_simp
          obtain ⟨hBX, hOF, hOD, hBB⟩ := pkg_fill (unhide HBX) (unhide OF) (unhide OD) (unhide DD) (unhide LOX) rfl
          refine hK.out _ _ ?_ (fun hHeldN => ?_)
          · exact unhide KK _ hBB
          clear hHeld
          have hHeld := hHeldN
          clear hHeldN
          clear hK K
          try simp only [Act.put, List.setIfInBounds_toArray, List.set_cons_zero, List.set_cons_succ]
          refine anyH_at (i := 10) (d := some 9) rfl rfl (by kernel_rfl) (by kernel_rfl) (by kernel_rfl) (fun _ _ _ h => h) (by rfl) (v := ?_) ?_ (by assumption) ?_
          rotate_left
          · (intro w hSw; (try dsimp only at hSw); go_simp <;> with_reducible rfl)
          simp only [Act.put, List.setIfInBounds_toArray, List.set_cons_zero, List.set_cons_succ]
          refine wpAnyH_done (by kernel_rfl) ?_ _
          go_wp2_with fail
          go_meet
          exact ⟨_, _, _, _, _, rfl, rfl, hBX, ⟨hOF, hOD⟩, hBB⟩
        go_simp
        have LP := hide (unhide DD).size
        refine (implText_any _ nm vr _ _ fs ds ((unhide HF1).1.later (unhide DD)) ((unhide HF1).2.later (unhide DD))).mono ?_
        rintro e u1 ⟨rfl, b⟩
        replace DD := hide ((unhide DD).trans (b.mono (unhide DD).size))
        rw [← unhide HS]
        clear b LP
        go_wp2_with fail
        refine hK.out _ _ ?_ (fun hHeldN => ?_)
        · exact unhide KK _ (unhide DD)
        clear hHeld
        have hHeld := hHeldN
        clear hHeldN
        clear hK K
        try simp only [Act.put, List.setIfInBounds_toArray, List.set_cons_zero, List.set_cons_succ]
        refine wpAnyH_ready (rs := [4, 8]) (by kernel_rfl) (by simp) ?_
        refine AllReadyH.cons rfl (fun K hK => ?_) (AllReadyH.cons rfl (fun K hK => ?_) AllReadyH.nil)
        rotate_left
        · go_simp
          have HBX := hide (heap_alloc_new u1 (.cells #[.int .i64 0, .int .i64 0, .slice none 0 0, .slice none 0 0] 42))
          have LOX : Hid (W1.heap.size ≤ u1.heap.size) := (unhide DD).size
          have bX := below1 u1 (.cells #[.int .i64 0, .int .i64 0, .slice none 0 0, .slice none 0 0] 42)
          replace DD := hide ((unhide DD).trans (bX.mono (unhide DD).size))
          clear bX
          refine hK.out _ _ ?_ (fun hHeldN => ?_)
          · exact unhide KK _ (unhide DD)
          clear hHeld
          have hHeld := hHeldN
          clear hHeldN
          clear hK K
          try simp only [Act.put, List.setIfInBounds_toArray, List.set_cons_zero, List.set_cons_succ]
          generalize hXb : u1.heap.size = Xb at *
          clear hXb
          refine wpAnyH_ready (rs := [4]) (by kernel_rfl) (by simp) ?_
          refine AllReadyH.cons rfl (fun K hK => ?_) AllReadyH.nil
          go_simp
          have LP := hide (unhide DD).size
          refine (implHas_any _ num til _ ms s ev ((unhide HG1).later (unhide DD)) ((unhide HX1).trs.later (unhide DD))).mono ?_
          rintro e u2 ⟨fv2, dv2, rfl, hf2, hd2, b⟩
          replace DD := hide ((unhide DD).trans (b.mono (unhide DD).size))
          replace HBX := hide ((b.block _ (heapLt (unhide HBX))).trans (unhide HBX))
          obtain ⟨fa2, fc2, rfl⟩ := own_form hf2
          obtain ⟨da2, dc2, rfl⟩ := own_form hd2
          have LO2 := LP
          have OF := hide (own2_base hf2 (unhide LO2))
          have OD := hide (own2_base hd2 (unhide LO2))
          clear hf2 hd2 LO2
          clear b LP
          go_wp2_with fail
          refine hK.out _ _ ?_ (fun hHeldN => ?_)
          · exact unhide KK _ (unhide DD)
          clear hHeld
          have hHeld := hHeldN
          clear hHeldN
          clear hK K
          try simp only [Act.put, List.setIfInBounds_toArray, List.set_cons_zero, List.set_cons_succ]
          refine anyH_at (i := 5) (d := some 24) rfl rfl (by kernel_rfl) (by kernel_rfl) (by kernel_rfl) (fun _ _ _ h => h) (by rfl) (v := ?_) ?_ (by assumption) ?_
          rotate_left
          · (intro w hSw; (try dsimp only at hSw); go_simp <;> with_reducible rfl)
          simp only [Act.put, List.setIfInBounds_toArray, List.set_cons_zero, List.set_cons_succ]
          refine anyH_at (i := 6) (d := some 30) rfl rfl (by kernel_rfl) (by kernel_rfl) (by kernel_rfl) (fun _ _ _ h => h) (by rfl) (v := ?_) ?_ (by assumption) ?_
          rotate_left
          · (intro w hSw; (try dsimp only at hSw); go_simp <;> with_reducible rfl)
          simp only [Act.put, List.setIfInBounds_toArray, List.set_cons_zero, List.set_cons_succ]
          refine anyH_at (i := 7) (d := some 31) rfl rfl (by kernel_rfl) (by kernel_rfl) (by kernel_rfl) (fun _ _ _ h => h) (by rfl) (v := ?_) ?_ (by assumption) ?_
          rotate_left
          · (intro w hSw; (try dsimp only at hSw); go_simp <;> with_reducible rfl)
          simp only [Act.put, List.setIfInBounds_toArray, List.set_cons_zero, List.set_cons_succ]
          refine wpAnyH_ready (rs := [9]) (by kernel_rfl) (by simp) ?_
          refine AllReadyH.cons rfl (fun K hK => ?_) AllReadyH.nil
          obtain ⟨⟨r0, r1, r2, r3⟩, ⟨q0, q1, q2, q3⟩⟩ := box_cells (unhide HBX)
          go_simp
          obtain ⟨hBX, hOF, hOD, hBB⟩ := pkg_fill (unhide HBX) (unhide OF) (unhide OD) (unhide DD) (unhide LOX) rfl
          refine hK.out _ _ ?_ (fun hHeldN => ?_)
          · exact unhide KK _ hBB
          clear hHeld
          have hHeld := hHeldN
          clear hHeldN
          clear hK K
          try simp only [Act.put, List.setIfInBounds_toArray, List.set_cons_zero, List.set_cons_succ]
          refine anyH_at (i := 10) (d := some 9) rfl rfl (by kernel_rfl) (by kernel_rfl) (by kernel_rfl) (fun _ _ _ h => h) (by rfl) (v := ?_) ?_ (by assumption) ?_
          rotate_left
          · (intro w hSw; (try dsimp only at hSw); go_simp <;> with_reducible rfl)
          simp only [Act.put, List.setIfInBounds_toArray, List.set_cons_zero, List.set_cons_succ]
          refine wpAnyH_done (by kernel_rfl) ?_ _
          go_wp2_with fail
          go_meet
          exact ⟨_, _, _, _, _, rfl, rfl, hBX, ⟨hOF, hOD⟩, hBB⟩
        go_simp
        have LP := hide (unhide DD).size
        refine (implHas_any _ num til _ ms s ev ((unhide HG1).later (unhide DD)) ((unhide HX1).trs.later (unhide DD))).mono ?_
        rintro e u2 ⟨fv2, dv2, rfl, hf2, hd2, b⟩
        replace DD := hide ((unhide DD).trans (b.mono (unhide DD).size))
        obtain ⟨fa2, fc2, rfl⟩ := own_form hf2
        obtain ⟨da2, dc2, rfl⟩ := own_form hd2
        have LO2 := LP
        have OF := hide (own2_base hf2 (unhide LO2))
        have OD := hide (own2_base hd2 (unhide LO2))
        clear hf2 hd2 LO2
        clear b LP
        go_wp2_with fail
        refine hK.out _ _ ?_ (fun hHeldN => ?_)
        · exact unhide KK _ (unhide DD)
        clear hHeld
        have hHeld := hHeldN
        clear hHeldN
        clear hK K
        try simp only [Act.put, List.setIfInBounds_toArray, List.set_cons_zero, List.set_cons_succ]
        refine anyH_at (i := 5) (d := some 24) rfl rfl (by kernel_rfl) (by kernel_rfl) (by kernel_rfl) (fun _ _ _ h => h) (by rfl) (v := ?_) ?_ (by assumption) ?_
        rotate_left
        · (intro w hSw; (try dsimp only at hSw); go_simp <;> with_reducible rfl)
        simp only [Act.put, List.setIfInBounds_toArray, List.set_cons_zero, List.set_cons_succ]
        refine anyH_at (i := 6) (d := some 30) rfl rfl (by kernel_rfl) (by kernel_rfl) (by kernel_rfl) (fun _ _ _ h => h) (by rfl) (v := ?_) ?_ (by assumption) ?_
        rotate_left
        · (intro w hSw; (try dsimp only at hSw); go_simp <;> with_reducible rfl)
        simp only [Act.put, List.setIfInBounds_toArray, List.set_cons_zero, List.set_cons_succ]
        refine anyH_at (i := 7) (d := some 31) rfl rfl (by kernel_rfl) (by kernel_rfl) (by kernel_rfl) (fun _ _ _ h => h) (by rfl) (v := ?_) ?_ (by assumption) ?_
        rotate_left
        · (intro w hSw; (try dsimp only at hSw); go_simp <;> with_reducible rfl)
        simp only [Act.put, List.setIfInBounds_toArray, List.set_cons_zero, List.set_cons_succ]
        refine wpAnyH_ready (rs := [8]) (by kernel_rfl) (by simp) ?_
        refine AllReadyH.cons rfl (fun K hK => ?_) AllReadyH.nil
        go_simp
        have HBX := hide (heap_alloc_new u2 (.cells #[.int .i64 0, .int .i64 0, .slice none 0 0, .slice none 0 0] 42))
        have LOX : Hid (W1.heap.size ≤ u2.heap.size) := (unhide DD).size
        have bX := below1 u2 (.cells #[.int .i64 0, .int .i64 0, .slice none 0 0, .slice none 0 0] 42)
        replace DD := hide ((unhide DD).trans (bX.mono (unhide DD).size))
        replace OF := hide (own2_later (unhide OF) bX)
        replace OD := hide (own2_later (unhide OD) bX)
        clear bX
        refine hK.out _ _ ?_ (fun hHeldN => ?_)
        · exact unhide KK _ (unhide DD)
        clear hHeld
        have hHeld := hHeldN
        clear hHeldN
        clear hK K
        try simp only [Act.put, List.setIfInBounds_toArray, List.set_cons_zero, List.set_cons_succ]
        generalize hXb : u2.heap.size = Xb at *
        clear hXb
        refine wpAnyH_ready (rs := [9]) (by kernel_rfl) (by simp) ?_
        refine AllReadyH.cons rfl (fun K hK => ?_) AllReadyH.nil
        obtain ⟨⟨r0, r1, r2, r3⟩, ⟨q0, q1, q2, q3⟩⟩ := box_cells (unhide HBX)
        go_simp
        obtain ⟨hBX, hOF, hOD, hBB⟩ := pkg_fill (unhide HBX) (unhide OF) (unhide OD) (unhide DD) (unhide LOX) rfl
        refine hK.out _ _ ?_ (fun hHeldN => ?_)
        · exact unhide KK _ hBB
        clear hHeld
        have hHeld := hHeldN
        clear hHeldN
        clear hK K
        try simp only [Act.put, List.setIfInBounds_toArray, List.set_cons_zero, List.set_cons_succ]
        refine anyH_at (i := 10) (d := some 9) rfl rfl (by kernel_rfl) (by kernel_rfl) (by kernel_rfl) (fun _ _ _ h => h) (by rfl) (v := ?_) ?_ (by assumption) ?_
        rotate_left
        · (intro w hSw; (try dsimp only at hSw); go_simp <;> with_reducible rfl)
        simp only [Act.put, List.setIfInBounds_toArray, List.set_cons_zero, List.set_cons_succ]
        refine wpAnyH_done (by kernel_rfl) ?_ _
        go_wp2_with fail
        go_meet
        exact ⟨_, _, _, _, _, rfl, rfl, hBX, ⟨hOF, hOD⟩, hBB⟩
      case rest =>
        obtain ⟨Xb, fa2, fc2, da2, dc2, rfl, rfl, hbx, ho2, hb2⟩ := hcut
        obtain ⟨hyB, hyD⟩ := unhide HKE
        rw [← unhide HSD] at hyB hyD
        clear HKE
        cases hTP : Ix.tellsP num til ms (nm, vr, fs, ds)
        · rw [hTP] at hyB
          rw [hyB]
          have hsn := unhide HSN
          rw [if_neg (by rw [hTP]; simp)] at hsn
          have HSN2 := hide hsn
          have HP2 := hide ((unhide HP1).later hb2)
          have HW2 := hide ((unhide HW1).trans (hb2.mono (unhide HW1).size))
          clear hyB hyD hsn hbx ho2 hb2 HSN hTP
          go_wp2
          go_roundw
          case rel => exact ⟨k + 1, els, by omega, by go_num, by omega, by rw [unhide HSN2]; exact unhide HM, unhide HP2, unhide HW2⟩
          case measure => simp [intOf]; omega
        · rw [hTP] at hyB
          have hyD2 := hyD hTP
          rw [hyB]
          rw [hyD2] at hbx ho2
          dsimp only at hbx ho2
          have hsn := unhide HSN
          rw [if_pos hTP] at hsn
          have HSN2 := hide hsn
          obtain ⟨c0, c1, c2, c3⟩ : _ ∧ _ ∧ _ ∧ _ := ⟨cellOf hbx 0, cellOf hbx 1, cellOf hbx 2, cellOf hbx 3⟩
          have hfar : ∀ x ∈ els, farE x ((nm, vr, fs, ds), .slice fa2 fs.length fc2, .slice da2 ds.length dc2) := fun x hx => farE.new ((unhide HP1).el x hx) ho2
          have HFA := hide hfar
          have b3 := below1 wc (.cells #[.int .i64 nm, .int .i64 vr, .slice fa2 fs.length fc2, .slice da2 ds.length dc2] 42)
          have HP3 := hide ((unhide HP1).later (hb2.trans (b3.mono hb2.size)))
          have HO3 := hide ((ho2.base (B' := w2.heap.size) (unhide HW1).size).later b3)
          have HW3 := hide ((unhide HW1).trans ((hb2.trans (b3.mono hb2.size)).mono (unhide HW1).size))
          have hs2 : w.heap.size ≤ wc.heap.size := by have := hb2.size; omega
          have hw2s : w2.heap.size ≤ wc.heap.size := by have := (unhide HW1).size; have := hb2.size; omega
          have hww := (unhide BW).size
          clear hyB hyD hyD2 hsn hbx ho2 hb2 b3 hfar HP1 HW1 HSN hTP
          go_wp2_with (at_builtin; refine wpList_append_lies _ rfl _ _ _ rfl w2.heap.size 42 i0 _ 4 64 Tryz.underlying31 hI0 hz0 hz1 hz2 rfl (by omega) _ els.length (flat4 els) rfl (unhide HP3).own ⟨wc.heap.size, 0, none⟩ 1 1 [.int .i64 nm, .int .i64 vr, .slice fa2 fs.length fc2, .slice da2 ds.length dc2] rfl rfl (World.news_of_block (cs := #[.int .i64 nm, .int .i64 vr, .slice fa2 fs.length fc2, .slice da2 ds.length dc2]) (t := 42) (fr := (0, 0)) (heap_alloc_new _ _)) (by simp [Value.oneCell']) (by omega) (by unfold maxLen; omega) (by omega) (by rw [sz1']; omega) (wc.heap.size + 1) (by rw [sz1']) ?_; intro gg gcap w10 hown hgrow hat hlt10)
          have HP10 := hide (PAns.snoc (e := ((nm, vr, fs, ds), .slice fa2 fs.length fc2, .slice da2 ds.length dc2)) (unhide HP3) hgrow hown (unhide HO3) (unhide HFA))
          have HB10 := hide (grown_below (B := w2.heap.size) (unhide HP3).own hgrow (unhide HW3) (unhide HW3).size)
          clear hown hgrow hat hlt10 HP3 HW3 HO3 HFA
          go_roundw
          case rel => exact ⟨k + 1, els ++ [((nm, vr, fs, ds), .slice fa2 fs.length fc2, .slice da2 ds.length dc2)], by omega, by go_num, by rw [List.length_append]; simp only [List.length_cons, List.length_nil]; omega, by rw [unhide HSN2, List.map_append, unhide HM]; rfl, unhide HP10, unhide HB10⟩
          case measure => simp [intOf]; omega
    · obtain rfl : k = l.length := by omega
      rw [List.take_of_length_le (Nat.le_refl _), ← unhide HT] at HM
      have HB := hide ((unhide BW).trans ((unhide HW).mono (unhide BW).size))
      clear hlt
      go_wp2
      go_ret
      exact ⟨_, els, rfl, (unhide HP).base (unhide BW).size, unhide HM, unhide HB⟩
/-- One more behind. -/
theorem POwn.snoc {N : Nat → Prop} {B : Nat} {w w2 : World} {v v' : Value} {l : List El} {e : El} (h : POwn N B w v l) (hg : w.grownBy w2 v.ownBlock) (ho : w2.ownsRow B 42 4 v' (l.length + 1) (flat4 l ++ [.int .i64 e.1.1, .int .i64 e.1.2.1, e.2.1, e.2.2]))
    (he : PrsN N w e.2.1 e.1.2.2.1 ∧ PrsN N w e.2.2 e.1.2.2.2) (hN : ∀ b, N b → v.ownBlock ≠ some b) : POwn N B w2 v' (l ++ [e]) := by
  have kp : ∀ {v : Value} {x : List (Int × Int)}, PrsN N w v x → PrsN N w2 v x := fun hp => hp.keep hg.size (fun k hk hn => hg.block k hk (fun e => hN k hn e.symm))
  refine ⟨by rw [flat4_snoc, List.length_append]; exact ho, fun x hx => ?_⟩
  rcases List.mem_append.1 hx with hx | hx
  · exact ⟨kp (h.el x hx).1, kp (h.el x hx).2⟩
  · rw [List.mem_singleton] at hx
    rw [hx]
    exact ⟨kp he.1, kp he.2⟩
/-- .. as if the index were ok. -/
def Ix.trim3 (has : Bool) (ms : List Ix.M) (l : List Ix.Pg) : List Ix.Pg := l.filter (fun p => has && decide (Ix.metaP p ∈ ms))
theorem Ix.trim3_snoc {has : Bool} {ms : List Ix.M} {l : List Ix.Pg} {k : Nat} (hk : k < l.length) (hp : Ix.pOk (Ix.pg l k) = true) : Ix.trim3 has ms (l.take (k + 1)) = if (has && (l3has ms (Ix.pText (Ix.pg l k))).isSome) = true then Ix.trim3 has ms (l.take k) ++ [Ix.pg l k] else Ix.trim3 has ms (l.take k) := by
  have e : (l3has ms (Ix.pText (Ix.pg l k))).isSome = decide (Ix.metaP (Ix.pg l k) ∈ ms) := by
    unfold l3has
    rw [Ix.rp_text hp, Option.filter_some]
    by_cases h : Ix.metaP (Ix.pg l k) ∈ ms
    · simp [h]
    · simp [h]
  rw [e, Ix.take_pgs hk]
  unfold Ix.trim3
  rw [List.filter_append]
  cases h : (has && decide (Ix.metaP (Ix.pg l k) ∈ ms))
  · rw [List.filter_cons_of_neg (by simp only [h]; simp), List.filter_nil, List.append_nil, if_neg (by simp)]
  · rw [List.filter_cons_of_pos (by simp only [h]), List.filter_nil, if_pos rfl]
theorem Ix.trim3_ok {t : Tr.T} {l : List Ix.Pg} (h : t.ok = true) : Ix.trim3 t.has t.ms l = Ix.trim t.num t.til t.ms l := by
  unfold Ix.trim3 Ix.trim
  refine List.filter_congr fun p _ => ?_
  unfold Ix.tellsP
  have h1 := h
  unfold Tr.T.ok Tr.ok at h1
  rw [Bool.and_eq_true] at h1
  replace h1 := h1.2
  cases hh : t.has
  · rw [hh] at h1
    have hi : Ix.idxOk t.num t.til t.ms = false := by
      cases hx : Ix.idxOk t.num t.til t.ms
      · rfl
      · exfalso
        have h2 : Tr.noIdx t.num t.til t.ms = true := h1
        unfold Tr.noIdx at h2
        unfold Ix.idxOk at hx
        simp only [Bool.and_eq_true, Pk.inB, decide_eq_true_eq] at h2 hx
        omega
    rw [hi, Bool.false_and]
  · rw [hh] at h1
    have hi : Ix.idxOk t.num t.til t.ms = true := h1
    rw [hi]

end Go.Proofs.YtlnieobmhofkdaaGreatDoor
