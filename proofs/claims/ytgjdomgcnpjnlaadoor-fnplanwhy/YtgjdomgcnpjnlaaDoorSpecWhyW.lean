import Derived.Test.YtgjdomgcnpjnlaaDoorMixF
/- What spec.PlanWhy returns: what is wrong, line by line; for every row of packages that can be read. -/
namespace Go.Proofs.YtgjdomgcnpjnlaaDoor
open Go.RowKit

attribute [local go_sem ↓] Go.wp_at_zero Go.wp_at_succ

theorem Ix.told_bd {ls : List (List UInt8)} (h : Ix.Short ls) (hl : ls.length ≤ 200) : (Ix.told ls).length ≤ 3000 := by have := Ix.told_len ls h; omega

set_option maxHeartbeats 16000000 in
set_option maxRecDepth 100000 in
theorem specPlanWhy_any {N : Nat → Prop} (w : World) (v : Value) (l : List Ix.Pg) (h : Pks N w v l) :
    Calls Tryd.prog 7 #[v] w fun e w' => e = .returned (.string ⟨(Ix.why l).toArray⟩) ∧ Below w.heap.size w w' := by
  have HP := hide h
  obtain ⟨a, cap, rfl, hlen, hrow⟩ := h
  go_enter Tryd.func7, Tryd.ntmps7
  go_wp2_with fail
  refine (specStoreOk_any _ _ l (unhide HP)).mono ?_
  rintro e w1 ⟨rfl, b1⟩
  have B1 := hide b1
  clear b1
  cases hk : Ix.pkgsOk l
  · go_wp2
    go_ret
    exact ⟨ret_str (by unfold Ix.why; rw [hk]; rfl), unhide B1⟩
  have HOK := hide hk
  have hl20 := Ix.pkgs_len hk
  clear hk
  go_wp2_with fail
  go_loopw [3, 4] (fun o i w' => ∃ k : Nat, k ≤ l.length ∧ i = .int .i64 k ∧ o = .string ⟨(Ix.told (Ix.linesTo l k)).toArray⟩ ∧ Below w.heap.size w w') (fun _ i _ => l.length - (intOf i).toNat)
  case atStart => exact ⟨0, Nat.zero_le _, rfl, rfl, unhide B1⟩
  case round =>
    clear B1
    obtain ⟨k, hk, rfl, rfl, hw⟩ := hrel
    have HW := hide hw
    clear hw
    by_cases hlt : k < l.length
    · obtain ⟨b, off, rfl, hb, _, hc⟩ := hrow (by omega)
      have HC := hide hc
      obtain ⟨fv, dv, hAt, hf, hd⟩ := hc k hlt
      have hpo := Ix.pkgs_pOk (unhide HOK) hlt
      have hn0 := Ix.pOk_name hpo
      have hv0 := Ix.pOk_ver hpo
      have hll := Ix.pOk_lens hpo
      have hfo := Ix.pOk_file hpo
      have hdo := Ix.pOk_dep hpo
      have hls := Ix.linesTo_succ l k
      have hll5 := Ix.linesTo_len (unhide HOK) k hk
      unfold Ix.linesAt at hls
      clear hc hrow hpo
      obtain ⟨nm, vr, fs, ds, hpk⟩ : ∃ nm vr fs ds, Ix.pg l k = (nm, vr, fs, ds) := ⟨_, _, _, _, rfl⟩
      have HPK := hide hpk
      rw [hpk] at hAt hf hd hn0 hv0 hll hfo hdo hls
      dsimp only at hf hd hn0 hv0 hll hfo hdo hls
      have HLS := hide hls
      have HFO := hide hfo
      have HDO := hide hdo
      obtain ⟨hll1, hll2⟩ := hll
      obtain ⟨fa, fc, hfv, _, hfr⟩ := hf
      obtain ⟨da, dc, hdv, _, hdr⟩ := hd
      subst hfv hdv
      have HFR := hide hfr
      have HDR := hide hdr
      obtain ⟨c0, c1, c2, c3⟩ := hAt.keep ((unhide HW).block b hb)
      dsimp only at c0 c1
      have hb' : b < wr.heap.size := Nat.lt_of_lt_of_le hb (unhide HW).size
      have hi0 : (0 : Int) ≤ (k : Int) := Int.natCast_nonneg _
      have hi1 : (k : Int) < (l.length : Int) := by omega
      have er : IntKind.i64.wrap ((k : Int) + 1) = (k : Int) + 1 := by simp [IntKind.wrap, IntKind.bits, IntKind.signed]; omega
      have bP := below1 wr (.cells #[.int .i64 nm, .int .i64 vr, .slice fa fs.length fc, .slice da ds.length dc] 37)
      have HX := hide (heap_alloc_new wr (.cells #[.int .i64 nm, .int .i64 vr, .slice fa fs.length fc, .slice da ds.length dc] 37))
      have HW1 := hide ((unhide HW).trans (bP.mono (unhide HW).size))
      have hsb : Ix.Short (Ix.linesTo l k ++ Ix.besideL l k) := (Ix.linesTo_short l k).app (Ix.besideL_short l k)
      have HSB := hide hsb
      clear hAt hls hfo hdo bP hpk hsb hfr hdr
      go_wp2_with fail
      generalize hPe : wr.heap.size = P at *
      clear hPe
      generalize wr.alloc _ = W1 at *
      clear c0 c1 c2 c3 hb' HW
      clear wr
      -- whether the one ahead is of the same name
      obtain ⟨bs, hbs⟩ : ∃ bs : Bool, bs = decide (k ≠ 0 ∧ (Ix.pg l (k - 1)).1 = nm) := ⟨_, rfl⟩
      have HBS := hide hbs
      clear hbs
      go_cut [34] from 22 to 33 (fun c wx => c = .bool bs ∧ Below W1.heap.size W1 wx)
      case first =>
        rcases Nat.eq_zero_or_pos k with hz | hp
        · have hd0 : decide ((0 : Int) < (k : Int)) = false := by rw [hz]; rfl
          have hb0 : bs = false := by rw [unhide HBS]; exact decide_eq_false (fun h => h.1 hz)
          subst hb0
          have hkz : k ≤ 0 := by omega
          have HZ := hide hz
          clear hz
          have HK : Hid (∀ w', Below W1.heap.size W1 w' → True) := fun _ _ => trivial
          refine wq_region (by kernel_rfl) (by kernel_rfl) ?_
          refine wq_move (d := some 22) rfl rfl (by rfl) rfl ?_
          simp only [Act.put, List.setIfInBounds_toArray, List.set_cons_zero, List.set_cons_succ, List.getElem_toArray, List.getElem_cons_zero, List.getElem_cons_succ]
          refine wq_take (d := some 23) rfl (by rfl) (v := (.bool false)) ?_ ?_
          · (intro w hCw; go_simp <;> omega)
          simp only [Act.put, List.setIfInBounds_toArray, List.set_cons_zero, List.set_cons_succ]
          refine wq_move (d := some 24) rfl rfl (by rfl) rfl ?_
          simp only [Act.put, List.setIfInBounds_toArray, List.set_cons_zero, List.set_cons_succ, List.getElem_toArray, List.getElem_cons_zero, List.getElem_cons_succ]
          refine wq_skip (d := some 25) rfl (by rfl) ?_
          simp only [Act.put, List.setIfInBounds_toArray, List.set_cons_zero, List.set_cons_succ]
          refine wq_skip (d := some 26) rfl (by rfl) ?_
          simp only [Act.put, List.setIfInBounds_toArray, List.set_cons_zero, List.set_cons_succ]
          refine wq_skip (d := some 27) rfl (by rfl) ?_
          simp only [Act.put, List.setIfInBounds_toArray, List.set_cons_zero, List.set_cons_succ]
          refine wq_skip (d := some 28) rfl (by rfl) ?_
          simp only [Act.put, List.setIfInBounds_toArray, List.set_cons_zero, List.set_cons_succ]
          refine wq_skip (d := some 29) rfl (by rfl) ?_
          simp only [Act.put, List.setIfInBounds_toArray, List.set_cons_zero, List.set_cons_succ]
          refine wq_skip (d := some 30) rfl (by rfl) ?_
          simp only [Act.put, List.setIfInBounds_toArray, List.set_cons_zero, List.set_cons_succ]
          refine wq_skip (d := some 31) rfl (by rfl) ?_
          simp only [Act.put, List.setIfInBounds_toArray, List.set_cons_zero, List.set_cons_succ]
          refine wq_skip (d := some 32) rfl (by rfl) ?_
          simp only [Act.put, List.setIfInBounds_toArray, List.set_cons_zero, List.set_cons_succ]
          refine wq_skip (d := some 33) rfl (by rfl) ?_
          simp only [Act.put, List.setIfInBounds_toArray, List.set_cons_zero, List.set_cons_succ]
          refine wq_take (d := some 34) rfl (by rfl) (v := ?_) ?_ ?_
          rotate_left
          · (intro w hCw; have hKw := (unhide HK) w hCw; go_simp <;> with_reducible rfl)
          simp only [Act.put, List.setIfInBounds_toArray, List.set_cons_zero, List.set_cons_succ]
          refine wq_nil ?_
          intro w9 hw9
          go_wp2_with fail
          go_meet
          exact ⟨rfl, hw9⟩
        · obtain ⟨m, rfl⟩ : ∃ m, k = m + 1 := ⟨k - 1, by omega⟩
          have hd0 : decide ((0 : Int) < ((m + 1 : Nat) : Int)) = true := decide_eq_true (by omega)
          obtain ⟨fv', dv', hAt', _, _⟩ := unhide HC m (by omega)
          have hbq : bs = ((Ix.pg l m).1 == nm) := by
            rw [unhide HBS, Nat.add_sub_cancel]
            by_cases e : (Ix.pg l m).1 = nm
            · rw [decide_eq_true ⟨by omega, e⟩, beq_iff_eq.2 e]
            · rw [decide_eq_false (fun h => e h.2), beq_eq_false_iff_ne.2 e]
          have HBQ := hide hbq
          clear hbq
          have HK : Hid (∀ w', Below W1.heap.size W1 w' → w'.cell? ⟨b, off + m * 4, none⟩ = some (.int .i64 (Ix.pg l m).1) ∧ w'.cell? ⟨P, 0, none⟩ = some (.int .i64 nm)) := fun w' hw' => ⟨(hAt'.keep (((unhide HW1).trans (hw'.mono (unhide HW1).size)).block b hb)).1, cellOf ((hw'.block _ (heapLt (unhide HX))).trans (unhide HX)) 0⟩
          have e1 : IntKind.i64.wrap (m : Int) = (m : Int) := by simp [IntKind.wrap, IntKind.bits, IntKind.signed]; omega
          have e1' : IntKind.i64.wrap (((m + 1 : Nat) : Int) - 1) = (m : Int) := by simp [IntKind.wrap, IntKind.bits, IntKind.signed]; omega
          have hj0 : (0 : Int) ≤ (m : Int) := Int.natCast_nonneg _
          have hj1 : (m : Int) < (l.length : Int) := by omega
          clear hAt'
          generalize (Ix.pg l m).1 = x at *
          refine wq_region (by kernel_rfl) (by kernel_rfl) ?_
          refine wq_move (d := some 22) rfl rfl (by rfl) rfl ?_
          simp only [Act.put, List.setIfInBounds_toArray, List.set_cons_zero, List.set_cons_succ, List.getElem_toArray, List.getElem_cons_zero, List.getElem_cons_succ]
          refine wq_take (d := some 23) rfl (by rfl) (v := (.bool true)) ?_ ?_
          · (intro w hCw; go_simp <;> omega)
          simp only [Act.put, List.setIfInBounds_toArray, List.set_cons_zero, List.set_cons_succ]
          refine wq_move (d := some 24) rfl rfl (by rfl) rfl ?_
          simp only [Act.put, List.setIfInBounds_toArray, List.set_cons_zero, List.set_cons_succ, List.getElem_toArray, List.getElem_cons_zero, List.getElem_cons_succ]
          refine wq_move (d := some 25) rfl rfl (by rfl) rfl ?_
          simp only [Act.put, List.setIfInBounds_toArray, List.set_cons_zero, List.set_cons_succ, List.getElem_toArray, List.getElem_cons_zero]
          refine wq_move (d := some 26) rfl rfl (by rfl) rfl ?_
          simp only [Act.put, List.setIfInBounds_toArray, List.set_cons_zero, List.set_cons_succ, List.getElem_toArray, List.getElem_cons_zero, List.getElem_cons_succ]
          refine wq_take (d := some 27) rfl (by rfl) (v := ?_) ?_ ?_
          rotate_left
          · (intro w hCw; have hKw := (unhide HK) w hCw; go_simp <;> with_reducible rfl)
          simp only [Act.put, List.setIfInBounds_toArray, List.set_cons_zero, List.set_cons_succ]
          refine wq_take (d := some 28) rfl (by rfl) (v := ?_) ?_ ?_
          rotate_left
          · (intro w hCw; have hKw := (unhide HK) w hCw; go_simp <;> with_reducible rfl)
          simp only [Act.put, List.setIfInBounds_toArray, List.set_cons_zero, List.set_cons_succ]
          refine wq_take (d := some 29) rfl (by rfl) (v := ?_) ?_ ?_
          rotate_left
          · (intro w hCw; have hKw := (unhide HK) w hCw; go_simp <;> with_reducible rfl)
          simp only [Act.put, List.setIfInBounds_toArray, List.set_cons_zero, List.set_cons_succ]
          refine wq_take (d := some 30) rfl (by rfl) (v := ?_) ?_ ?_
          rotate_left
          · (intro w hCw; have hKw := (unhide HK) w hCw; go_simp <;> with_reducible rfl)
          simp only [Act.put, List.setIfInBounds_toArray, List.set_cons_zero, List.set_cons_succ]
          refine wq_take (d := some 31) rfl (by rfl) (v := ?_) ?_ ?_
          rotate_left
          · (intro w hCw; have hKw := (unhide HK) w hCw; go_simp <;> with_reducible rfl)
          simp only [Act.put, List.setIfInBounds_toArray, List.set_cons_zero, List.set_cons_succ]
          refine wq_take (d := some 32) rfl (by rfl) (v := ?_) ?_ ?_
          rotate_left
          · (intro w hCw; have hKw := (unhide HK) w hCw; go_simp <;> with_reducible rfl)
          simp only [Act.put, List.setIfInBounds_toArray, List.set_cons_zero, List.set_cons_succ]
          refine wq_take (d := some 33) rfl (by rfl) (v := ?_) ?_ ?_
          rotate_left
          · (intro w hCw; have hKw := (unhide HK) w hCw; go_simp <;> with_reducible rfl)
          simp only [Act.put, List.setIfInBounds_toArray, List.set_cons_zero, List.set_cons_succ]
          refine wq_take (d := some 34) rfl (by rfl) (v := ?_) ?_ ?_
          rotate_left
          · (intro w hCw; have hKw := (unhide HK) w hCw; go_simp <;> with_reducible rfl)
          simp only [Act.put, List.setIfInBounds_toArray, List.set_cons_zero, List.set_cons_succ]
          refine wq_nil ?_
          intro w9 hw9
          go_wp2_with fail
          go_meet
          exact ⟨by rw [unhide HBQ], hw9⟩
      case rest =>
        obtain ⟨rfl, hbc⟩ := hcut
        obtain ⟨W2, rfl⟩ : ∃ W2, W2 = wc := ⟨wc, rfl⟩
        have HX2 := hide ((hbc.block _ (heapLt (unhide HX))).trans (unhide HX))
        have HW2 := hide ((unhide HW1).trans (hbc.mono (unhide HW1).size))
        clear hbc HX HW1
        clear W1
        have hal : (Ix.told (Ix.linesTo l k)).length ≤ 3000 := Ix.told_bd (Ix.linesTo_short l k) (by omega)
        go_upto_if 34 with fail
        go_cut [3] from 35 to 53 (fun o wx => o = .string ⟨(Ix.told (Ix.linesTo l k ++ Ix.besideL l k)).toArray⟩ ∧ Below W2.heap.size W2 wx)
        case first =>
          cases bs
          · have hnil : Ix.besideL l k = [] := by
              have h2 := of_decide_eq_false (unhide HBS).symm
              unfold Ix.besideL
              rw [unhide HPK]
              exact if_neg h2
            go_wp2_with fail
            go_meet
            exact ⟨by rw [hnil, List.append_nil], Below.refl _ _⟩
          · have h2 := of_decide_eq_true (unhide HBS).symm
            obtain ⟨m, rfl⟩ : ∃ m, k = m + 1 := ⟨k - 1, by omega⟩
            rw [Nat.add_sub_cancel] at h2
            obtain ⟨fv2, dv2, hAt2, _, _⟩ := unhide HC m (by omega)
            have hv2 := Ix.pOk_ver (Ix.pkgs_pOk (unhide HOK) (i := m) (by omega))
            have HY : Hid (∀ w', Below W2.heap.size W2 w' → w'.cell? ⟨b, off + m * 4 + 1, none⟩ = some (.int .i64 (Ix.pg l m).2.1)) := fun w' hw' => (hAt2.keep (((unhide HW2).trans (hw'.mono (unhide HW2).size)).block b hb)).2.1
            have hone : Ix.besideL l (m + 1) = [Pk.nameT nm vr ++ Ix.besideT ++ Pk.nameT nm (Ix.pg l m).2.1] := by
              unfold Ix.besideL
              rw [Nat.add_sub_cancel, unhide HPK]
              refine (if_pos ⟨by omega, h2.2⟩).trans ?_
              show [Pk.nameT nm vr ++ Ix.besideT ++ Pk.nameT (Ix.pg l m).1 (Ix.pg l m).2.1] = _
              rw [h2.2]
            have HONE := hide hone
            have e1' : IntKind.i64.wrap (((m + 1 : Nat) : Int) - 1) = (m : Int) := by simp [IntKind.wrap, IntKind.bits, IntKind.signed]; omega
            have e1 : IntKind.i64.wrap (m : Int) = (m : Int) := by simp [IntKind.wrap, IntKind.bits, IntKind.signed]; omega
            have hj0 : (0 : Int) ≤ (m : Int) := Int.natCast_nonneg _
            have hj1 : (m : Int) < (l.length : Int) := by omega
            clear hone hAt2 h2
            generalize (Ix.pg l m).2.1 = y at *
            have HFIN : Hid (∀ x, x = Ix.told (Ix.linesTo l (m + 1)) → Ix.told (Ix.linesTo l (m + 1) ++ Ix.besideL l (m + 1)) = x ++ Pk.nameT nm vr ++ Ix.besideT ++ Pk.nameT nm y ++ [10]) := fun x hx => by
              rw [hx, Ix.told_app, unhide HONE, Ix.told_one]
              simp only [List.append_assoc]
            obtain ⟨acc, hacc⟩ : ∃ acc, acc = Ix.told (Ix.linesTo l (m + 1)) := ⟨_, rfl⟩
            have HQ0 := hide (unhide HFIN acc hacc)
            rw [← hacc] at hal ⊢
            clear hacc HFIN
            obtain ⟨ac1, hc1⟩ : ∃ z9 : List UInt8, z9 = acc ++ Pk.nameT nm vr := ⟨_, rfl⟩
            have hal1 : ac1.length ≤ 3002 := by rw [hc1]; exact Ix.le_app (m := 2) hal (show (Pk.nameT nm vr : List UInt8).length ≤ 2 from of_decide_eq_true rfl)
            have HC1 := hide hc1
            clear hc1
            obtain ⟨ac2, hc2⟩ : ∃ z9 : List UInt8, z9 = ac1 ++ Ix.besideT := ⟨_, rfl⟩
            have hal2 : ac2.length ≤ 3010 := by rw [hc2]; exact Ix.le_app (m := 8) hal1 (show (Ix.besideT : List UInt8).length ≤ 8 from of_decide_eq_true rfl)
            have HC2 := hide hc2
            clear hc2
            obtain ⟨ac3, hc3⟩ : ∃ z9 : List UInt8, z9 = ac2 ++ Pk.nameT nm y := ⟨_, rfl⟩
            have hal3 : ac3.length ≤ 3012 := by rw [hc3]; exact Ix.le_app (m := 2) hal2 (show (Pk.nameT nm y : List UInt8).length ≤ 2 from of_decide_eq_true rfl)
            have HC3 := hide hc3
            clear hc3
            obtain ⟨ac4, hc4⟩ : ∃ z9 : List UInt8, z9 = ac3 ++ [10] := ⟨_, rfl⟩
            have hal4 : ac4.length ≤ 3013 := by rw [hc4]; exact Ix.le_app (m := 1) hal3 (show ([10] : List UInt8).length ≤ 1 from of_decide_eq_true rfl)
            have HC4 := hide hc4
            clear hc4
            have HQ := hide ((unhide HQ0).trans (show _ = ac4 by rw [unhide HC4, unhide HC3, unhide HC2, unhide HC1]))
            clear HQ0
            go_wp2_with fail
            have sOf : ∀ w' : World, Below W2.heap.size W2 w' → (w'.cell? ⟨P, 0, none⟩ = some (.int .i64 nm) ∧ w'.cell? ⟨P, 1, none⟩ = some (.int .i64 vr) ∧ w'.cell? ⟨P, 2, none⟩ = some (.slice fa fs.length fc) ∧ w'.cell? ⟨P, 3, none⟩ = some (.slice da ds.length dc)) ∧ w'.cell? ⟨b, off + m * 4 + 1, none⟩ = some (.int .i64 y) := fun w' hb => by
              have hx := (hb.block _ (heapLt (unhide HX2))).trans (unhide HX2)
              exact ⟨⟨cellOf hx 0, cellOf hx 1, cellOf hx 2, cellOf hx 3⟩, unhide HY w' hb⟩
            have SOF := hide sOf
            clear sOf
            refine wp_region_held_drew (S := fun w' => (w'.cell? ⟨P, 0, none⟩ = some (.int .i64 nm) ∧ w'.cell? ⟨P, 1, none⟩ = some (.int .i64 vr) ∧ w'.cell? ⟨P, 2, none⟩ = some (.slice fa fs.length fc) ∧ w'.cell? ⟨P, 3, none⟩ = some (.slice da ds.length dc)) ∧ w'.cell? ⟨b, off + m * 4 + 1, none⟩ = some (.int .i64 y)) (by kernel_rfl) (unhide SOF _ (below_drew W2)) (fun hHeld => ?_)
            refine anyH_at (i := 0) (d := some 35) rfl rfl (by kernel_rfl) (by kernel_rfl) (by kernel_rfl) (fun _ _ _ h => h) (by rfl) (v := ?_) ?_ (by assumption) ?_
            rotate_left
            · (intro w hSw; (try dsimp only at hSw); go_simp <;> with_reducible rfl)
            simp only [Act.put, List.setIfInBounds_toArray, List.set_cons_zero, List.set_cons_succ]
            refine anyH_at (i := 1) (d := some 36) rfl rfl (by kernel_rfl) (by kernel_rfl) (by kernel_rfl) (fun _ _ _ h => h) (by rfl) (v := ?_) ?_ (by assumption) ?_
            rotate_left
            · (intro w hSw; (try dsimp only at hSw); go_simp <;> with_reducible rfl)
            simp only [Act.put, List.setIfInBounds_toArray, List.set_cons_zero, List.set_cons_succ]
            refine anyH_at (i := 2) (d := some 37) rfl rfl (by kernel_rfl) (by kernel_rfl) (by kernel_rfl) (fun _ _ _ h => h) (by rfl) (v := ?_) ?_ (by assumption) ?_
            rotate_left
            · (intro w hSw; (try dsimp only at hSw); go_simp <;> with_reducible rfl)
            simp only [Act.put, List.setIfInBounds_toArray, List.set_cons_zero, List.set_cons_succ]
            refine anyH_at (i := 3) (d := some 38) rfl rfl (by kernel_rfl) (by kernel_rfl) (by kernel_rfl) (fun _ _ _ h => h) (by rfl) (v := ?_) ?_ (by assumption) ?_
            rotate_left
            · (intro w hSw; (try dsimp only at hSw); go_simp <;> with_reducible rfl)
            simp only [Act.put, List.setIfInBounds_toArray, List.set_cons_zero, List.set_cons_succ]
            refine anyH_at (i := 4) (d := some 39) rfl rfl (by kernel_rfl) (by kernel_rfl) (by kernel_rfl) (fun _ _ _ h => h) (by rfl) (v := ?_) ?_ (by assumption) ?_
            rotate_left
            · (intro w hSw; (try dsimp only at hSw); go_simp <;> with_reducible rfl)
            simp only [Act.put, List.setIfInBounds_toArray, List.set_cons_zero, List.set_cons_succ]
            refine anyH_at (i := 8) (d := some 43) rfl rfl (by kernel_rfl) (by kernel_rfl) (by kernel_rfl) (fun _ _ _ h => h) (by rfl) (v := ?_) ?_ (by assumption) ?_
            rotate_left
            · (intro w hSw; (try dsimp only at hSw); go_simp <;> with_reducible rfl)
            simp only [Act.put, List.setIfInBounds_toArray, List.set_cons_zero, List.set_cons_succ]
            refine anyH_at (i := 9) (d := some 44) rfl rfl (by kernel_rfl) (by kernel_rfl) (by kernel_rfl) (fun _ _ _ h => h) (by rfl) (v := ?_) ?_ (by assumption) ?_
            rotate_left
            · (intro w hSw; (try dsimp only at hSw); go_simp <;> with_reducible rfl)
            simp only [Act.put, List.setIfInBounds_toArray, List.set_cons_zero, List.set_cons_succ]
            refine anyH_at (i := 10) (d := some 45) rfl rfl (by kernel_rfl) (by kernel_rfl) (by kernel_rfl) (fun _ _ _ h => h) (by rfl) (v := ?_) ?_ (by assumption) ?_
            rotate_left
            · (intro w hSw; (try dsimp only at hSw); go_simp <;> with_reducible rfl)
            simp only [Act.put, List.setIfInBounds_toArray, List.set_cons_zero, List.set_cons_succ]
            refine anyH_at (i := 11) (d := some 46) rfl rfl (by kernel_rfl) (by kernel_rfl) (by kernel_rfl) (fun _ _ _ h => h) (by rfl) (v := ?_) ?_ (by assumption) ?_
            rotate_left
            · (intro w hSw; (try dsimp only at hSw); go_simp <;> with_reducible rfl)
            simp only [Act.put, List.setIfInBounds_toArray, List.set_cons_zero, List.set_cons_succ]
            refine anyH_at (i := 12) (d := some 47) rfl rfl (by kernel_rfl) (by kernel_rfl) (by kernel_rfl) (fun _ _ _ h => h) (by rfl) (v := ?_) ?_ (by assumption) ?_
            rotate_left
            · (intro w hSw; (try dsimp only at hSw); go_simp <;> with_reducible rfl)
            simp only [Act.put, List.setIfInBounds_toArray, List.set_cons_zero, List.set_cons_succ]
            refine anyH_at (i := 13) (d := some 48) rfl rfl (by kernel_rfl) (by kernel_rfl) (by kernel_rfl) (fun _ _ _ h => h) (by rfl) (v := ?_) ?_ (by assumption) ?_
            rotate_left
            · (intro w hSw; (try dsimp only at hSw); go_simp <;> with_reducible rfl)
            simp only [Act.put, List.setIfInBounds_toArray, List.set_cons_zero, List.set_cons_succ]
            refine anyH_at (i := 14) (d := some 49) rfl rfl (by kernel_rfl) (by kernel_rfl) (by kernel_rfl) (fun _ _ _ h => h) (by rfl) (v := ?_) ?_ (by assumption) ?_
            rotate_left
            · (intro w hSw; (try dsimp only at hSw); go_simp <;> with_reducible rfl)
            simp only [Act.put, List.setIfInBounds_toArray, List.set_cons_zero, List.set_cons_succ]
            refine anyH_at (i := 15) (d := some 50) rfl rfl (by kernel_rfl) (by kernel_rfl) (by kernel_rfl) (fun _ _ _ h => h) (by rfl) (v := ?_) ?_ (by assumption) ?_
            rotate_left
            · (intro w hSw; (try dsimp only at hSw); go_simp <;> with_reducible rfl)
            simp only [Act.put, List.setIfInBounds_toArray, List.set_cons_zero, List.set_cons_succ]
            refine wpAnyH_ready (rs := [5]) (by kernel_rfl) (by simp) ?_
            refine AllReadyH.cons rfl (fun K hK => ?_) AllReadyH.nil
            go_simp
            refine (name_any nm vr _ hn0.1 hn0.2 (by omega) (by omega)).mono ?_
            rintro e w3 ⟨rfl, bx⟩
            have HBw3 : Hid (Below W2.heap.size W2 w3) := (below_drew W2).trans bx
            clear bx
            go_wp2_with fail
            refine hK.out _ _ ?_ (fun hHeldN => ?_)
            · exact unhide SOF _ (unhide HBw3)
            clear hHeld
            have hHeld := hHeldN
            clear hHeldN
            clear hK K
            try simp only [Act.put, List.setIfInBounds_toArray, List.set_cons_zero, List.set_cons_succ]
            refine anyH_at (i := 6) (d := some 41) rfl rfl (by kernel_rfl) (by kernel_rfl) (by kernel_rfl) (fun _ _ _ h => h) (by rfl) (v := .string ⟨ac1.toArray⟩) (fun _ _ => by rw [unhide HC1]; exact run_add _ _ _ rfl acc (Pk.nameT nm vr) rfl rfl (Nat.le_trans (Nat.add_le_add hal (show (Pk.nameT nm vr : List UInt8).length ≤ 2 from of_decide_eq_true rfl)) (of_decide_eq_true rfl))) (by assumption) ?_
            simp only [Act.put, List.setIfInBounds_toArray, List.set_cons_zero, List.set_cons_succ]
            refine anyH_at (i := 7) (d := some 42) rfl rfl (by kernel_rfl) (by kernel_rfl) (by kernel_rfl) (fun _ _ _ h => h) (by rfl) (v := .string ⟨ac2.toArray⟩) (fun _ _ => by rw [unhide HC2]; exact run_add _ _ _ rfl ac1 (Ix.besideT) rfl rfl (Nat.le_trans (Nat.add_le_add hal1 (show (Ix.besideT : List UInt8).length ≤ 8 from of_decide_eq_true rfl)) (of_decide_eq_true rfl))) (by assumption) ?_
            simp only [Act.put, List.setIfInBounds_toArray, List.set_cons_zero, List.set_cons_succ]
            refine wpAnyH_ready (rs := [16]) (by kernel_rfl) (by simp) ?_
            refine AllReadyH.cons rfl (fun K hK => ?_) AllReadyH.nil
            go_simp
            refine (name_any nm y _ hn0.1 hn0.2 (by omega) (by omega)).mono ?_
            rintro e w4 ⟨rfl, bx⟩
            have HBw4 : Hid (Below W2.heap.size W2 w4) := (unhide HBw3).trans (bx.mono (unhide HBw3).size)
            clear bx
            go_wp2_with fail
            refine hK.out _ _ ?_ (fun hHeldN => ?_)
            · exact unhide SOF _ (unhide HBw4)
            clear hHeld
            have hHeld := hHeldN
            clear hHeldN
            clear hK K
            try simp only [Act.put, List.setIfInBounds_toArray, List.set_cons_zero, List.set_cons_succ]
            refine anyH_at (i := 17) (d := some 52) rfl rfl (by kernel_rfl) (by kernel_rfl) (by kernel_rfl) (fun _ _ _ h => h) (by rfl) (v := .string ⟨ac3.toArray⟩) (fun _ _ => by rw [unhide HC3]; exact run_add _ _ _ rfl ac2 (Pk.nameT nm y) rfl rfl (Nat.le_trans (Nat.add_le_add hal2 (show (Pk.nameT nm y : List UInt8).length ≤ 2 from of_decide_eq_true rfl)) (of_decide_eq_true rfl))) (by assumption) ?_
            simp only [Act.put, List.setIfInBounds_toArray, List.set_cons_zero, List.set_cons_succ]
            refine anyH_at (i := 18) (d := some 53) rfl rfl (by kernel_rfl) (by kernel_rfl) (by kernel_rfl) (fun _ _ _ h => h) (by rfl) (v := .string ⟨ac4.toArray⟩) (fun _ _ => by rw [unhide HC4]; exact run_add _ _ _ rfl ac3 ([10]) rfl rfl (Nat.le_trans (Nat.add_le_add hal3 (show ([10] : List UInt8).length ≤ 1 from of_decide_eq_true rfl)) (of_decide_eq_true rfl))) (by assumption) ?_
            simp only [Act.put, List.setIfInBounds_toArray, List.set_cons_zero, List.set_cons_succ]
            refine anyH_at (i := 19) (d := some 3) rfl rfl (by kernel_rfl) (by kernel_rfl) (by kernel_rfl) (fun _ _ _ h => h) (by rfl) (v := ?_) ?_ (by assumption) ?_
            rotate_left
            · (intro w hSw; (try dsimp only at hSw); go_simp <;> with_reducible rfl)
            simp only [Act.put, List.setIfInBounds_toArray, List.set_cons_zero, List.set_cons_succ]
            refine wpAnyH_done (by kernel_rfl) ?_ _
            go_wp2_with fail
            go_meet
            exact ⟨by rw [unhide HQ], unhide HBw4⟩
        case rest =>
          obtain ⟨rfl, hbc⟩ := hcut
          obtain ⟨W3, rfl⟩ : ∃ W3, W3 = wc := ⟨wc, rfl⟩
          have HX3 := hide ((hbc.block _ (heapLt (unhide HX2))).trans (unhide HX2))
          have HW3 := hide ((unhide HW2).trans (hbc.mono (unhide HW2).size))
          have hlb : (Ix.linesTo l k ++ Ix.besideL l k).length ≤ 101 := by have := Ix.besideL_len l k; rw [List.length_append]; omega
          have HLL := hide (Ix.linesTo_len (unhide HOK) k hk)
          obtain ⟨A, hA⟩ : ∃ A, A = Ix.linesTo l k ++ Ix.besideL l k := ⟨_, rfl⟩
          rw [← hA] at hlb HSB ⊢
          have HAE := hide hA
          clear hbc HX2 HW2 hA hal HBS
          clear W2
          go_wp2_with fail
          go_loopw [3, 6] (fun o jv w' => ∃ m : Nat, m ≤ ds.length ∧ jv = .int .i64 m ∧ o = .string ⟨(Ix.told (A ++ (ds.take m).flatMap (Ix.lackL l (nm, vr, fs, ds)))).toArray⟩ ∧ Below w.heap.size w w' ∧ w'.heap[P]? = some (.cells #[.int .i64 nm, .int .i64 vr, .slice fa fs.length fc, .slice da ds.length dc] 37 (0, 0))) (fun _ jv _ => ds.length - (intOf jv).toNat)
          case atStart => exact ⟨0, Nat.zero_le _, rfl, by rw [List.take_zero, List.flatMap_nil, List.append_nil], unhide HW3, unhide HX3⟩
          case round =>
            clear HW3 HX3
            obtain ⟨m, hm, rfl, rfl, hw, hX⟩ := hrel
            have HW := hide hw
            have HX := hide hX
            clear hw
            obtain ⟨p0, p1, p2, p3⟩ : _ ∧ _ ∧ _ ∧ _ := ⟨cellOf hX 0, cellOf hX 1, cellOf hX 2, cellOf hX 3⟩
            clear hX
            by_cases hlt2 : m < ds.length
            · obtain ⟨db, dof, hda, hdb, _, hdc⟩ := unhide HDR (by omega)
              subst hda
              obtain ⟨d0, d1⟩ := hdc m hlt2
              have HY0 : Hid (∀ w', Below wr.heap.size wr w' → w'.cell? ⟨db, dof + m * 2, none⟩ = some (.int .i64 (Pk.fst ds m)) ∧ w'.cell? ⟨db, dof + m * 2 + 1, none⟩ = some (.int .i64 (Pk.snd ds m))) := fun w' hw' => by
                have hB := (unhide HW).trans (hw'.mono (unhide HW).size)
                rw [hB.cell hdb, hB.cell hdb]
                exact ⟨d0, d1⟩
              rw [← (unhide HW).cell hdb] at d0 d1
              have hj0 : (0 : Int) ≤ (m : Int) := Int.natCast_nonneg _
              have hj1 : (m : Int) < (ds.length : Int) := by omega
              have er2 : IntKind.i64.wrap ((m : Int) + 1) = (m : Int) + 1 := by simp [IntKind.wrap, IntKind.bits, IntKind.signed]; omega
              have hbd := unhide HDO m hlt2
              have hstep := Ix.take_cons_flat (Ix.lackL l (nm, vr, fs, ds)) ds m _ (Ix.pair_mem hlt2).2
              have hmet := Ix.met_newest (l := l) (d := (Pk.fst ds m, Pk.snd ds m)) (unhide HOK)
              have HMT := hide hmet
              have HST := hide hstep
              have hsh : Ix.Short (A ++ (ds.take m).flatMap (Ix.lackL l (nm, vr, fs, ds))) := (unhide HSB).app (Ix.Short.flat (Ix.lackL_short l (nm, vr, fs, ds)) _)
              have hln : (A ++ (ds.take m).flatMap (Ix.lackL l (nm, vr, fs, ds))).length ≤ 200 := by
                have := Ix.flat_le (Ix.lackL l (nm, vr, fs, ds)) (Ix.lackL_len l (nm, vr, fs, ds)) (ds.take m)
                rw [List.length_take] at this
                rw [List.length_append]
                omega
              have hal := Ix.told_bd hsh hln
              clear hdc hstep hmet hsh hln
              have CM := hide (l13Meets_any _ (.slice (some ⟨b, off, none⟩) l.length cap) l (Pk.fst ds m) (Pk.snd ds m) ((unhide HP).later (unhide HW)))
              generalize Pk.fst ds m = x at *
              generalize Pk.snd ds m = y at *
              generalize (ds.take m).flatMap (Ix.lackL l (nm, vr, fs, ds)) = D at *
              go_wp2_with fail
              refine (unhide CM).mono ?_
              rintro e w4 ⟨rfl, b4⟩
              have HX4 := hide ((b4.block _ (heapLt (unhide HX))).trans (unhide HX))
              have HW4 := hide ((unhide HW).trans (b4.mono (unhide HW).size))
              have HY : Hid (∀ w', Below w4.heap.size w4 w' → w'.cell? ⟨db, dof + m * 2, none⟩ = some (.int .i64 x) ∧ w'.cell? ⟨db, dof + m * 2 + 1, none⟩ = some (.int .i64 y)) := fun w' hw' => unhide HY0 w' (b4.trans (hw'.mono b4.size))
              clear b4 HX HW p0 p1 p2 p3 d0 d1 CM HY0
              cases hq : Ix.newMeets l (x, y)
              · have hone : Ix.lackL l (nm, vr, fs, ds) (x, y) = [Pk.nameT nm vr ++ Ix.lacksT ++ Pk.nameT x y] := by
                  have h2 := unhide HMT
                  rw [hq] at h2
                  unfold Ix.lackL
                  cases h3 : Ix.met l (x, y) with
                  | none => rfl
                  | some q => rw [h3] at h2; cases h2
                have hfin : Ix.told (A ++ (ds.take (m + 1)).flatMap (Ix.lackL l (nm, vr, fs, ds))) = Ix.told (A ++ D) ++ Pk.nameT nm vr ++ Ix.lacksT ++ Pk.nameT x y ++ [10] := by
                  rw [unhide HST, hone, ← List.append_assoc, Ix.told_app, Ix.told_one]
                  simp only [List.append_assoc]
                have HFIN := hide hfin
                clear hfin hone
                generalize Ix.told (A ++ D) = acc at *
                obtain ⟨ac1, hc1⟩ : ∃ z9 : List UInt8, z9 = acc ++ Pk.nameT nm vr := ⟨_, rfl⟩
                have hal1 : ac1.length ≤ 3002 := by rw [hc1]; exact Ix.le_app (m := 2) hal (show (Pk.nameT nm vr : List UInt8).length ≤ 2 from of_decide_eq_true rfl)
                have HC1 := hide hc1
                clear hc1
                obtain ⟨ac2, hc2⟩ : ∃ z9 : List UInt8, z9 = ac1 ++ Ix.lacksT := ⟨_, rfl⟩
                have hal2 : ac2.length ≤ 3009 := by rw [hc2]; exact Ix.le_app (m := 7) hal1 (show (Ix.lacksT : List UInt8).length ≤ 7 from of_decide_eq_true rfl)
                have HC2 := hide hc2
                clear hc2
                obtain ⟨ac3, hc3⟩ : ∃ z9 : List UInt8, z9 = ac2 ++ Pk.nameT x y := ⟨_, rfl⟩
                have hal3 : ac3.length ≤ 3011 := by rw [hc3]; exact Ix.le_app (m := 2) hal2 (show (Pk.nameT x y : List UInt8).length ≤ 2 from of_decide_eq_true rfl)
                have HC3 := hide hc3
                clear hc3
                obtain ⟨ac4, hc4⟩ : ∃ z9 : List UInt8, z9 = ac3 ++ [10] := ⟨_, rfl⟩
                have hal4 : ac4.length ≤ 3012 := by rw [hc4]; exact Ix.le_app (m := 1) hal3 (show ([10] : List UInt8).length ≤ 1 from of_decide_eq_true rfl)
                have HC4 := hide hc4
                clear hc4
                have HQ := hide ((unhide HFIN).trans (show _ = ac4 by rw [unhide HC4, unhide HC3, unhide HC2, unhide HC1]))
                go_wp2_with fail
                have sOf : ∀ w' : World, Below w4.heap.size w4 w' → (w'.cell? ⟨P, 0, none⟩ = some (.int .i64 nm) ∧ w'.cell? ⟨P, 1, none⟩ = some (.int .i64 vr) ∧ w'.cell? ⟨P, 2, none⟩ = some (.slice fa fs.length fc) ∧ w'.cell? ⟨P, 3, none⟩ = some (.slice (some ⟨db, dof, none⟩) ds.length dc)) ∧ (w'.cell? ⟨db, dof + m * 2, none⟩ = some (.int .i64 x) ∧ w'.cell? ⟨db, dof + m * 2 + 1, none⟩ = some (.int .i64 y)) := fun w' hb => by
                  have hx := (hb.block _ (heapLt (unhide HX4))).trans (unhide HX4)
                  exact ⟨⟨cellOf hx 0, cellOf hx 1, cellOf hx 2, cellOf hx 3⟩, unhide HY w' hb⟩
                have SOF := hide sOf
                clear sOf
                refine wp_region_held_drew (S := fun w' => (w'.cell? ⟨P, 0, none⟩ = some (.int .i64 nm) ∧ w'.cell? ⟨P, 1, none⟩ = some (.int .i64 vr) ∧ w'.cell? ⟨P, 2, none⟩ = some (.slice fa fs.length fc) ∧ w'.cell? ⟨P, 3, none⟩ = some (.slice (some ⟨db, dof, none⟩) ds.length dc)) ∧ (w'.cell? ⟨db, dof + m * 2, none⟩ = some (.int .i64 x) ∧ w'.cell? ⟨db, dof + m * 2 + 1, none⟩ = some (.int .i64 y))) (by kernel_rfl) (unhide SOF _ (below_drew w4)) (fun hHeld => ?_)
                refine anyH_at (i := 0) (d := some 69) rfl rfl (by kernel_rfl) (by kernel_rfl) (by kernel_rfl) (fun _ _ _ h => h) (by rfl) (v := ?_) ?_ (by assumption) ?_
                rotate_left
                · (intro w hSw; (try dsimp only at hSw); go_simp <;> with_reducible rfl)
                simp only [Act.put, List.setIfInBounds_toArray, List.set_cons_zero, List.set_cons_succ]
                refine anyH_at (i := 1) (d := some 70) rfl rfl (by kernel_rfl) (by kernel_rfl) (by kernel_rfl) (fun _ _ _ h => h) (by rfl) (v := ?_) ?_ (by assumption) ?_
                rotate_left
                · (intro w hSw; (try dsimp only at hSw); go_simp <;> with_reducible rfl)
                simp only [Act.put, List.setIfInBounds_toArray, List.set_cons_zero, List.set_cons_succ]
                refine anyH_at (i := 2) (d := some 71) rfl rfl (by kernel_rfl) (by kernel_rfl) (by kernel_rfl) (fun _ _ _ h => h) (by rfl) (v := ?_) ?_ (by assumption) ?_
                rotate_left
                · (intro w hSw; (try dsimp only at hSw); go_simp <;> with_reducible rfl)
                simp only [Act.put, List.setIfInBounds_toArray, List.set_cons_zero, List.set_cons_succ]
                refine anyH_at (i := 3) (d := some 72) rfl rfl (by kernel_rfl) (by kernel_rfl) (by kernel_rfl) (fun _ _ _ h => h) (by rfl) (v := ?_) ?_ (by assumption) ?_
                rotate_left
                · (intro w hSw; (try dsimp only at hSw); go_simp <;> with_reducible rfl)
                simp only [Act.put, List.setIfInBounds_toArray, List.set_cons_zero, List.set_cons_succ]
                refine anyH_at (i := 4) (d := some 73) rfl rfl (by kernel_rfl) (by kernel_rfl) (by kernel_rfl) (fun _ _ _ h => h) (by rfl) (v := ?_) ?_ (by assumption) ?_
                rotate_left
                · (intro w hSw; (try dsimp only at hSw); go_simp <;> with_reducible rfl)
                simp only [Act.put, List.setIfInBounds_toArray, List.set_cons_zero, List.set_cons_succ]
                refine anyH_at (i := 8) (d := some 77) rfl rfl (by kernel_rfl) (by kernel_rfl) (by kernel_rfl) (fun _ _ _ h => h) (by rfl) (v := ?_) ?_ (by assumption) ?_
                rotate_left
                · (intro w hSw; (try dsimp only at hSw); go_simp <;> with_reducible rfl)
                simp only [Act.put, List.setIfInBounds_toArray, List.set_cons_zero, List.set_cons_succ]
                refine anyH_at (i := 9) (d := some 78) rfl rfl (by kernel_rfl) (by kernel_rfl) (by kernel_rfl) (fun _ _ _ h => h) (by rfl) (v := ?_) ?_ (by assumption) ?_
                rotate_left
                · (intro w hSw; (try dsimp only at hSw); go_simp <;> with_reducible rfl)
                simp only [Act.put, List.setIfInBounds_toArray, List.set_cons_zero, List.set_cons_succ]
                refine anyH_at (i := 10) (d := some 79) rfl rfl (by kernel_rfl) (by kernel_rfl) (by kernel_rfl) (fun _ _ _ h => h) (by rfl) (v := ?_) ?_ (by assumption) ?_
                rotate_left
                · (intro w hSw; (try dsimp only at hSw); go_simp <;> with_reducible rfl)
                simp only [Act.put, List.setIfInBounds_toArray, List.set_cons_zero, List.set_cons_succ]
                refine anyH_at (i := 11) (d := some 80) rfl rfl (by kernel_rfl) (by kernel_rfl) (by kernel_rfl) (fun _ _ _ h => h) (by rfl) (v := ?_) ?_ (by assumption) ?_
                rotate_left
                · (intro w hSw; (try dsimp only at hSw); go_simp <;> with_reducible rfl)
                simp only [Act.put, List.setIfInBounds_toArray, List.set_cons_zero, List.set_cons_succ]
                refine anyH_at (i := 12) (d := some 81) rfl rfl (by kernel_rfl) (by kernel_rfl) (by kernel_rfl) (fun _ _ _ h => h) (by rfl) (v := ?_) ?_ (by assumption) ?_
                rotate_left
                · (intro w hSw; (try dsimp only at hSw); go_simp <;> with_reducible rfl)
                simp only [Act.put, List.setIfInBounds_toArray, List.set_cons_zero, List.set_cons_succ]
                refine anyH_at (i := 13) (d := some 82) rfl rfl (by kernel_rfl) (by kernel_rfl) (by kernel_rfl) (fun _ _ _ h => h) (by rfl) (v := ?_) ?_ (by assumption) ?_
                rotate_left
                · (intro w hSw; (try dsimp only at hSw); go_simp <;> with_reducible rfl)
                simp only [Act.put, List.setIfInBounds_toArray, List.set_cons_zero, List.set_cons_succ]
                refine anyH_at (i := 14) (d := some 83) rfl rfl (by kernel_rfl) (by kernel_rfl) (by kernel_rfl) (fun _ _ _ h => h) (by rfl) (v := ?_) ?_ (by assumption) ?_
                rotate_left
                · (intro w hSw; (try dsimp only at hSw); go_simp <;> with_reducible rfl)
                simp only [Act.put, List.setIfInBounds_toArray, List.set_cons_zero, List.set_cons_succ]
                refine anyH_at (i := 15) (d := some 84) rfl rfl (by kernel_rfl) (by kernel_rfl) (by kernel_rfl) (fun _ _ _ h => h) (by rfl) (v := ?_) ?_ (by assumption) ?_
                rotate_left
                · (intro w hSw; (try dsimp only at hSw); go_simp <;> with_reducible rfl)
                simp only [Act.put, List.setIfInBounds_toArray, List.set_cons_zero, List.set_cons_succ]
                refine anyH_at (i := 16) (d := some 85) rfl rfl (by kernel_rfl) (by kernel_rfl) (by kernel_rfl) (fun _ _ _ h => h) (by rfl) (v := ?_) ?_ (by assumption) ?_
                rotate_left
                · (intro w hSw; (try dsimp only at hSw); go_simp <;> with_reducible rfl)
                simp only [Act.put, List.setIfInBounds_toArray, List.set_cons_zero, List.set_cons_succ]
                refine anyH_at (i := 17) (d := some 86) rfl rfl (by kernel_rfl) (by kernel_rfl) (by kernel_rfl) (fun _ _ _ h => h) (by rfl) (v := ?_) ?_ (by assumption) ?_
                rotate_left
                · (intro w hSw; (try dsimp only at hSw); go_simp <;> with_reducible rfl)
                simp only [Act.put, List.setIfInBounds_toArray, List.set_cons_zero, List.set_cons_succ]
                refine anyH_at (i := 18) (d := some 87) rfl rfl (by kernel_rfl) (by kernel_rfl) (by kernel_rfl) (fun _ _ _ h => h) (by rfl) (v := ?_) ?_ (by assumption) ?_
                rotate_left
                · (intro w hSw; (try dsimp only at hSw); go_simp <;> with_reducible rfl)
                simp only [Act.put, List.setIfInBounds_toArray, List.set_cons_zero, List.set_cons_succ]
                refine anyH_at (i := 19) (d := some 88) rfl rfl (by kernel_rfl) (by kernel_rfl) (by kernel_rfl) (fun _ _ _ h => h) (by rfl) (v := ?_) ?_ (by assumption) ?_
                rotate_left
                · (intro w hSw; (try dsimp only at hSw); go_simp <;> with_reducible rfl)
                simp only [Act.put, List.setIfInBounds_toArray, List.set_cons_zero, List.set_cons_succ]
                refine wpAnyH_ready (rs := [5]) (by kernel_rfl) (by simp) ?_
                refine AllReadyH.cons rfl (fun K hK => ?_) AllReadyH.nil
                go_simp
                refine (name_any nm vr _ hn0.1 hn0.2 (by omega) (by omega)).mono ?_
                rintro e w5 ⟨rfl, bx⟩
                have HBw5 : Hid (Below w4.heap.size w4 w5) := (below_drew w4).trans bx
                clear bx
                go_wp2_with fail
                refine hK.out _ _ ?_ (fun hHeldN => ?_)
                · exact unhide SOF _ (unhide HBw5)
                clear hHeld
                have hHeld := hHeldN
                clear hHeldN
                clear hK K
                try simp only [Act.put, List.setIfInBounds_toArray, List.set_cons_zero, List.set_cons_succ]
                refine anyH_at (i := 6) (d := some 75) rfl rfl (by kernel_rfl) (by kernel_rfl) (by kernel_rfl) (fun _ _ _ h => h) (by rfl) (v := .string ⟨ac1.toArray⟩) (fun _ _ => by rw [unhide HC1]; exact run_add _ _ _ rfl acc (Pk.nameT nm vr) rfl rfl (Nat.le_trans (Nat.add_le_add hal (show (Pk.nameT nm vr : List UInt8).length ≤ 2 from of_decide_eq_true rfl)) (of_decide_eq_true rfl))) (by assumption) ?_
                simp only [Act.put, List.setIfInBounds_toArray, List.set_cons_zero, List.set_cons_succ]
                refine anyH_at (i := 7) (d := some 76) rfl rfl (by kernel_rfl) (by kernel_rfl) (by kernel_rfl) (fun _ _ _ h => h) (by rfl) (v := .string ⟨ac2.toArray⟩) (fun _ _ => by rw [unhide HC2]; exact run_add _ _ _ rfl ac1 (Ix.lacksT) rfl rfl (Nat.le_trans (Nat.add_le_add hal1 (show (Ix.lacksT : List UInt8).length ≤ 7 from of_decide_eq_true rfl)) (of_decide_eq_true rfl))) (by assumption) ?_
                simp only [Act.put, List.setIfInBounds_toArray, List.set_cons_zero, List.set_cons_succ]
                refine wpAnyH_ready (rs := [20]) (by kernel_rfl) (by simp) ?_
                refine AllReadyH.cons rfl (fun K hK => ?_) AllReadyH.nil
                go_simp
                refine (name_any x y _ hbd.1.1 hbd.1.2 (by omega) (by omega)).mono ?_
                rintro e w6 ⟨rfl, bx⟩
                have HBw6 : Hid (Below w4.heap.size w4 w6) := (unhide HBw5).trans (bx.mono (unhide HBw5).size)
                clear bx
                go_wp2_with fail
                refine hK.out _ _ ?_ (fun hHeldN => ?_)
                · exact unhide SOF _ (unhide HBw6)
                clear hHeld
                have hHeld := hHeldN
                clear hHeldN
                clear hK K
                try simp only [Act.put, List.setIfInBounds_toArray, List.set_cons_zero, List.set_cons_succ]
                refine anyH_at (i := 21) (d := some 90) rfl rfl (by kernel_rfl) (by kernel_rfl) (by kernel_rfl) (fun _ _ _ h => h) (by rfl) (v := .string ⟨ac3.toArray⟩) (fun _ _ => by rw [unhide HC3]; exact run_add _ _ _ rfl ac2 (Pk.nameT x y) rfl rfl (Nat.le_trans (Nat.add_le_add hal2 (show (Pk.nameT x y : List UInt8).length ≤ 2 from of_decide_eq_true rfl)) (of_decide_eq_true rfl))) (by assumption) ?_
                simp only [Act.put, List.setIfInBounds_toArray, List.set_cons_zero, List.set_cons_succ]
                refine anyH_at (i := 22) (d := some 91) rfl rfl (by kernel_rfl) (by kernel_rfl) (by kernel_rfl) (fun _ _ _ h => h) (by rfl) (v := .string ⟨ac4.toArray⟩) (fun _ _ => by rw [unhide HC4]; exact run_add _ _ _ rfl ac3 ([10]) rfl rfl (Nat.le_trans (Nat.add_le_add hal3 (show ([10] : List UInt8).length ≤ 1 from of_decide_eq_true rfl)) (of_decide_eq_true rfl))) (by assumption) ?_
                simp only [Act.put, List.setIfInBounds_toArray, List.set_cons_zero, List.set_cons_succ]
                refine anyH_at (i := 23) (d := some 3) rfl rfl (by kernel_rfl) (by kernel_rfl) (by kernel_rfl) (fun _ _ _ h => h) (by rfl) (v := ?_) ?_ (by assumption) ?_
                rotate_left
                · (intro w hSw; (try dsimp only at hSw); go_simp <;> with_reducible rfl)
                simp only [Act.put, List.setIfInBounds_toArray, List.set_cons_zero, List.set_cons_succ]
                refine wpAnyH_done (by kernel_rfl) ?_ _
                go_wp2
                go_roundw
                case rel => exact ⟨m + 1, by omega, by go_num, by rw [unhide HQ], (unhide HW4).trans ((unhide HBw6).mono (unhide HW4).size), ((unhide HBw6).block _ (heapLt (unhide HX4))).trans (unhide HX4)⟩
                case measure => simp [intOf]; omega
              · have hnil : Ix.lackL l (nm, vr, fs, ds) (x, y) = [] := Ix.lackL_nil.2 ((unhide HMT).trans hq)
                have hfin : Ix.told (A ++ (ds.take (m + 1)).flatMap (Ix.lackL l (nm, vr, fs, ds))) = Ix.told (A ++ D) := by rw [unhide HST, hnil, List.append_nil]
                have HFIN := hide hfin
                clear hfin hnil
                generalize Ix.told (A ++ D) = acc at *
                go_wp2
                go_roundw
                case rel => exact ⟨m + 1, by omega, by go_num, by rw [unhide HFIN], unhide HW4, unhide HX4⟩
                case measure => simp [intOf]; omega
            · obtain rfl : m = ds.length := by omega
              rw [List.take_length]
              have hlb2 : (A ++ ds.flatMap (Ix.lackL l (nm, vr, fs, ds))).length ≤ 103 := by
                have := Ix.flat_le (Ix.lackL l (nm, vr, fs, ds)) (Ix.lackL_len l (nm, vr, fs, ds)) ds
                rw [List.length_append]
                omega
              have HSB2 := hide ((unhide HSB).app (Ix.Short.flat (Ix.lackL_short l (nm, vr, fs, ds)) ds))
              obtain ⟨A2, hA2⟩ : ∃ A2, A2 = A ++ ds.flatMap (Ix.lackL l (nm, vr, fs, ds)) := ⟨_, rfl⟩
              rw [← hA2] at hlb2 HSB2 ⊢
              have HAE2 := hide hA2
              clear hA2 hlt2
              go_wp2_with fail
              clear p0 p1 p2 p3
              go_loopw [3, 7] (fun o jv w' => ∃ m : Nat, m ≤ fs.length ∧ jv = .int .i64 m ∧ o = .string ⟨(Ix.told (A2 ++ (fs.take m).flatMap (Ix.placeL l k (nm, vr, fs, ds)))).toArray⟩ ∧ Below w.heap.size w w' ∧ w'.heap[P]? = some (.cells #[.int .i64 nm, .int .i64 vr, .slice fa fs.length fc, .slice da ds.length dc] 37 (0, 0))) (fun _ jv _ => fs.length - (intOf jv).toNat)
              case atStart => exact ⟨0, Nat.zero_le _, rfl, by rw [List.take_zero, List.flatMap_nil, List.append_nil], unhide HW, unhide HX⟩
              case round =>
                clear HW HX
                obtain ⟨m, hm, rfl, rfl, hw, hX⟩ := hrel
                have HW := hide hw
                have HX := hide hX
                clear hw
                obtain ⟨p0, p1, p2, p3⟩ : _ ∧ _ ∧ _ ∧ _ := ⟨cellOf hX 0, cellOf hX 1, cellOf hX 2, cellOf hX 3⟩
                clear hX
                by_cases hlt2 : m < fs.length
                · obtain ⟨fb, fof, hfa, hfb, _, hfc⟩ := unhide HFR (by omega)
                  subst hfa
                  obtain ⟨d0, d1⟩ := hfc m hlt2
                  have HY0 : Hid (∀ w', Below wr.heap.size wr w' → w'.cell? ⟨fb, fof + m * 2, none⟩ = some (.int .i64 (Pk.fst fs m))) := fun w' hw' => by
                    have hB := (unhide HW).trans (hw'.mono (unhide HW).size)
                    rw [hB.cell hfb]
                    exact d0
                  rw [← (unhide HW).cell hfb] at d0 d1
                  have hj0 : (0 : Int) ≤ (m : Int) := Int.natCast_nonneg _
                  have hj1 : (m : Int) < (fs.length : Int) := by omega
                  have er2 : IntKind.i64.wrap ((m : Int) + 1) = (m : Int) + 1 := by simp [IntKind.wrap, IntKind.bits, IntKind.signed]; omega
                  have hbd := unhide HFO m hlt2
                  have hstep := Ix.take_cons_flat (Ix.placeL l k (nm, vr, fs, ds)) fs m _ (Ix.pair_mem hlt2).2
                  have HST := hide hstep
                  have hsh : Ix.Short (A2 ++ (fs.take m).flatMap (Ix.placeL l k (nm, vr, fs, ds))) := (unhide HSB2).app (Ix.Short.flat (Ix.placeL_short l k (nm, vr, fs, ds)) _)
                  have hln : (A2 ++ (fs.take m).flatMap (Ix.placeL l k (nm, vr, fs, ds))).length ≤ 200 := by
                    have := Ix.flat_le (Ix.placeL l k (nm, vr, fs, ds)) (Ix.placeL_len l k (nm, vr, fs, ds)) (fs.take m)
                    rw [List.length_take] at this
                    rw [List.length_append]
                    omega
                  have hal := Ix.told_bd hsh hln
                  clear hfc hstep hsh hln
                  have CO := hide (l13Owner_any _ (.slice (some ⟨b, off, none⟩) l.length cap) l k (Pk.fst fs m) ((unhide HP).later (unhide HW)) hk)
                  generalize Pk.fst fs m = x at *
                  generalize Pk.snd fs m = y at *
                  generalize (fs.take m).flatMap (Ix.placeL l k (nm, vr, fs, ds)) = D at *
                  go_wp2_with fail
                  refine (unhide CO).mono ?_
                  rintro e w4 ⟨⟨n, hn, how, rfl⟩ | ⟨how, rfl⟩, b4⟩
                  · have HX4 := hide ((b4.block _ (heapLt (unhide HX))).trans (unhide HX))
                    have HW4 := hide ((unhide HW).trans (b4.mono (unhide HW).size))
                    obtain ⟨fv2, dv2, hAt2, _, _⟩ := unhide HC n (by omega)
                    have hqo := Ix.pkgs_pOk (unhide HOK) (i := n) (by omega)
                    have hqn := Ix.pOk_name hqo
                    have hqv := Ix.pOk_ver hqo
                    have HY : Hid (∀ w', Below w4.heap.size w4 w' → (w'.cell? ⟨b, off + n * 4, none⟩ = some (.int .i64 (Ix.pg l n).1) ∧ w'.cell? ⟨b, off + n * 4 + 1, none⟩ = some (.int .i64 (Ix.pg l n).2.1)) ∧ w'.cell? ⟨fb, fof + m * 2, none⟩ = some (.int .i64 x)) := fun w' hw' => by
                      have hB := (unhide HW4).trans (hw'.mono (unhide HW4).size)
                      have hat := hAt2.keep (hB.block b hb)
                      exact ⟨⟨hat.1, hat.2.1⟩, unhide HY0 w' (b4.trans (hw'.mono b4.size))⟩
                    have hone : Ix.placeL l k (nm, vr, fs, ds) (x, y) = [Pk.nameT nm vr ++ Ix.andT ++ Pk.nameT (Ix.pg l n).1 (Ix.pg l n).2.1 ++ Ix.atT ++ [Pk.b8 (48 + x)]] := by
                      unfold Ix.placeL
                      dsimp only
                      rw [how]
                      rfl
                    have hfin : Ix.told (A2 ++ (fs.take (m + 1)).flatMap (Ix.placeL l k (nm, vr, fs, ds))) = Ix.told (A2 ++ D) ++ Pk.nameT nm vr ++ Ix.andT ++ Pk.nameT (Ix.pg l n).1 (Ix.pg l n).2.1 ++ Ix.atT ++ [Pk.b8 (48 + x)] ++ [10] := by
                      rw [unhide HST, hone, ← List.append_assoc, Ix.told_app, Ix.told_one]
                      simp only [List.append_assoc]
                    have HFIN := hide hfin
                    have hge : (0 : Int) ≤ (n : Int) := Int.natCast_nonneg _
                    have hge2 : decide ((0 : Int) ≤ (n : Int)) = true := decide_eq_true hge
                    have hnl : (n : Int) < (l.length : Int) := by omega
                    clear b4 HX HW p0 p1 p2 p3 d0 d1 CO HY0 hfin hone how hAt2 hqo
                    generalize (Ix.pg l n).1 = qn at *
                    generalize (Ix.pg l n).2.1 = qv at *
                    generalize Ix.told (A2 ++ D) = acc at *
                    obtain ⟨ac1, hc1⟩ : ∃ z9 : List UInt8, z9 = acc ++ Pk.nameT nm vr := ⟨_, rfl⟩
                    have hal1 : ac1.length ≤ 3002 := by rw [hc1]; exact Ix.le_app (m := 2) hal (show (Pk.nameT nm vr : List UInt8).length ≤ 2 from of_decide_eq_true rfl)
                    have HC1 := hide hc1
                    clear hc1
                    obtain ⟨ac2, hc2⟩ : ∃ z9 : List UInt8, z9 = ac1 ++ Ix.andT := ⟨_, rfl⟩
                    have hal2 : ac2.length ≤ 3007 := by rw [hc2]; exact Ix.le_app (m := 5) hal1 (show (Ix.andT : List UInt8).length ≤ 5 from of_decide_eq_true rfl)
                    have HC2 := hide hc2
                    clear hc2
                    obtain ⟨ac3, hc3⟩ : ∃ z9 : List UInt8, z9 = ac2 ++ Pk.nameT qn qv := ⟨_, rfl⟩
                    have hal3 : ac3.length ≤ 3009 := by rw [hc3]; exact Ix.le_app (m := 2) hal2 (show (Pk.nameT qn qv : List UInt8).length ≤ 2 from of_decide_eq_true rfl)
                    have HC3 := hide hc3
                    clear hc3
                    obtain ⟨ac4, hc4⟩ : ∃ z9 : List UInt8, z9 = ac3 ++ Ix.atT := ⟨_, rfl⟩
                    have hal4 : ac4.length ≤ 3013 := by rw [hc4]; exact Ix.le_app (m := 4) hal3 (show (Ix.atT : List UInt8).length ≤ 4 from of_decide_eq_true rfl)
                    have HC4 := hide hc4
                    clear hc4
                    obtain ⟨ac5, hc5⟩ : ∃ z9 : List UInt8, z9 = ac4 ++ [Pk.b8 (48 + x)] := ⟨_, rfl⟩
                    have hal5 : ac5.length ≤ 3014 := by rw [hc5]; exact Ix.le_app (m := 1) hal4 (show ([Pk.b8 (48 + x)] : List UInt8).length ≤ 1 from of_decide_eq_true rfl)
                    have HC5 := hide hc5
                    clear hc5
                    obtain ⟨ac6, hc6⟩ : ∃ z9 : List UInt8, z9 = ac5 ++ [10] := ⟨_, rfl⟩
                    have hal6 : ac6.length ≤ 3015 := by rw [hc6]; exact Ix.le_app (m := 1) hal5 (show ([10] : List UInt8).length ≤ 1 from of_decide_eq_true rfl)
                    have HC6 := hide hc6
                    clear hc6
                    have HQ := hide ((unhide HFIN).trans (show _ = ac6 by rw [unhide HC6, unhide HC5, unhide HC4, unhide HC3, unhide HC2, unhide HC1]))
                    go_wp2_with fail
                    have sOf : ∀ w' : World, Below w4.heap.size w4 w' → (w'.cell? ⟨P, 0, none⟩ = some (.int .i64 nm) ∧ w'.cell? ⟨P, 1, none⟩ = some (.int .i64 vr) ∧ w'.cell? ⟨P, 2, none⟩ = some (.slice (some ⟨fb, fof, none⟩) fs.length fc) ∧ w'.cell? ⟨P, 3, none⟩ = some (.slice da ds.length dc)) ∧ (w'.cell? ⟨b, off + n * 4, none⟩ = some (.int .i64 qn) ∧ w'.cell? ⟨b, off + n * 4 + 1, none⟩ = some (.int .i64 qv)) ∧ w'.cell? ⟨fb, fof + m * 2, none⟩ = some (.int .i64 x) := fun w' hb => by
                      have hx := (hb.block _ (heapLt (unhide HX4))).trans (unhide HX4)
                      exact ⟨⟨cellOf hx 0, cellOf hx 1, cellOf hx 2, cellOf hx 3⟩, unhide HY w' hb⟩
                    have SOF := hide sOf
                    clear sOf
                    refine wp_region_held_drew (S := fun w' => (w'.cell? ⟨P, 0, none⟩ = some (.int .i64 nm) ∧ w'.cell? ⟨P, 1, none⟩ = some (.int .i64 vr) ∧ w'.cell? ⟨P, 2, none⟩ = some (.slice (some ⟨fb, fof, none⟩) fs.length fc) ∧ w'.cell? ⟨P, 3, none⟩ = some (.slice da ds.length dc)) ∧ (w'.cell? ⟨b, off + n * 4, none⟩ = some (.int .i64 qn) ∧ w'.cell? ⟨b, off + n * 4 + 1, none⟩ = some (.int .i64 qv)) ∧ w'.cell? ⟨fb, fof + m * 2, none⟩ = some (.int .i64 x)) (by kernel_rfl) (unhide SOF _ (below_drew w4)) (fun hHeld => ?_)
                    refine anyH_at (i := 0) (d := some 110) rfl rfl (by kernel_rfl) (by kernel_rfl) (by kernel_rfl) (fun _ _ _ h => h) (by rfl) (v := ?_) ?_ (by assumption) ?_
                    rotate_left
                    · (intro w hSw; (try dsimp only at hSw); go_simp <;> with_reducible rfl)
                    simp only [Act.put, List.setIfInBounds_toArray, List.set_cons_zero, List.set_cons_succ]
                    refine anyH_at (i := 1) (d := some 111) rfl rfl (by kernel_rfl) (by kernel_rfl) (by kernel_rfl) (fun _ _ _ h => h) (by rfl) (v := ?_) ?_ (by assumption) ?_
                    rotate_left
                    · (intro w hSw; (try dsimp only at hSw); go_simp <;> with_reducible rfl)
                    simp only [Act.put, List.setIfInBounds_toArray, List.set_cons_zero, List.set_cons_succ]
                    refine anyH_at (i := 2) (d := some 112) rfl rfl (by kernel_rfl) (by kernel_rfl) (by kernel_rfl) (fun _ _ _ h => h) (by rfl) (v := ?_) ?_ (by assumption) ?_
                    rotate_left
                    · (intro w hSw; (try dsimp only at hSw); go_simp <;> with_reducible rfl)
                    simp only [Act.put, List.setIfInBounds_toArray, List.set_cons_zero, List.set_cons_succ]
                    refine anyH_at (i := 3) (d := some 113) rfl rfl (by kernel_rfl) (by kernel_rfl) (by kernel_rfl) (fun _ _ _ h => h) (by rfl) (v := ?_) ?_ (by assumption) ?_
                    rotate_left
                    · (intro w hSw; (try dsimp only at hSw); go_simp <;> with_reducible rfl)
                    simp only [Act.put, List.setIfInBounds_toArray, List.set_cons_zero, List.set_cons_succ]
                    refine anyH_at (i := 4) (d := some 114) rfl rfl (by kernel_rfl) (by kernel_rfl) (by kernel_rfl) (fun _ _ _ h => h) (by rfl) (v := ?_) ?_ (by assumption) ?_
                    rotate_left
                    · (intro w hSw; (try dsimp only at hSw); go_simp <;> with_reducible rfl)
                    simp only [Act.put, List.setIfInBounds_toArray, List.set_cons_zero, List.set_cons_succ]
                    refine anyH_at (i := 8) (d := some 118) rfl rfl (by kernel_rfl) (by kernel_rfl) (by kernel_rfl) (fun _ _ _ h => h) (by rfl) (v := ?_) ?_ (by assumption) ?_
                    rotate_left
                    · (intro w hSw; (try dsimp only at hSw); go_simp <;> with_reducible rfl)
                    simp only [Act.put, List.setIfInBounds_toArray, List.set_cons_zero, List.set_cons_succ]
                    refine anyH_at (i := 9) (d := some 119) rfl rfl (by kernel_rfl) (by kernel_rfl) (by kernel_rfl) (fun _ _ _ h => h) (by rfl) (v := ?_) ?_ (by assumption) ?_
                    rotate_left
                    · (intro w hSw; (try dsimp only at hSw); go_simp <;> with_reducible rfl)
                    simp only [Act.put, List.setIfInBounds_toArray, List.set_cons_zero, List.set_cons_succ]
                    refine anyH_at (i := 10) (d := some 120) rfl rfl (by kernel_rfl) (by kernel_rfl) (by kernel_rfl) (fun _ _ _ h => h) (by rfl) (v := ?_) ?_ (by assumption) ?_
                    rotate_left
                    · (intro w hSw; (try dsimp only at hSw); go_simp <;> with_reducible rfl)
                    simp only [Act.put, List.setIfInBounds_toArray, List.set_cons_zero, List.set_cons_succ]
                    refine anyH_at (i := 11) (d := some 121) rfl rfl (by kernel_rfl) (by kernel_rfl) (by kernel_rfl) (fun _ _ _ h => h) (by rfl) (v := ?_) ?_ (by assumption) ?_
                    rotate_left
                    · (intro w hSw; (try dsimp only at hSw); go_simp <;> with_reducible rfl)
                    simp only [Act.put, List.setIfInBounds_toArray, List.set_cons_zero, List.set_cons_succ]
                    refine anyH_at (i := 12) (d := some 122) rfl rfl (by kernel_rfl) (by kernel_rfl) (by kernel_rfl) (fun _ _ _ h => h) (by rfl) (v := ?_) ?_ (by assumption) ?_
                    rotate_left
                    · (intro w hSw; (try dsimp only at hSw); go_simp <;> with_reducible rfl)
                    simp only [Act.put, List.setIfInBounds_toArray, List.set_cons_zero, List.set_cons_succ]
                    refine anyH_at (i := 13) (d := some 123) rfl rfl (by kernel_rfl) (by kernel_rfl) (by kernel_rfl) (fun _ _ _ h => h) (by rfl) (v := ?_) ?_ (by assumption) ?_
                    rotate_left
                    · (intro w hSw; (try dsimp only at hSw); go_simp <;> with_reducible rfl)
                    simp only [Act.put, List.setIfInBounds_toArray, List.set_cons_zero, List.set_cons_succ]
                    refine anyH_at (i := 14) (d := some 124) rfl rfl (by kernel_rfl) (by kernel_rfl) (by kernel_rfl) (fun _ _ _ h => h) (by rfl) (v := ?_) ?_ (by assumption) ?_
                    rotate_left
                    · (intro w hSw; (try dsimp only at hSw); go_simp <;> with_reducible rfl)
                    simp only [Act.put, List.setIfInBounds_toArray, List.set_cons_zero, List.set_cons_succ]
                    refine anyH_at (i := 15) (d := some 125) rfl rfl (by kernel_rfl) (by kernel_rfl) (by kernel_rfl) (fun _ _ _ h => h) (by rfl) (v := ?_) ?_ (by assumption) ?_
                    rotate_left
                    · (intro w hSw; (try dsimp only at hSw); go_simp <;> with_reducible rfl)
                    simp only [Act.put, List.setIfInBounds_toArray, List.set_cons_zero, List.set_cons_succ]
                    refine anyH_at (i := 16) (d := some 126) rfl rfl (by kernel_rfl) (by kernel_rfl) (by kernel_rfl) (fun _ _ _ h => h) (by rfl) (v := ?_) ?_ (by assumption) ?_
                    rotate_left
                    · (intro w hSw; (try dsimp only at hSw); go_simp <;> with_reducible rfl)
                    simp only [Act.put, List.setIfInBounds_toArray, List.set_cons_zero, List.set_cons_succ]
                    refine anyH_at (i := 17) (d := some 127) rfl rfl (by kernel_rfl) (by kernel_rfl) (by kernel_rfl) (fun _ _ _ h => h) (by rfl) (v := ?_) ?_ (by assumption) ?_
                    rotate_left
                    · (intro w hSw; (try dsimp only at hSw); go_simp <;> with_reducible rfl)
                    simp only [Act.put, List.setIfInBounds_toArray, List.set_cons_zero, List.set_cons_succ]
                    refine anyH_at (i := 21) (d := some 131) rfl rfl (by kernel_rfl) (by kernel_rfl) (by kernel_rfl) (fun _ _ _ h => h) (by rfl) (v := ?_) ?_ (by assumption) ?_
                    rotate_left
                    · (intro w hSw; (try dsimp only at hSw); go_simp <;> with_reducible rfl)
                    simp only [Act.put, List.setIfInBounds_toArray, List.set_cons_zero, List.set_cons_succ]
                    refine anyH_at (i := 22) (d := some 132) rfl rfl (by kernel_rfl) (by kernel_rfl) (by kernel_rfl) (fun _ _ _ h => h) (by rfl) (v := ?_) ?_ (by assumption) ?_
                    rotate_left
                    · (intro w hSw; (try dsimp only at hSw); go_simp <;> with_reducible rfl)
                    simp only [Act.put, List.setIfInBounds_toArray, List.set_cons_zero, List.set_cons_succ]
                    refine anyH_at (i := 23) (d := some 133) rfl rfl (by kernel_rfl) (by kernel_rfl) (by kernel_rfl) (fun _ _ _ h => h) (by rfl) (v := ?_) ?_ (by assumption) ?_
                    rotate_left
                    · (intro w hSw; (try dsimp only at hSw); go_simp <;> with_reducible rfl)
                    simp only [Act.put, List.setIfInBounds_toArray, List.set_cons_zero, List.set_cons_succ]
                    refine anyH_at (i := 24) (d := some 134) rfl rfl (by kernel_rfl) (by kernel_rfl) (by kernel_rfl) (fun _ _ _ h => h) (by rfl) (v := ?_) ?_ (by assumption) ?_
                    rotate_left
                    · (intro w hSw; (try dsimp only at hSw); go_simp <;> with_reducible rfl)
                    simp only [Act.put, List.setIfInBounds_toArray, List.set_cons_zero, List.set_cons_succ]
                    refine anyH_at (i := 25) (d := some 135) rfl rfl (by kernel_rfl) (by kernel_rfl) (by kernel_rfl) (fun _ _ _ h => h) (by rfl) (v := ?_) ?_ (by assumption) ?_
                    rotate_left
                    · (intro w hSw; (try dsimp only at hSw); go_simp <;> with_reducible rfl)
                    simp only [Act.put, List.setIfInBounds_toArray, List.set_cons_zero, List.set_cons_succ]
                    refine anyH_at (i := 26) (d := some 136) rfl rfl (by kernel_rfl) (by kernel_rfl) (by kernel_rfl) (fun _ _ _ h => h) (by rfl) (v := ?_) ?_ (by assumption) ?_
                    rotate_left
                    · (intro w hSw; (try dsimp only at hSw); go_simp <;> with_reducible rfl)
                    simp only [Act.put, List.setIfInBounds_toArray, List.set_cons_zero, List.set_cons_succ]
                    refine wpAnyH_ready (rs := [5]) (by kernel_rfl) (by simp) ?_
                    refine AllReadyH.cons rfl (fun K hK => ?_) AllReadyH.nil
                    go_simp
                    refine (name_any nm vr _ hn0.1 hn0.2 (by omega) (by omega)).mono ?_
                    rintro e w5 ⟨rfl, bx⟩
                    have HBw5 : Hid (Below w4.heap.size w4 w5) := (below_drew w4).trans bx
                    clear bx
                    go_wp2_with fail
                    refine hK.out _ _ ?_ (fun hHeldN => ?_)
                    · exact unhide SOF _ (unhide HBw5)
                    clear hHeld
                    have hHeld := hHeldN
                    clear hHeldN
                    clear hK K
                    try simp only [Act.put, List.setIfInBounds_toArray, List.set_cons_zero, List.set_cons_succ]
                    refine anyH_at (i := 6) (d := some 116) rfl rfl (by kernel_rfl) (by kernel_rfl) (by kernel_rfl) (fun _ _ _ h => h) (by rfl) (v := .string ⟨ac1.toArray⟩) (fun _ _ => by rw [unhide HC1]; exact run_add _ _ _ rfl acc (Pk.nameT nm vr) rfl rfl (Nat.le_trans (Nat.add_le_add hal (show (Pk.nameT nm vr : List UInt8).length ≤ 2 from of_decide_eq_true rfl)) (of_decide_eq_true rfl))) (by assumption) ?_
                    simp only [Act.put, List.setIfInBounds_toArray, List.set_cons_zero, List.set_cons_succ]
                    refine anyH_at (i := 7) (d := some 117) rfl rfl (by kernel_rfl) (by kernel_rfl) (by kernel_rfl) (fun _ _ _ h => h) (by rfl) (v := .string ⟨ac2.toArray⟩) (fun _ _ => by rw [unhide HC2]; exact run_add _ _ _ rfl ac1 (Ix.andT) rfl rfl (Nat.le_trans (Nat.add_le_add hal1 (show (Ix.andT : List UInt8).length ≤ 5 from of_decide_eq_true rfl)) (of_decide_eq_true rfl))) (by assumption) ?_
                    simp only [Act.put, List.setIfInBounds_toArray, List.set_cons_zero, List.set_cons_succ]
                    refine wpAnyH_ready (rs := [18]) (by kernel_rfl) (by simp) ?_
                    refine AllReadyH.cons rfl (fun K hK => ?_) AllReadyH.nil
                    go_simp
                    refine (name_any qn qv _ hqn.1 hqn.2 (by omega) (by omega)).mono ?_
                    rintro e w6 ⟨rfl, bx⟩
                    have HBw6 : Hid (Below w4.heap.size w4 w6) := (unhide HBw5).trans (bx.mono (unhide HBw5).size)
                    clear bx
                    go_wp2_with fail
                    refine hK.out _ _ ?_ (fun hHeldN => ?_)
                    · exact unhide SOF _ (unhide HBw6)
                    clear hHeld
                    have hHeld := hHeldN
                    clear hHeldN
                    clear hK K
                    try simp only [Act.put, List.setIfInBounds_toArray, List.set_cons_zero, List.set_cons_succ]
                    refine anyH_at (i := 19) (d := some 129) rfl rfl (by kernel_rfl) (by kernel_rfl) (by kernel_rfl) (fun _ _ _ h => h) (by rfl) (v := .string ⟨ac3.toArray⟩) (fun _ _ => by rw [unhide HC3]; exact run_add _ _ _ rfl ac2 (Pk.nameT qn qv) rfl rfl (Nat.le_trans (Nat.add_le_add hal2 (show (Pk.nameT qn qv : List UInt8).length ≤ 2 from of_decide_eq_true rfl)) (of_decide_eq_true rfl))) (by assumption) ?_
                    simp only [Act.put, List.setIfInBounds_toArray, List.set_cons_zero, List.set_cons_succ]
                    refine anyH_at (i := 20) (d := some 130) rfl rfl (by kernel_rfl) (by kernel_rfl) (by kernel_rfl) (fun _ _ _ h => h) (by rfl) (v := .string ⟨ac4.toArray⟩) (fun _ _ => by rw [unhide HC4]; exact run_add _ _ _ rfl ac3 (Ix.atT) rfl rfl (Nat.le_trans (Nat.add_le_add hal3 (show (Ix.atT : List UInt8).length ≤ 4 from of_decide_eq_true rfl)) (of_decide_eq_true rfl))) (by assumption) ?_
                    simp only [Act.put, List.setIfInBounds_toArray, List.set_cons_zero, List.set_cons_succ]
                    refine wpAnyH_ready (rs := [27]) (by kernel_rfl) (by simp) ?_
                    refine AllReadyH.cons rfl (fun K hK => ?_) AllReadyH.nil
                    go_simp
                    refine (dec_any x _ (by omega) (by omega)).mono ?_
                    rintro e w7 ⟨rfl, hxw7⟩
                    have HBw7 : Hid (Below w4.heap.size w4 w7) := by rw [hxw7]; exact (unhide HBw6).trans ((below1 _ _).mono (unhide HBw6).size)
                    clear hxw7
                    go_wp2_with fail
                    refine hK.out _ _ ?_ (fun hHeldN => ?_)
                    · exact unhide SOF _ (unhide HBw7)
                    clear hHeld
                    have hHeld := hHeldN
                    clear hHeldN
                    clear hK K
                    try simp only [Act.put, List.setIfInBounds_toArray, List.set_cons_zero, List.set_cons_succ]
                    refine anyH_at (i := 28) (d := some 138) rfl rfl (by kernel_rfl) (by kernel_rfl) (by kernel_rfl) (fun _ _ _ h => h) (by rfl) (v := .string ⟨ac5.toArray⟩) (fun _ _ => by rw [unhide HC5]; exact run_add _ _ _ rfl ac4 ([Pk.b8 (48 + x)]) rfl rfl (Nat.le_trans (Nat.add_le_add hal4 (show ([Pk.b8 (48 + x)] : List UInt8).length ≤ 1 from of_decide_eq_true rfl)) (of_decide_eq_true rfl))) (by assumption) ?_
                    simp only [Act.put, List.setIfInBounds_toArray, List.set_cons_zero, List.set_cons_succ]
                    refine anyH_at (i := 29) (d := some 139) rfl rfl (by kernel_rfl) (by kernel_rfl) (by kernel_rfl) (fun _ _ _ h => h) (by rfl) (v := .string ⟨ac6.toArray⟩) (fun _ _ => by rw [unhide HC6]; exact run_add _ _ _ rfl ac5 ([10]) rfl rfl (Nat.le_trans (Nat.add_le_add hal5 (show ([10] : List UInt8).length ≤ 1 from of_decide_eq_true rfl)) (of_decide_eq_true rfl))) (by assumption) ?_
                    simp only [Act.put, List.setIfInBounds_toArray, List.set_cons_zero, List.set_cons_succ]
                    refine anyH_at (i := 30) (d := some 3) rfl rfl (by kernel_rfl) (by kernel_rfl) (by kernel_rfl) (fun _ _ _ h => h) (by rfl) (v := ?_) ?_ (by assumption) ?_
                    rotate_left
                    · (intro w hSw; (try dsimp only at hSw); go_simp <;> with_reducible rfl)
                    simp only [Act.put, List.setIfInBounds_toArray, List.set_cons_zero, List.set_cons_succ]
                    refine wpAnyH_done (by kernel_rfl) ?_ _
                    go_wp2
                    go_roundw
                    case rel => exact ⟨m + 1, by omega, by go_num, by rw [unhide HQ], (unhide HW4).trans ((unhide HBw7).mono (unhide HW4).size), ((unhide HBw7).block _ (heapLt (unhide HX4))).trans (unhide HX4)⟩
                    case measure => simp [intOf]; omega
                  · have HX4 := hide ((b4.block _ (heapLt (unhide HX))).trans (unhide HX))
                    have HW4 := hide ((unhide HW).trans (b4.mono (unhide HW).size))
                    have hnil : Ix.placeL l k (nm, vr, fs, ds) (x, y) = [] := Ix.placeL_nil.2 how
                    have hfin : Ix.told (A2 ++ (fs.take (m + 1)).flatMap (Ix.placeL l k (nm, vr, fs, ds))) = Ix.told (A2 ++ D) := by rw [unhide HST, hnil, List.append_nil]
                    have HFIN := hide hfin
                    clear b4 HX HW p0 p1 p2 p3 d0 d1 CO HY0 hfin hnil how
                    generalize Ix.told (A2 ++ D) = acc at *
                    go_wp2
                    go_roundw
                    case rel => exact ⟨m + 1, by omega, by go_num, by rw [unhide HFIN], unhide HW4, unhide HX4⟩
                    case measure => simp [intOf]; omega
                · obtain rfl : m = fs.length := by omega
                  rw [List.take_length]
                  have hend : A2 ++ fs.flatMap (Ix.placeL l k (nm, vr, fs, ds)) = Ix.linesTo l (k + 1) := by
                    rw [unhide HLS, unhide HAE2, unhide HAE]
                    simp only [List.append_assoc]
                  rw [hend]
                  clear hlt2 hend
                  go_wp2
                  go_roundw
                  case rel => exact ⟨k + 1, by omega, by go_num, rfl, unhide HW⟩
                  case measure => simp [intOf]; omega
    · obtain rfl : k = l.length := by omega
      clear hlt
      have hwy : Ix.why l = if (Ix.lines l).length = 0 then Ix.fineT else Ix.told (Ix.lines l) := by unfold Ix.why; rw [if_pos (unhide HOK)]
      have hle : Ix.linesTo l l.length = Ix.lines l := rfl
      rw [hle]
      have HWY := hide hwy
      clear hwy hle hrow
      cases hls : Ix.lines l with
      | nil =>
        rw [hls] at HWY
        have h0 : Ix.told [] = [] := rfl
        rw [h0]
        have hq : ((⟨([] : List UInt8).toArray⟩ : ByteArray) == ⟨#[]⟩) = true := rfl
        go_wp2
        go_ret
        exact ⟨ret_str (by rw [unhide HWY]; rfl), unhide HW⟩
      | cons s ls =>
        rw [hls] at HWY
        have hne : Ix.told (s :: ls) ≠ [] := by
          show Ix.nl s ++ Ix.told ls ≠ []
          unfold Ix.nl
          simp
        have hwq : Ix.why l = Ix.told (s :: ls) := (unhide HWY).trans (if_neg (by simp))
        have HWQ := hide hwq
        clear hwq HWY hls
        generalize Ix.told (s :: ls) = tt at *
        have hq : tt.isEmpty = false := by
          cases tt with
          | nil => exact absurd rfl hne
          | cons x xs => rfl
        go_wp2
        go_ret
        exact ⟨ret_str (by rw [unhide HWQ]), unhide HW⟩
end Go.Proofs.YtgjdomgcnpjnlaaDoor
