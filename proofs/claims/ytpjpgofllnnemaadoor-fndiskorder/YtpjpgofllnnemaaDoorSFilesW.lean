import Derived.Test.YtpjpgofllnnemaaDoorMix9
/- What spec.l13Files and spec.PlanFiles return: what is at each place; for every row of packages that can be read. -/
namespace Go.Proofs.YtpjpgofllnnemaaDoor
open Go.RowKit

attribute [local go_sem ↓] Go.wp_at_zero Go.wp_at_succ

set_option maxHeartbeats 8000000 in
set_option maxRecDepth 100000 in
theorem l13Files_any {N : Nat → Prop} (w : World) (v : Value) (l : List Ix.Pg) (h : Pks N w v l) (hok : Ix.pkgsOk l = true) :
    Calls Tryd.prog 26 #[v] w fun e w' => ∃ u, e = .returned u ∧ OwI w.heap.size w' u (Ix.filesTo l l.length) ∧ Below w.heap.size w w' := by
  have HOK := hide hok
  clear hok
  obtain ⟨a, cap, rfl, hlen, hrow⟩ := h
  obtain ⟨C, hC, hmk⟩ := mk_ints w 6 (by omega)
  have hmk' : (Instr.makeSlice 24 (.int .i64 6) (.int .i64 6)).run Tryd.prog w = .ok (.slice (some ⟨w.heap.size, 0, none⟩) 6 6) (w.alloc (.cells C 3)) := hmk
  clear hmk
  have hneg0 : Neg (w.alloc (.cells C 3)) w.heap.size 0 := ⟨C, heap_alloc_new w _, hC, fun i hi => by omega⟩
  have HN0 := hide hneg0
  have HB0 := hide (below1 w (.cells C 3))
  clear hneg0 hC
  go_enter Tryd.func26, Tryd.ntmps26
  go_wp2_with fail
  go_loopw [4] (fun nv wr => ∃ n : Nat, n ≤ 6 ∧ nv = .int .i64 n ∧ Neg wr w.heap.size n ∧ Below w.heap.size w wr) (fun nv _ => 6 - (intOf nv).toNat)
  case atStart => exact ⟨0, by omega, rfl, unhide HN0, unhide HB0⟩
  case round =>
    clear HN0 HB0 hmk'
    obtain ⟨n, hn, rfl, hneg, hb⟩ := hrel
    have HB := hide hb
    clear hb
    by_cases hlt : n < 6
    · clear hrow
      obtain ⟨D, d1, d2, d3⟩ := hneg
      have q0 : wr.cell? ⟨w.heap.size, n, none⟩ = some (D[n]'(by omega)) := by rw [cellOf d1]; exact Array.getElem?_eq_getElem _
      have q1 := frozenOf d1 n
      have HN2 : Hid (Neg (wr.setCell ⟨w.heap.size, n, none⟩ (.int .i64 (-1))) w.heap.size (n + 1)) := ⟨_, heapSet d1, by simpa using d2, fun i hi => by
        rcases Nat.lt_or_ge i n with h1 | h1
        · rw [Array.getElem?_setIfInBounds_ne (by omega)]
          exact d3 i h1
        · obtain rfl : i = n := by omega
          rw [Array.getElem?_setIfInBounds_self_of_lt (by omega)]⟩
      generalize D[n]'(by omega) = y1 at q0
      clear d1 d2 d3
      have hi0 : (0 : Int) ≤ (n : Int) := Int.natCast_nonneg _
      have hi1 : (n : Int) < 6 := by omega
      go_wp2
      go_roundw
      case rel => exact ⟨n + 1, by omega, by go_num, unhide HN2, (unhide HB).setCell (Nat.le_refl _) _⟩
      case measure => simp [intOf]; omega
    · have hge : ¬ (n : Int) < 6 := by omega
      have h6 : n = 6 := by omega
      have hneg6 : Neg wr w.heap.size 6 := by rw [h6] at hneg; exact hneg
      have HI3 := hide hneg6.intB
      clear hlt hn hneg hneg6 h6
      go_wp2_with fail
      go_loopw [5] (fun i w' => ∃ k : Nat, k ≤ l.length ∧ i = .int .i64 k ∧ IntB w' w.heap.size (Ix.filesTo l k) ∧ Below w.heap.size w w') (fun i _ => l.length - (intOf i).toNat)
      case atStart => exact ⟨0, Nat.zero_le _, rfl, unhide HI3, unhide HB⟩
      case round =>
        clear HI3 HB
        obtain ⟨k, hk, rfl, hI, hw⟩ := hrel
        have HI := hide hI
        have HW := hide hw
        clear hI hw
        by_cases hlt : k < l.length
        · obtain ⟨b, off, rfl, hb, _, hc⟩ := hrow (by omega)
          obtain ⟨fv, dv, hAt, hf, hd⟩ := hc k hlt
          clear hc hrow
          have hfo := Ix.pOk_file (Ix.pkgs_pOk (unhide HOK) hlt)
          have hfs := Ix.filesTo_succ hlt
          have hf6 := Ix.filesTo_len l k hk
          obtain ⟨nm, vr, fs, ds, hpk⟩ : ∃ nm vr fs ds, Ix.pg l k = (nm, vr, fs, ds) := ⟨_, _, _, _, rfl⟩
          rw [hpk] at hAt hf hd hfo hfs
          dsimp only at hf hd hfo hfs
          have HFS := hide hfs
          have HFO := hide hfo
          obtain ⟨da, dc, hdv⟩ := hd.slice
          obtain ⟨fa, fc, hfv, _, hfr⟩ := hf
          subst hfv hdv
          have HAT := hide hAt
          have hi0 : (0 : Int) ≤ (k : Int) := Int.natCast_nonneg _
          have hi1 : (k : Int) < (l.length : Int) := by omega
          have er : IntKind.i64.wrap ((k : Int) + 1) = (k : Int) + 1 := by simp [IntKind.wrap, IntKind.bits, IntKind.signed]; omega
          clear hAt hd hpk hfs hfo
          go_wp2_with fail
          generalize Ix.filesTo l k = A at *
          go_loopw [6] (fun jv w' => ∃ m : Nat, m ≤ fs.length ∧ jv = .int .i64 m ∧ IntB w' w.heap.size (Ix.putF A (fs.take m)) ∧ Below w.heap.size w w') (fun jv _ => fs.length - (intOf jv).toNat)
          case atStart => exact ⟨0, Nat.zero_le _, rfl, unhide HI, unhide HW⟩
          case round =>
            clear HI HW
            obtain ⟨m, hm, rfl, hI, hw⟩ := hrel
            have HI := hide hI
            have HW := hide hw
            clear hI hw
            obtain ⟨c0, c1, c2, c3⟩ := (unhide HAT).keep ((unhide HW).block b hb)
            dsimp only at c0 c1
            by_cases hlt2 : m < fs.length
            · obtain ⟨fb, fof, rfl, hfb, _, hfc⟩ := hfr (by omega)
              have hj0 : (0 : Int) ≤ (m : Int) := Int.natCast_nonneg _
              have hj1 : (m : Int) < (fs.length : Int) := by omega
              have er2 : IntKind.i64.wrap ((m : Int) + 1) = (m : Int) + 1 := by simp [IntKind.wrap, IntKind.bits, IntKind.signed]; omega
              have hbd := (unhide HFO m hlt2).1
              have hps := Ix.putF_succ hlt2 A
              have hpl := Ix.putF_len (fs.take m) A
              obtain ⟨d0, d1⟩ := hfc m hlt2
              rw [← (unhide HW).cell hfb] at d0 d1
              obtain ⟨xn, hxn⟩ := Int.eq_ofNat_of_zero_le hbd.1
              rw [hxn] at d0 hbd hps
              rw [Int.toNat_natCast] at hps
              have HPS := hide hps
              have hx6 : xn < 6 := by omega
              have hx0 : (0 : Int) ≤ (xn : Int) := Int.natCast_nonneg _
              have hx1 : (xn : Int) < 6 := by omega
              clear hfc hfr hxn hps
              generalize Pk.snd fs m = y at *
              generalize Ix.putF A (fs.take m) = A2 at *
              have hd0 := below_drew wr
              have hID := (unhide HI).later hd0
              obtain ⟨z, q0, q1⟩ := hID.cell (i := xn) (by omega)
              have HI2 := hide (hID.set (i := xn) (x := y))
              have HW2 := hide (below_set (o := xn) (u := .int .i64 y) ((unhide HW).trans (hd0.mono (unhide HW).size)) (Nat.le_refl _))
              clear hd0 hID HI
              go_wp2_with fail
              have hSS : wr.drew.cell? ⟨b, off + k * 4 + 2, none⟩ = some (.slice (some ⟨fb, fof, none⟩) fs.length fc) ∧ wr.drew.cell? ⟨fb, fof + m * 2, none⟩ = some (.int .i64 (xn : Int)) ∧ wr.drew.cell? ⟨fb, fof + m * 2 + 1, none⟩ = some (.int .i64 y) := ⟨c2, d0, d1⟩
              refine wl_region (S := fun w' => w'.cell? ⟨b, off + k * 4 + 2, none⟩ = some (.slice (some ⟨fb, fof, none⟩) fs.length fc) ∧ w'.cell? ⟨fb, fof + m * 2, none⟩ = some (.int .i64 (xn : Int)) ∧ w'.cell? ⟨fb, fof + m * 2 + 1, none⟩ = some (.int .i64 y)) (s := 20) (by kernel_rfl) hSS (fun hHeld => ?_)
              clear hSS c0 c1 c2 c3 d0 d1
              refine wl_take (i := 0) (d := some 33) rfl rfl (by kernel_rfl) (by kernel_rfl) (by kernel_rfl) (by kernel_rfl) (by kernel_rfl) (fun _ _ _ h => h) (by rfl) (fun w _ => run_move rfl rfl w) (by assumption) ?_
              simp only [Act.put, List.setIfInBounds_toArray, List.set_cons_zero, List.set_cons_succ, List.getElem_toArray, List.getElem_cons_zero, List.getElem_cons_succ]
              refine wl_take (i := 1) (d := some 34) rfl rfl (by kernel_rfl) (by kernel_rfl) (by kernel_rfl) (by kernel_rfl) (by kernel_rfl) (fun _ _ _ h => h) (by rfl) (fun w _ => run_move rfl rfl w) (by assumption) ?_
              simp only [Act.put, List.setIfInBounds_toArray, List.set_cons_zero, List.set_cons_succ, List.getElem_toArray, List.getElem_cons_zero]
              refine wl_take (i := 2) (d := some 35) rfl rfl (by kernel_rfl) (by kernel_rfl) (by kernel_rfl) (by kernel_rfl) (by kernel_rfl) (fun _ _ _ h => h) (by rfl) (fun w _ => run_move rfl rfl w) (by assumption) ?_
              simp only [Act.put, List.setIfInBounds_toArray, List.set_cons_zero, List.set_cons_succ, List.getElem_toArray, List.getElem_cons_zero, List.getElem_cons_succ]
              refine wl_take (i := 3) (d := some 36) rfl rfl (by kernel_rfl) (by kernel_rfl) (by kernel_rfl) (by kernel_rfl) (by kernel_rfl) (fun _ _ _ h => h) (by rfl) (v := ?_) ?_ (by assumption) ?_
              rotate_left
              · (intro w hSw; (try dsimp only at hSw); go_simp <;> with_reducible rfl)
              simp only [Act.put, List.setIfInBounds_toArray, List.set_cons_zero, List.set_cons_succ]
              refine wl_take (i := 4) (d := some 37) rfl rfl (by kernel_rfl) (by kernel_rfl) (by kernel_rfl) (by kernel_rfl) (by kernel_rfl) (fun _ _ _ h => h) (by rfl) (v := ?_) ?_ (by assumption) ?_
              rotate_left
              · (intro w hSw; (try dsimp only at hSw); go_simp <;> with_reducible rfl)
              simp only [Act.put, List.setIfInBounds_toArray, List.set_cons_zero, List.set_cons_succ]
              refine wl_take (i := 5) (d := some 38) rfl rfl (by kernel_rfl) (by kernel_rfl) (by kernel_rfl) (by kernel_rfl) (by kernel_rfl) (fun _ _ _ h => h) (by rfl) (v := ?_) ?_ (by assumption) ?_
              rotate_left
              · (intro w hSw; (try dsimp only at hSw); go_simp <;> with_reducible rfl)
              simp only [Act.put, List.setIfInBounds_toArray, List.set_cons_zero, List.set_cons_succ]
              refine wl_take (i := 6) (d := some 39) rfl rfl (by kernel_rfl) (by kernel_rfl) (by kernel_rfl) (by kernel_rfl) (by kernel_rfl) (fun _ _ _ h => h) (by rfl) (fun w _ => run_move rfl rfl w) (by assumption) ?_
              simp only [Act.put, List.setIfInBounds_toArray, List.set_cons_zero, List.set_cons_succ, List.getElem_toArray, List.getElem_cons_zero, List.getElem_cons_succ]
              refine wl_take (i := 7) (d := some 40) rfl rfl (by kernel_rfl) (by kernel_rfl) (by kernel_rfl) (by kernel_rfl) (by kernel_rfl) (fun _ _ _ h => h) (by rfl) (v := ?_) ?_ (by assumption) ?_
              rotate_left
              · (intro w hSw; (try dsimp only at hSw); go_simp <;> with_reducible rfl)
              simp only [Act.put, List.setIfInBounds_toArray, List.set_cons_zero, List.set_cons_succ]
              refine wl_take (i := 8) (d := some 41) rfl rfl (by kernel_rfl) (by kernel_rfl) (by kernel_rfl) (by kernel_rfl) (by kernel_rfl) (fun _ _ _ h => h) (by rfl) (v := ?_) ?_ (by assumption) ?_
              rotate_left
              · (intro w hSw; (try dsimp only at hSw); go_simp <;> with_reducible rfl)
              simp only [Act.put, List.setIfInBounds_toArray, List.set_cons_zero, List.set_cons_succ]
              refine wl_take (i := 9) (d := some 42) rfl rfl (by kernel_rfl) (by kernel_rfl) (by kernel_rfl) (by kernel_rfl) (by kernel_rfl) (fun _ _ _ h => h) (by rfl) (v := ?_) ?_ (by assumption) ?_
              rotate_left
              · (intro w hSw; (try dsimp only at hSw); go_simp <;> with_reducible rfl)
              simp only [Act.put, List.setIfInBounds_toArray, List.set_cons_zero, List.set_cons_succ]
              refine wl_take (i := 10) (d := some 43) rfl rfl (by kernel_rfl) (by kernel_rfl) (by kernel_rfl) (by kernel_rfl) (by kernel_rfl) (fun _ _ _ h => h) (by rfl) (fun w _ => run_move rfl rfl w) (by assumption) ?_
              simp only [Act.put, List.setIfInBounds_toArray, List.set_cons_zero, List.set_cons_succ, List.getElem_toArray, List.getElem_cons_zero]
              refine wl_take (i := 11) (d := some 44) rfl rfl (by kernel_rfl) (by kernel_rfl) (by kernel_rfl) (by kernel_rfl) (by kernel_rfl) (fun _ _ _ h => h) (by rfl) (fun w _ => run_move rfl rfl w) (by assumption) ?_
              simp only [Act.put, List.setIfInBounds_toArray, List.set_cons_zero, List.set_cons_succ, List.getElem_toArray, List.getElem_cons_zero, List.getElem_cons_succ]
              refine wl_take (i := 12) (d := some 45) rfl rfl (by kernel_rfl) (by kernel_rfl) (by kernel_rfl) (by kernel_rfl) (by kernel_rfl) (fun _ _ _ h => h) (by rfl) (v := ?_) ?_ (by assumption) ?_
              rotate_left
              · (intro w hSw; (try dsimp only at hSw); go_simp <;> with_reducible rfl)
              simp only [Act.put, List.setIfInBounds_toArray, List.set_cons_zero, List.set_cons_succ]
              refine wl_take (i := 13) (d := some 46) rfl rfl (by kernel_rfl) (by kernel_rfl) (by kernel_rfl) (by kernel_rfl) (by kernel_rfl) (fun _ _ _ h => h) (by rfl) (v := ?_) ?_ (by assumption) ?_
              rotate_left
              · (intro w hSw; (try dsimp only at hSw); go_simp <;> with_reducible rfl)
              simp only [Act.put, List.setIfInBounds_toArray, List.set_cons_zero, List.set_cons_succ]
              refine wl_take (i := 14) (d := some 47) rfl rfl (by kernel_rfl) (by kernel_rfl) (by kernel_rfl) (by kernel_rfl) (by kernel_rfl) (fun _ _ _ h => h) (by rfl) (v := ?_) ?_ (by assumption) ?_
              rotate_left
              · (intro w hSw; (try dsimp only at hSw); go_simp <;> with_reducible rfl)
              simp only [Act.put, List.setIfInBounds_toArray, List.set_cons_zero, List.set_cons_succ]
              refine wl_take (i := 15) (d := some 48) rfl rfl (by kernel_rfl) (by kernel_rfl) (by kernel_rfl) (by kernel_rfl) (by kernel_rfl) (fun _ _ _ h => h) (by rfl) (fun w _ => run_move rfl rfl w) (by assumption) ?_
              simp only [Act.put, List.setIfInBounds_toArray, List.set_cons_zero, List.set_cons_succ, List.getElem_toArray, List.getElem_cons_zero, List.getElem_cons_succ]
              refine wl_take (i := 16) (d := some 49) rfl rfl (by kernel_rfl) (by kernel_rfl) (by kernel_rfl) (by kernel_rfl) (by kernel_rfl) (fun _ _ _ h => h) (by rfl) (v := ?_) ?_ (by assumption) ?_
              rotate_left
              · (intro w hSw; (try dsimp only at hSw); go_simp <;> with_reducible rfl)
              simp only [Act.put, List.setIfInBounds_toArray, List.set_cons_zero, List.set_cons_succ]
              refine wl_take (i := 17) (d := some 50) rfl rfl (by kernel_rfl) (by kernel_rfl) (by kernel_rfl) (by kernel_rfl) (by kernel_rfl) (fun _ _ _ h => h) (by rfl) (v := ?_) ?_ (by assumption) ?_
              rotate_left
              · (intro w hSw; (try dsimp only at hSw); go_simp <;> with_reducible rfl)
              simp only [Act.put, List.setIfInBounds_toArray, List.set_cons_zero, List.set_cons_succ]
              refine wl_take (i := 18) (d := some 51) rfl rfl (by kernel_rfl) (by kernel_rfl) (by kernel_rfl) (by kernel_rfl) (by kernel_rfl) (fun _ _ _ h => h) (by rfl) (v := ?_) ?_ (by assumption) ?_
              rotate_left
              · (intro w hSw; (try dsimp only at hSw); go_simp <;> with_reducible rfl)
              simp only [Act.put, List.setIfInBounds_toArray, List.set_cons_zero, List.set_cons_succ]
              refine wl_take (i := 19) (d := some 52) rfl rfl (by kernel_rfl) (by kernel_rfl) (by kernel_rfl) (by kernel_rfl) (by kernel_rfl) (fun _ _ _ h => h) (by rfl) (v := ?_) ?_ (by assumption) ?_
              rotate_left
              · (intro w hSw; (try dsimp only at hSw); go_simp <;> with_reducible rfl)
              simp only [Act.put, List.setIfInBounds_toArray, List.set_cons_zero, List.set_cons_succ]
              refine wl_one (i := 20) (by kernel_rfl) rfl (by rfl) (fun K hK => ?_)
              go_simp
              refine hK.out _ _ (fun h => absurd rfl h) ?_
              clear hK K
              refine wl_done (by kernel_rfl) ?_
              clear hHeld q0 q1
              go_wp2
              go_roundw
              case rel => exact ⟨m + 1, by omega, by go_num, by rw [unhide HPS]; exact unhide HI2, unhide HW2⟩
              case measure => simp [intOf]; omega
            · obtain rfl : m = fs.length := by omega
              rw [List.take_length] at HI
              clear hlt2 hfr
              go_wp2
              go_roundw
              case rel => exact ⟨k + 1, by omega, by go_num, by rw [unhide HFS]; exact unhide HI, unhide HW⟩
              case measure => simp [intOf]; omega
        · obtain rfl : k = l.length := by omega
          have h6 := Ix.filesTo_len l l.length (Nat.le_refl _)
          clear hlt hrow
          have hO := (unhide HI).own (Nat.le_refl _) (by omega)
          have hO2 : OwI w.heap.size wr (.slice (some ⟨w.heap.size, 0, none⟩) 6 6) (Ix.filesTo l l.length) := by rw [h6] at hO; exact hO
          have HO := hide hO2
          clear hO hO2 h6
          go_wp2
          go_ret
          exact ⟨_, rfl, unhide HO, unhide HW⟩

end Go.Proofs.YtpjpgofllnnemaaDoor
