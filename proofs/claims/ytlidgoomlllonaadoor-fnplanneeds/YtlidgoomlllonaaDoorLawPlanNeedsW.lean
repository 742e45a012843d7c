import Derived.Test.YtlidgoomlllonaaDoorPlanOkDrawW
import Derived.Test.YtlidgoomlllonaaDoorMixL
import Derived.Test.YtlidgoomlllonaaDoorFilesW
import Derived.Test.YtlidgoomlllonaaDoorShelfW
import Derived.Test.YtlidgoomlllonaaDoorMixC
/- The walk of FnPlanNeeds: it returns true and leaves what was there; for every row of bytes. -/
namespace Go.Proofs.YtlidgoomlllonaaDoor
open Go.RowKit

attribute [local go_sem ↓] Go.wp_at_zero Go.wp_at_succ

theorem mk_zeros (w : World) :
    ∃ WA, (Instr.makeSlice 26 (.int .i64 6) (.int .i64 6)).run Tryd.prog w = .ok (.slice (some ⟨w.heap.size, 0, none⟩) 6 6) WA ∧ IntB WA w.heap.size (List.replicate 6 0) ∧ Below w.heap.size w WA := by
  obtain ⟨i, hi0, hz0, hz1, hz2⟩ := info_parts infoI
  have h := run_make (P := Tryd.prog) w 26 3 i (.int .i64 0) Tryd.underlying26 hi0 hz0 .i64 .i64 (6 : Int) (6 : Int) (by omega) (Int.le_refl _) (by rw [hz2]; omega) (by omega)
  rw [hz1] at h
  refine ⟨_, h, ?_, below1 w _⟩
  unfold IntB
  rw [heap_alloc_new]
  have e : madeCells (Value.int .i64 0).cells (Int.toNat 6 * 1) = ((List.replicate 6 (0 : Int)).map (Value.int .i64)).toArray := by
    apply Array.ext'
    exact toList_madeCells_one (Value.int .i64 0) 6
  rw [e]
theorem IntB.cellD {w : World} {g i : Nat} {a : List Int} (h : IntB w g a) (hi : i < a.length) : w.cell? ⟨g, i, none⟩ = some (.int .i64 (a.getD i 0)) ∧ w.frozen? ⟨g, i, none⟩ = false := by
  refine ⟨?_, frozenOf h i⟩
  rw [cellOf h, List.getElem?_toArray, List.getElem?_map, List.getElem?_eq_getElem hi, List.getD_eq_getElem?_getD, List.getElem?_eq_getElem hi]
  rfl

set_option maxHeartbeats 8000000 in
set_option maxRecDepth 100000 in
theorem planNeeds_walk (w : World) (a : Option Addr) (len cap : Nat) (h : Bytes w a len cap) :
    Calls Tryd.prog 3 #[.slice a len cap] w fun e w' => e = .returned (.bool true) ∧ Below w.heap.size w w' := by
  by_cases hbig : (1048576 : Int) < (len : Int)
  · go_enter Tryd.func3, Tryd.ntmps3
    go_wp2
    go_ret
    exact ⟨rfl, Below.refl _ _⟩
  have CD := hide (drawPlanOk_any w a len cap h)
  clear h
  go_enter Tryd.func3, Tryd.ntmps3
  go_wp2_with fail
  refine (unhide CD).mono ?_
  rintro e w1 ⟨v, els, rfl, hpo, hms, b1⟩
  obtain ⟨ma, mc, hmv⟩ := own_formS hpo.own
  subst hmv
  have hrm := own_roomP hpo.own
  have I1 := hide (POwn.pks (N := fun _ => True) (hpo.weak (fun _ _ => trivial)) (fun _ _ => trivial) (by omega))
  have B1 := hide b1
  clear hpo b1 CD
  obtain ⟨l, hl⟩ : ∃ l : List Ix.Pg, l = els.map (·.1) := ⟨_, rfl⟩
  have hll : l.length = els.length := by rw [hl, List.length_map]
  rw [← hl] at I1
  have HR : Hid (∀ a c, Value.slice ma els.length mc = .slice a l.length c → l.length ≤ c) := fun _ _ e => by injection e with _ _ e; omega
  clear hl
  have HLL := hide hll
  clear hll
  go_wp2_with fail
  refine (implPlanOk_any _ _ l (unhide I1) (unhide HR)).mono ?_
  rintro e w2 ⟨rfl, b2⟩
  have I2 := hide ((unhide I1).later b2)
  have B2 := hide ((unhide B1).trans (b2.mono (unhide B1).size))
  clear b2 I1 B1
  have CS := hide (fun (W : World) hW => specPlanOk_any (N := fun _ => True) W (.slice ma els.length mc) l hW)
  have HOK := hide (fun h : Ix.planOk l = true => h)
  have hne : (Ix.planOk l != Ix.planOk l) = false := by simp
  have heq : (Ix.planOk l == Ix.planOk l) = true := by simp
  have HPO : Hid (∃ ok, ok = Ix.planOk l) := ⟨_, rfl⟩
  obtain ⟨ok, hok⟩ := unhide HPO
  have HKO := hide hok
  rw [← hok] at CS hne heq ⊢
  clear hok HPO HOK
  go_wp2_with fail
  refine (unhide CS _ (unhide I2)).mono ?_
  rintro e w3 ⟨rfl, b3⟩
  have I3 := hide ((unhide I2).later b3)
  have B3 := hide ((unhide B2).trans (b3.mono (unhide B2).size))
  clear b3 I2 B2
  cases ok
  · go_wp2_with fail
    refine (unhide CS _ (unhide I3)).mono ?_
    rintro e w4 ⟨rfl, b4⟩
    have B4 := hide ((unhide B3).trans (b4.mono (unhide B3).size))
    clear b4
    go_wp2
    go_ret
    exact ⟨rfl, unhide B4⟩
  have HOK := hide (unhide HKO).symm
  clear CS hne heq HKO
  obtain ⟨WA, hmk, hI0, hb0⟩ := mk_zeros w3
  have HI0 := hide hI0
  have HB0 := hide hb0
  have hG : w.heap.size ≤ w3.heap.size := (unhide B3).size
  clear hI0 hb0
  go_wp2_with fail
  clear hmk
  obtain ⟨pa, pc, hmv, hml, hrow⟩ := unhide I3
  injection hmv with hmv1 hmv2 hmv3
  subst hmv1 hmv3
  clear hmv2
  go_loopw [6] (fun i w' => ∃ (k : Nat) (U : List Int), k ≤ l.length ∧ i = .int .i64 k ∧ Ix.usedOk l k [] U ∧ IntB w' w3.heap.size U ∧ Below w3.heap.size w3 w') (fun i _ => l.length - (intOf i).toNat)
  case atStart => exact ⟨0, _, Nat.zero_le _, rfl, Ix.usedOk.start l, unhide HI0, unhide HB0⟩
  case round =>
    clear HI0 HB0
    clear WA
    obtain ⟨k, U, hk, rfl, hU, hI, hw⟩ := hrel
    have HU := hide hU
    have HI := hide hI
    have HW := hide hw
    have hle : l.length = els.length := unhide HLL
    clear hU hI hw
    by_cases hlt : k < l.length
    · obtain ⟨b, off, rfl, hb, _, hc⟩ := hrow (by omega)
      obtain ⟨fv, dv, hAt, hf, hd⟩ := hc k hlt
      have hks := Ix.planOk_pkgs (unhide HOK)
      have hpok := Ix.pkgs_pOk hks hlt
      have hlens := Ix.pOk_lens hpok
      have hfo := Ix.pOk_file hpok
      have hdo := Ix.pOk_dep hpok
      have hnd := fun (d : Int × Int) hd => Ix.plan_need (unhide HOK) hlt (d := d) hd
      have hasc : ∀ j, j + 1 = k → (Ix.pg l j).1 < (Ix.pg l k).1 := fun j hj => (Ix.plan_pairs (unhide HOK) (by omega) hlt).1
      have hz := fun (m n : Nat) (U : List Int) h1 h2 h3 h4 => Ix.usedOk.zero (l := l) (k := k) (m := m) (n := n) (U := U) h1 (unhide HOK) hlt h2 h3 h4
      have hnx := fun (m n : Nat) (U : List Int) h1 h2 h3 h4 => Ix.usedOk.next (l := l) (k := k) (m := m) (n := n) (U := U) h1 h2 h3 h4
      have hnp := fun (U : List Int) h1 => Ix.usedOk.pkg (l := l) (k := k) (U := U) h1
      have hcp := fun j hj => hc j hj
      obtain ⟨nm, vr, fs, ds, hpk⟩ : ∃ nm vr fs ds, Ix.pg l k = (nm, vr, fs, ds) := ⟨_, _, _, _, rfl⟩
      rw [hpk] at hAt hf hd hlens hfo hdo hnd hasc hz hnx hnp
      dsimp only at hf hd hlens hfo hdo hnd hasc hz hnx hnp
      obtain ⟨hlf, hld⟩ := hlens
      obtain ⟨fa, fc, hfv, _, hfr⟩ := hf
      obtain ⟨da, dc, hdv, _, hdr⟩ := hd
      subst hfv hdv
      have HZ := hide hz
      have HNX := hide hnx
      have HNP := hide hnp
      have HND := hide hnd
      have HDO := hide hdo
      have HFO := hide hfo
      have HFR := hide hfr
      have HDR := hide hdr
      have hi0 : (0 : Int) ≤ (k : Int) := Int.natCast_nonneg _
      have hi1 : (k : Int) < (els.length : Int) := by omega
      have er : IntKind.i64.wrap ((k : Int) + 1) = (k : Int) + 1 := by simp [IntKind.wrap, IntKind.bits, IntKind.signed]; omega
      have hAw : Hid (∀ w', Below w3.heap.size w3 w' → w'.cell? ⟨b, off + k * 4, none⟩ = some (.int .i64 nm) ∧ w'.cell? ⟨b, off + k * 4 + 2, none⟩ = some (.slice fa fs.length fc) ∧ w'.cell? ⟨b, off + k * 4 + 3, none⟩ = some (.slice da ds.length dc)) := fun w' hb2 => ⟨(hAt.keep (hb2.block b hb)).1, (hAt.keep (hb2.block b hb)).2.2.1, (hAt.keep (hb2.block b hb)).2.2.2⟩
      have HB0 : Hid (∀ j, j + 1 = k → ∃ n0, n0 < nm ∧ ∀ w', Below w3.heap.size w3 w' → w'.cell? ⟨b, off + j * 4, none⟩ = some (.int .i64 n0)) := fun j hj => by
        obtain ⟨_, _, hA2, _, _⟩ := hcp j (by omega)
        exact ⟨_, hasc j hj, fun w' hb2 => (hA2.keep (hb2.block b hb)).1⟩
      clear hAt hpk hc hrow hcp hasc hz hnx hnp hnd hdo hfo hfr hdr hks hpok
      have HKN : Hid (0 < k → ∃ (j : Nat) (n0 : Int), j + 1 = k ∧ n0 < nm ∧ ∀ w', Below w3.heap.size w3 w' → w'.cell? ⟨b, off + j * 4, none⟩ = some (.int .i64 n0)) := fun h0 => by
        obtain ⟨n0, h1, h2⟩ := unhide HB0 (k - 1) (by omega)
        exact ⟨k - 1, n0, by omega, h1, h2⟩
      clear HB0
      have HK1 : Hid (∀ w', Below wr.heap.size wr w' → Below w3.heap.size w3 w') := fun w' hw' => (unhide HW).trans (hw'.mono (unhide HW).size)
      by_cases hk0 : 0 < k
      focus
        obtain ⟨j, n0, hj, hn0, hcj⟩ := unhide HKN hk0
        have hgt : decide ((0 : Int) < (k : Int)) = true := decide_eq_true (by omega)
        have ew : IntKind.i64.wrap ((k : Int) - 1) = (j : Int) := by rw [show ((k : Int) - 1) = (j : Int) by omega]; simp [IntKind.wrap, IntKind.bits, IntKind.signed]; omega
        have hj0 : (0 : Int) ≤ (j : Int) := Int.natCast_nonneg _
        have hj1 : (j : Int) < (els.length : Int) := by omega
        have hge : decide (nm ≤ n0) = false := decide_eq_false (by omega)
        have HKC : Hid (∀ w', Below wr.heap.size wr w' → w'.cell? ⟨b, off + j * 4, none⟩ = some (.int .i64 n0) ∧ w'.cell? ⟨b, off + k * 4, none⟩ = some (.int .i64 nm)) := fun w' hw' => ⟨hcj w' (unhide HK1 w' hw'), (unhide hAw w' (unhide HK1 w' hw')).1⟩
        clear hj hn0 hcj
        go_wp2_with fail
        refine wq_region (by kernel_rfl) (by kernel_rfl) ?_
        refine wq_move (d := some 38) rfl rfl (by rfl) rfl ?_
        simp only [Act.put, List.setIfInBounds_toArray, List.set_cons_zero, List.set_cons_succ, List.getElem_toArray, List.getElem_cons_zero, List.getElem_cons_succ]
        refine wq_take (d := some 39) rfl (by rfl) (v := ?_) ?_ ?_
        rotate_left
        · (intro w hCw; have hKw := (unhide HKC) w hCw; go_simp <;> with_reducible rfl)
        simp only [Act.put, List.setIfInBounds_toArray, List.set_cons_zero, List.set_cons_succ]
        refine wq_move (d := some 40) rfl rfl (by rfl) rfl ?_
        simp only [Act.put, List.setIfInBounds_toArray, List.set_cons_zero, List.set_cons_succ, List.getElem_toArray, List.getElem_cons_zero, List.getElem_cons_succ]
        refine wq_move (d := some 41) rfl rfl (by rfl) rfl ?_
        simp only [Act.put, List.setIfInBounds_toArray, List.set_cons_zero, List.set_cons_succ, List.getElem_toArray, List.getElem_cons_zero, List.getElem_cons_succ]
        refine wq_move (d := some 42) rfl rfl (by rfl) rfl ?_
        simp only [Act.put, List.setIfInBounds_toArray, List.set_cons_zero, List.set_cons_succ, List.getElem_toArray, List.getElem_cons_zero, List.getElem_cons_succ]
        refine wq_take (d := some 43) rfl (by rfl) (v := ?_) ?_ ?_
        rotate_left
        · (intro w hCw; have hKw := (unhide HKC) w hCw; go_simp <;> with_reducible rfl)
        simp only [Act.put, List.setIfInBounds_toArray, List.set_cons_zero, List.set_cons_succ]
        refine wq_take (d := some 44) rfl (by rfl) (v := ?_) ?_ ?_
        rotate_left
        · (intro w hCw; have hKw := (unhide HKC) w hCw; go_simp <;> with_reducible rfl)
        simp only [Act.put, List.setIfInBounds_toArray, List.set_cons_zero, List.set_cons_succ]
        refine wq_take (d := some 45) rfl (by rfl) (v := ?_) ?_ ?_
        rotate_left
        · (intro w hCw; have hKw := (unhide HKC) w hCw; go_simp <;> with_reducible rfl)
        simp only [Act.put, List.setIfInBounds_toArray, List.set_cons_zero, List.set_cons_succ]
        refine wq_take (d := some 46) rfl (by rfl) (v := ?_) ?_ ?_
        rotate_left
        · (intro w hCw; have hKw := (unhide HKC) w hCw; go_simp <;> with_reducible rfl)
        simp only [Act.put, List.setIfInBounds_toArray, List.set_cons_zero, List.set_cons_succ]
        refine wq_move (d := some 47) rfl rfl (by rfl) rfl ?_
        simp only [Act.put, List.setIfInBounds_toArray, List.set_cons_zero, List.set_cons_succ, List.getElem_toArray, List.getElem_cons_zero, List.getElem_cons_succ]
        refine wq_move (d := some 48) rfl rfl (by rfl) rfl ?_
        simp only [Act.put, List.setIfInBounds_toArray, List.set_cons_zero, List.set_cons_succ, List.getElem_toArray, List.getElem_cons_zero, List.getElem_cons_succ]
        refine wq_take (d := some 49) rfl (by rfl) (v := ?_) ?_ ?_
        rotate_left
        · (intro w hCw; have hKw := (unhide HKC) w hCw; go_simp <;> with_reducible rfl)
        simp only [Act.put, List.setIfInBounds_toArray, List.set_cons_zero, List.set_cons_succ]
        refine wq_take (d := some 50) rfl (by rfl) (v := ?_) ?_ ?_
        rotate_left
        · (intro w hCw; have hKw := (unhide HKC) w hCw; go_simp <;> with_reducible rfl)
        simp only [Act.put, List.setIfInBounds_toArray, List.set_cons_zero, List.set_cons_succ]
        refine wq_take (d := some 51) rfl (by rfl) (v := ?_) ?_ ?_
        rotate_left
        · (intro w hCw; have hKw := (unhide HKC) w hCw; go_simp <;> with_reducible rfl)
        simp only [Act.put, List.setIfInBounds_toArray, List.set_cons_zero, List.set_cons_succ]
        refine wq_take (d := some 52) rfl (by rfl) (v := ?_) ?_ ?_
        rotate_left
        · (intro w hCw; have hKw := (unhide HKC) w hCw; go_simp <;> with_reducible rfl)
        simp only [Act.put, List.setIfInBounds_toArray, List.set_cons_zero, List.set_cons_succ]
        refine wq_take (d := some 53) rfl (by rfl) (v := ?_) ?_ ?_
        rotate_left
        · (intro w hCw; have hKw := (unhide HKC) w hCw; go_simp <;> with_reducible rfl)
        simp only [Act.put, List.setIfInBounds_toArray, List.set_cons_zero, List.set_cons_succ]
        refine wq_nil ?_
        intro w9 hw9
        clear hgt ew hj0 hj1 hge HKC
      rotate_left
      focus
        have hgt : decide ((0 : Int) < (k : Int)) = false := decide_eq_false (by omega)
        have HKC : Hid (∀ w', Below wr.heap.size wr w' → True) := fun _ _ => trivial
        go_wp2_with fail
        refine wq_region (by kernel_rfl) (by kernel_rfl) ?_
        refine wq_move (d := some 38) rfl rfl (by rfl) rfl ?_
        simp only [Act.put, List.setIfInBounds_toArray, List.set_cons_zero, List.set_cons_succ, List.getElem_toArray, List.getElem_cons_zero, List.getElem_cons_succ]
        refine wq_take (d := some 39) rfl (by rfl) (v := ?_) ?_ ?_
        rotate_left
        · (intro w hCw; have hKw := (unhide HKC) w hCw; go_simp <;> with_reducible rfl)
        simp only [Act.put, List.setIfInBounds_toArray, List.set_cons_zero, List.set_cons_succ]
        refine wq_move (d := some 40) rfl rfl (by rfl) rfl ?_
        simp only [Act.put, List.setIfInBounds_toArray, List.set_cons_zero, List.set_cons_succ, List.getElem_toArray, List.getElem_cons_zero, List.getElem_cons_succ]
        refine wq_skip (d := some 41) rfl (by rfl) ?_
        simp only [Act.put, List.setIfInBounds_toArray, List.set_cons_zero, List.set_cons_succ]
        refine wq_skip (d := some 42) rfl (by rfl) ?_
        simp only [Act.put, List.setIfInBounds_toArray, List.set_cons_zero, List.set_cons_succ]
        refine wq_skip (d := some 43) rfl (by rfl) ?_
        simp only [Act.put, List.setIfInBounds_toArray, List.set_cons_zero, List.set_cons_succ]
        refine wq_skip (d := some 44) rfl (by rfl) ?_
        simp only [Act.put, List.setIfInBounds_toArray, List.set_cons_zero, List.set_cons_succ]
        refine wq_skip (d := some 45) rfl (by rfl) ?_
        simp only [Act.put, List.setIfInBounds_toArray, List.set_cons_zero, List.set_cons_succ]
        refine wq_skip (d := some 46) rfl (by rfl) ?_
        simp only [Act.put, List.setIfInBounds_toArray, List.set_cons_zero, List.set_cons_succ]
        refine wq_skip (d := some 47) rfl (by rfl) ?_
        simp only [Act.put, List.setIfInBounds_toArray, List.set_cons_zero, List.set_cons_succ]
        refine wq_skip (d := some 48) rfl (by rfl) ?_
        simp only [Act.put, List.setIfInBounds_toArray, List.set_cons_zero, List.set_cons_succ]
        refine wq_skip (d := some 49) rfl (by rfl) ?_
        simp only [Act.put, List.setIfInBounds_toArray, List.set_cons_zero, List.set_cons_succ]
        refine wq_skip (d := some 50) rfl (by rfl) ?_
        simp only [Act.put, List.setIfInBounds_toArray, List.set_cons_zero, List.set_cons_succ]
        refine wq_skip (d := some 51) rfl (by rfl) ?_
        simp only [Act.put, List.setIfInBounds_toArray, List.set_cons_zero, List.set_cons_succ]
        refine wq_skip (d := some 52) rfl (by rfl) ?_
        simp only [Act.put, List.setIfInBounds_toArray, List.set_cons_zero, List.set_cons_succ]
        refine wq_take (d := some 53) rfl (by rfl) (v := ?_) ?_ ?_
        rotate_left
        · (intro w hCw; have hKw := (unhide HKC) w hCw; go_simp <;> with_reducible rfl)
        simp only [Act.put, List.setIfInBounds_toArray, List.set_cons_zero, List.set_cons_succ]
        refine wq_nil ?_
        intro w9 hw9
        clear hgt HKC
      all_goals
        have hw10 := unhide HK1 w9 hw9
        have HI9 := hide ((unhide HI).later hw9)
        have HW9 := hide hw10
        clear hw9 hw10 hk0 HK1 HI HW HKN
        go_wp2_with fail
        go_loopw [7] (fun jv w' => ∃ m : Nat, m ≤ ds.length ∧ jv = .int .i64 m ∧ IntB w' w3.heap.size U ∧ Below w3.heap.size w3 w') (fun jv _ => ds.length - (intOf jv).toNat)
        case atStart => exact ⟨0, Nat.zero_le _, rfl, unhide HI9, unhide HW9⟩
        case round =>
          clear HI9 HW9
          clear w9
          obtain ⟨m, hm, rfl, hI, hw⟩ := hrel
          have HI := hide hI
          have HW := hide hw
          obtain ⟨c0, c2, c3⟩ := unhide hAw wr hw
          clear hI hw
          by_cases hlt2 : m < ds.length
          · obtain ⟨db, dof, hda, hdb, _, hdc⟩ := unhide HDR (by omega)
            subst hda
            obtain ⟨d0, d1⟩ := hdc m hlt2
            have HD1 : Hid (∀ w', Below w3.heap.size w3 w' → w'.cell? ⟨db, dof + m * 2 + 1, none⟩ = some (.int .i64 (Pk.snd ds m))) := fun w' hb2 => by rw [hb2.cell hdb]; exact d1
            rw [← (unhide HW).cell hdb] at d0
            have hj0 : (0 : Int) ≤ (m : Int) := Int.natCast_nonneg _
            have hj1 : (m : Int) < (ds.length : Int) := by omega
            have er2 : IntKind.i64.wrap ((m : Int) + 1) = (m : Int) + 1 := by simp [IntKind.wrap, IntKind.bits, IntKind.signed]; omega
            have hbd := (unhide HDO m hlt2).1
            have CN := hide (implStoreNewest_any wr _ l (Pk.fst ds m) ((unhide I3).later (unhide HW)) (by omega) (by omega))
            have hN := unhide HND _ (Ix.pair_mem hlt2).1
            dsimp only at hN
            generalize Ix.newA l (Pk.fst ds m) = an at *
            generalize Pk.fst ds m = x at *
            generalize Pk.snd ds m = y at *
            obtain ⟨⟨n5, v5, f5, d5⟩, bo⟩ := an
            dsimp only at hN
            obtain ⟨hbo, hge⟩ := hN
            subst hbo
            have hlt5 : decide (v5 < y) = false := decide_eq_false (by omega)
            clear hdc d1 hge hbd
            go_wp2_with fail
            refine (unhide CN).mono ?_
            rintro e w5 ⟨u5, rfl, ⟨fv5, dv5, rfl, ho5⟩, b5⟩
            dsimp only
            have b6 := b5.trans ((below1 w5 (.cells #[.int .i64 n5, .int .i64 v5, fv5, dv5] 30)).mono b5.size)
            have HY6 := hide (heap_alloc_new w5 (.cells #[.int .i64 n5, .int .i64 v5, fv5, dv5] 30))
            have HI6 := hide ((unhide HI).later b6)
            have HW6 := hide ((unhide HW).trans (b6.mono (unhide HW).size))
            obtain ⟨fa5, fc5, da5, dc5, h1, h2⟩ := ho5.forms
            subst h1 h2
            clear ho5 b5 b6 CN c0 c2 c3 d0 HI HW
            go_wp2_with fail
            generalize hYe : w5.heap.size = Y at *
            clear hYe
            generalize w5.alloc _ = W5 at *
            clear w5
            have HKC : Hid (∀ w', Below W5.heap.size W5 w' → w'.cell? ⟨Y, 1, none⟩ = some (.int .i64 v5) ∧ w'.cell? ⟨b, off + k * 4 + 3, none⟩ = some (.slice (some ⟨db, dof, none⟩) ds.length dc) ∧ w'.cell? ⟨db, dof + m * 2 + 1, none⟩ = some (.int .i64 y)) := fun w' hw' => by
              have hB := (unhide HW6).trans (hw'.mono (unhide HW6).size)
              exact ⟨cellOf ((hw'.block _ (heapLt (unhide HY6))).trans (unhide HY6)) 1, (unhide hAw w' hB).2.2, unhide HD1 w' hB⟩
            refine wq_region (by kernel_rfl) (by kernel_rfl) ?_
            refine wq_move (d := some 78) rfl rfl (by rfl) rfl ?_
            simp only [Act.put, List.setIfInBounds_toArray, List.set_cons_zero, List.set_cons_succ, List.getElem_toArray, List.getElem_cons_zero, List.getElem_cons_succ]
            refine wq_take (d := some 79) rfl (by rfl) (v := ?_) ?_ ?_
            rotate_left
            · (intro w hCw; have hKw := (unhide HKC) w hCw; go_simp <;> with_reducible rfl)
            simp only [Act.put, List.setIfInBounds_toArray, List.set_cons_zero, List.set_cons_succ]
            refine wq_move (d := some 80) rfl rfl (by rfl) rfl ?_
            simp only [Act.put, List.setIfInBounds_toArray, List.set_cons_zero, List.set_cons_succ, List.getElem_toArray, List.getElem_cons_zero, List.getElem_cons_succ]
            refine wq_take (d := some 81) rfl (by rfl) (v := ?_) ?_ ?_
            rotate_left
            · (intro w hCw; have hKw := (unhide HKC) w hCw; go_simp <;> with_reducible rfl)
            simp only [Act.put, List.setIfInBounds_toArray, List.set_cons_zero, List.set_cons_succ]
            refine wq_take (d := some 82) rfl (by rfl) (v := ?_) ?_ ?_
            rotate_left
            · (intro w hCw; have hKw := (unhide HKC) w hCw; go_simp <;> with_reducible rfl)
            simp only [Act.put, List.setIfInBounds_toArray, List.set_cons_zero, List.set_cons_succ]
            refine wq_move (d := some 83) rfl rfl (by rfl) rfl ?_
            simp only [Act.put, List.setIfInBounds_toArray, List.set_cons_zero, List.set_cons_succ, List.getElem_toArray, List.getElem_cons_zero, List.getElem_cons_succ]
            refine wq_move (d := some 84) rfl rfl (by rfl) rfl ?_
            simp only [Act.put, List.setIfInBounds_toArray, List.set_cons_zero, List.set_cons_succ, List.getElem_toArray, List.getElem_cons_zero, List.getElem_cons_succ]
            refine wq_take (d := some 85) rfl (by rfl) (v := ?_) ?_ ?_
            rotate_left
            · (intro w hCw; have hKw := (unhide HKC) w hCw; go_simp <;> with_reducible rfl)
            simp only [Act.put, List.setIfInBounds_toArray, List.set_cons_zero, List.set_cons_succ]
            refine wq_take (d := some 86) rfl (by rfl) (v := ?_) ?_ ?_
            rotate_left
            · (intro w hCw; have hKw := (unhide HKC) w hCw; go_simp <;> with_reducible rfl)
            simp only [Act.put, List.setIfInBounds_toArray, List.set_cons_zero, List.set_cons_succ]
            refine wq_take (d := some 87) rfl (by rfl) (v := ?_) ?_ ?_
            rotate_left
            · (intro w hCw; have hKw := (unhide HKC) w hCw; go_simp <;> with_reducible rfl)
            simp only [Act.put, List.setIfInBounds_toArray, List.set_cons_zero, List.set_cons_succ]
            refine wq_move (d := some 88) rfl rfl (by rfl) rfl ?_
            simp only [Act.put, List.setIfInBounds_toArray, List.set_cons_zero, List.set_cons_succ, List.getElem_toArray, List.getElem_cons_zero, List.getElem_cons_succ]
            refine wq_take (d := some 89) rfl (by rfl) (v := ?_) ?_ ?_
            rotate_left
            · (intro w hCw; have hKw := (unhide HKC) w hCw; go_simp <;> with_reducible rfl)
            simp only [Act.put, List.setIfInBounds_toArray, List.set_cons_zero, List.set_cons_succ]
            refine wq_take (d := some 90) rfl (by rfl) (v := ?_) ?_ ?_
            rotate_left
            · (intro w hCw; have hKw := (unhide HKC) w hCw; go_simp <;> with_reducible rfl)
            simp only [Act.put, List.setIfInBounds_toArray, List.set_cons_zero, List.set_cons_succ]
            refine wq_take (d := some 91) rfl (by rfl) (v := ?_) ?_ ?_
            rotate_left
            · (intro w hCw; have hKw := (unhide HKC) w hCw; go_simp <;> with_reducible rfl)
            simp only [Act.put, List.setIfInBounds_toArray, List.set_cons_zero, List.set_cons_succ]
            refine wq_take (d := some 92) rfl (by rfl) (v := ?_) ?_ ?_
            rotate_left
            · (intro w hCw; have hKw := (unhide HKC) w hCw; go_simp <;> with_reducible rfl)
            simp only [Act.put, List.setIfInBounds_toArray, List.set_cons_zero, List.set_cons_succ]
            refine wq_take (d := some 93) rfl (by rfl) (v := ?_) ?_ ?_
            rotate_left
            · (intro w hCw; have hKw := (unhide HKC) w hCw; go_simp <;> with_reducible rfl)
            simp only [Act.put, List.setIfInBounds_toArray, List.set_cons_zero, List.set_cons_succ]
            refine wq_nil ?_
            intro w9 hw9
            have HI9 := hide ((unhide HI6).later hw9)
            have HW9 := hide ((unhide HW6).trans (hw9.mono (unhide HW6).size))
            clear hw9 HKC HI6 HW6 HY6 hlt5 HD1
            go_wp2
            go_roundw
            case rel => exact ⟨m + 1, by omega, by go_num, unhide HI9, unhide HW9⟩
            case measure => simp [intOf]; omega
          · obtain rfl : m = ds.length := by omega
            clear hlt2 hm
            go_wp2_with fail
            clear c0 c2 c3
            go_loopw [10] (fun jv w' => ∃ (m : Nat) (U : List Int), m ≤ fs.length ∧ jv = .int .i64 m ∧ Ix.usedOk l k (fs.take m) U ∧ IntB w' w3.heap.size U ∧ Below w3.heap.size w3 w') (fun jv _ => fs.length - (intOf jv).toNat)
            case atStart => exact ⟨0, U, Nat.zero_le _, rfl, unhide HU, unhide HI, unhide HW⟩
            case round =>
              clear HU HI HW

              obtain ⟨m, U, hm, rfl, hU, hI, hw⟩ := hrel
              have HU := hide hU
              have HI := hide hI
              have HW := hide hw
              obtain ⟨c0, c2, c3⟩ := unhide hAw wr hw
              clear hU hI hw
              by_cases hlt3 : m < fs.length
              · obtain ⟨fb, fof, hfa, hfb, _, hfc⟩ := unhide HFR (by omega)
                subst hfa
                obtain ⟨d0, d1⟩ := hfc m hlt3
                rw [← (unhide HW).cell hfb] at d0
                have hj0 : (0 : Int) ≤ (m : Int) := Int.natCast_nonneg _
                have hj1 : (m : Int) < (fs.length : Int) := by omega
                have er2 : IntKind.i64.wrap ((m : Int) + 1) = (m : Int) + 1 := by simp [IntKind.wrap, IntKind.bits, IntKind.signed]; omega
                have hbd := (unhide HFO m hlt3).1
                obtain ⟨xn, hxn⟩ := Int.eq_ofNat_of_zero_le hbd.1
                rw [hxn] at d0 hbd
                have hx6 : xn < 6 := by omega
                have hu0 := unhide HZ m xn U (unhide HU) hlt3 hxn hx6
                have HU2 := hide (unhide HNX m xn U (unhide HU) hlt3 hxn hx6)
                have hx0 : (0 : Int) ≤ (xn : Int) := Int.natCast_nonneg _
                have hx1 : (xn : Int) < 6 := by omega
                obtain ⟨q0, q1⟩ := (unhide HI).cellD (i := xn) (by rw [(unhide HU).1]; exact hx6)
                rw [hu0] at q0
                have HI2 := hide ((unhide HI).set (i := xn) (x := 1))
                have HW2 := hide (below_set (o := xn) (u := .int .i64 1) (unhide HW) (Nat.le_refl _))
                clear hfc d1 hxn hu0 HI HU
                go_wp2
                go_roundw
                case rel => exact ⟨m + 1, _, by omega, by go_num, unhide HU2, unhide HI2, unhide HW2⟩
                case measure => simp [intOf]; omega
              · obtain rfl : m = fs.length := by omega
                have hU2 : Ix.usedOk l (k + 1) [] U := unhide HNP U (by have := unhide HU; rwa [List.take_length] at this)
                have HU2 := hide hU2
                clear hlt3 hU2
                go_wp2
                go_roundw
                case rel => exact ⟨k + 1, U, by omega, by go_num, unhide HU2, unhide HI, unhide HW⟩
                case measure => simp [intOf]; omega
    · obtain rfl : k = l.length := by omega
      have hnil : Pks (fun _ => True) wr (.slice none 0 0) [] := ⟨none, 0, rfl, by simp, fun h => by simp at h⟩
      have CN := hide (implPlanOk_any wr (.slice none 0 0) [] hnil (fun _ _ _ => Nat.zero_le _))
      have hq : Ix.planOk [] = true := rfl
      rw [hq] at CN
      have HB := hide ((unhide B3).trans ((unhide HW).mono hG))
      clear hlt hnil hrow hq
      go_wp2_with fail
      refine (unhide CN).mono ?_
      rintro e w9 ⟨rfl, b9⟩
      have B9 := hide ((unhide HB).trans (b9.mono (unhide HB).size))
      clear b9
      go_wp2
      go_ret
      exact ⟨rfl, unhide B9⟩
end Go.Proofs.YtlidgoomlllonaaDoor
