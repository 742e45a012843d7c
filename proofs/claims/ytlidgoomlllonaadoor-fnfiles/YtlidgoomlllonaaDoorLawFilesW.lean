import Derived.Test.YtlidgoomlllonaaDoorMixL
import Derived.Test.YtlidgoomlllonaaDoorFilesMath
import Derived.Test.YtlidgoomlllonaaDoorSFilesW
import Derived.Test.YtlidgoomlllonaaDoorLuTW
import Derived.Test.YtlidgoomlllonaaDoorMixC
/- The walk of FnFiles: it returns true and leaves what was there; for every row of bytes. -/
namespace Go.Proofs.YtlidgoomlllonaaDoor
open Go.RowKit

attribute [local go_sem ↓] Go.wp_at_zero Go.wp_at_succ

theorem Ix.planFiles_len6 (l : List Ix.Pg) : (Ix.planFiles l).length ≤ 6 := by
  unfold Ix.planFiles
  split
  · rw [Ix.filesTo_len l l.length (Nat.le_refl _)]; exact Nat.le_refl _
  · simp
theorem Ky.nth_nat {a : List Int} {x y : Int} {n : Nat} (h : a.getD x.toNat 0 = y) (hx : x = (n : Int)) : Ky.nth a n = y := by
  subst hx
  exact h

set_option maxHeartbeats 8000000 in
set_option maxRecDepth 100000 in
theorem files_walk (w : World) (a : Option Addr) (len cap : Nat) (h : Bytes w a len cap) :
    Calls Tryd.prog 5 #[.slice a len cap] w fun e w' => e = .returned (.bool true) ∧ Below w.heap.size w w' := by
  by_cases hbig : (1048576 : Int) < (len : Int)
  · go_enter Tryd.func5, Tryd.ntmps5
    go_wp2
    go_ret
    exact ⟨rfl, Below.refl _ _⟩
  have CD := hide (drawPlanFiles_any w a len cap h)
  clear h
  go_enter Tryd.func5, Tryd.ntmps5
  go_wp2_with fail
  refine (unhide CD).mono ?_
  rintro e w1 ⟨v, els, rfl, hpo, hms, b1⟩
  obtain ⟨ma, mc, hmv⟩ := own_formS hpo.own
  subst hmv
  have hrm := own_roomP hpo.own
  have I1 := hide (POwn.pks (N := fun _ => True) (hpo.weak (fun _ _ => trivial)) (fun _ _ => trivial) (by omega))
  have B1 := hide b1
  clear hpo b1 CD
  obtain ⟨l, hl⟩ : ∃ l : List Ix.Pg, l = els.map (·.1) := ⟨_, rfl⟩
  have hll : l.length = els.length := by rw [hl, List.length_map]
  rw [← hl] at I1
  have HR : Hid (∀ a c, Value.slice ma els.length mc = .slice a l.length c → l.length ≤ c) := fun _ _ e => by injection e with _ _ e; omega
  clear hl
  have HLL := hide hll
  clear hll
  have hln := Ix.planFiles_len6 l
  have HFL := hide (fun h => Ix.files_law (l := l) h)
  have CI := hide (implPlanFiles_any w1 _ l (unhide I1) (unhide HR))
  have CS := hide (fun (W : World) hW => specPlanFiles_any (N := fun _ => True) W (.slice ma els.length mc) l hW)
  generalize Ix.planFiles l = PF at *
  go_wp2_with fail
  refine (unhide CI).mono ?_
  rintro e w2 ⟨gv, rfl, ho2, b2⟩
  have G2 := hide (ho2.wide (by omega))
  obtain ⟨ga, gc, hgv⟩ := own_formS ho2
  subst hgv
  have I2 := hide ((unhide I1).later b2)
  have B2 := hide ((unhide B1).trans (b2.mono (unhide B1).size))
  clear ho2 b2 I1 B1 CI
  go_wp2_with fail
  refine (unhide CS _ (unhide I2)).mono ?_
  rintro e w3 ⟨sv, rfl, ho3, b3⟩
  have S3 := hide (ho3.wide (by omega))
  obtain ⟨sa, sc, hsv⟩ := own_formS ho3
  subst hsv
  have I3 := hide ((unhide I2).later b3)
  have G3 := hide ((unhide G2).later b3)
  have B3 := hide ((unhide B2).trans (b3.mono (unhide B2).size))
  clear ho3 b3 I2 G2 B2
  go_wp2_with fail
  refine (luInts_same _ _ _ PF (unhide G3) (unhide S3)).mono ?_
  rintro e w4 ⟨rfl, b4⟩
  have I4 := hide ((unhide I3).later b4)
  have G4 := hide ((unhide G3).later b4)
  have B4 := hide ((unhide B3).trans (b4.mono (unhide B3).size))
  clear b4 I3 G3 B3 S3
  have CO := hide (specPlanOk_any _ (.slice ma els.length mc) l (unhide I4))
  obtain ⟨ok, hok⟩ : ∃ ok, ok = Ix.planOk l := ⟨_, rfl⟩
  have HKO := hide hok
  rw [← hok] at CO
  clear hok
  go_wp2_with fail
  refine (unhide CO).mono ?_
  rintro e w5 ⟨rfl, b5⟩
  have I5 := hide ((unhide I4).later b5)
  have G5 := hide ((unhide G4).later b5)
  have B5 := hide ((unhide B4).trans (b5.mono (unhide B4).size))
  clear b5 I4 G4 B4 CO
  cases ok
  · go_wp2_with fail
    refine (unhide CS _ (unhide I5)).mono ?_
    rintro e w6 ⟨sv, rfl, ho6, b6⟩
    have S6 := hide (ho6.wide (by omega))
    obtain ⟨sa, sc, hsv⟩ := own_formS ho6
    subst hsv
    have G6 := hide ((unhide G5).later b6)
    have B6 := hide ((unhide B5).trans (b6.mono (unhide B5).size))
    clear ho6 b6 I5 G5 B5
    go_wp2_with fail
    refine (luInts_same _ _ _ PF (unhide G6) (unhide S6)).mono ?_
    rintro e w7 ⟨rfl, b7⟩
    have B7 := hide ((unhide B6).trans (b7.mono (unhide B6).size))
    clear b7
    go_wp2
    go_ret
    exact ⟨rfl, unhide B7⟩
  have HOK := hide (unhide HKO).symm
  obtain ⟨hl6, hat6, hct6⟩ := unhide HFL (unhide HOK)
  have HAT := hide hat6
  have HCT := hide hct6
  clear CS HKO HFL hat6 hct6 HR
  obtain ⟨pa, pc, hmv, hml, hrow⟩ := unhide I5
  injection hmv with hmv1 hmv2 hmv3
  subst hmv1 hmv3
  clear hmv2
  obtain ⟨fga, fgc, hgv, _, hgr⟩ := unhide G5
  injection hgv with hgv1 hgv2 hgv3
  subst hgv1 hgv3
  clear hgv2
  obtain ⟨gb, gof, hga, hgb, hgc⟩ := hgr (by omega)
  subst hga
  have HGC := hide hgc
  clear hgr hgc
  have HL6 := hide hl6
  obtain ⟨P6, hP6⟩ : ∃ n : Nat, n = PF.length := ⟨_, rfl⟩
  have hP66 : P6 = 6 := by rw [hP6]; exact hl6
  rw [← hP6]
  subst hP66
  have HP6 := hide hP6
  clear hP6 hl6
  go_wp2_with fail
  go_loopw [5, 6] (fun nv iv w' => ∃ k : Nat, k ≤ l.length ∧ iv = .int .i64 k ∧ nv = .int .i64 (Ix.nF l k) ∧ Below w5.heap.size w5 w') (fun _ iv _ => l.length - (intOf iv).toNat)
  case atStart => exact ⟨0, Nat.zero_le _, rfl, rfl, Below.refl _ _⟩
  case round =>
    obtain ⟨k, hk, rfl, rfl, hw⟩ := hrel
    have HW := hide hw
    have hle : l.length = els.length := unhide HLL
    clear hw
    have hks := Ix.planOk_pkgs (unhide HOK)
    have hnf := Ix.nF_le hks k hk
    by_cases hlt : k < l.length
    · obtain ⟨b, off, hpa, hb, _, hc⟩ := hrow (by omega)
      subst hpa
      obtain ⟨fv, dv, hAt, hf, hd⟩ := hc k hlt
      have hpok := Ix.pkgs_pOk hks hlt
      have hlens := Ix.pOk_lens hpok
      have hfo := Ix.pOk_file hpok
      have hat := fun m hm => unhide HAT k m hlt hm
      have hns := Ix.nF_succ hlt
      obtain ⟨nm, vr, fs, ds, hpk⟩ : ∃ nm vr fs ds, Ix.pg l k = (nm, vr, fs, ds) := ⟨_, _, _, _, rfl⟩
      rw [hpk] at hAt hf hd hlens hfo hat hns
      dsimp only at hf hd hlens hfo hat hns
      obtain ⟨hlf, hld⟩ := hlens
      obtain ⟨fa, fc, hfv, _, hfr⟩ := hf
      subst hfv
      have HFO := hide hfo
      have HFR := hide hfr
      have HAT2 := hide hat
      have HNS := hide hns
      have hi0 : (0 : Int) ≤ (k : Int) := Int.natCast_nonneg _
      have hi1 : (k : Int) < (els.length : Int) := by omega
      have er : IntKind.i64.wrap ((k : Int) + 1) = (k : Int) + 1 := by simp [IntKind.wrap, IntKind.bits, IntKind.signed]; omega
      have hAw : Hid (∀ w', Below w5.heap.size w5 w' → w'.cell? ⟨b, off + k * 4 + 2, none⟩ = some (.slice fa fs.length fc)) := fun w' hb2 => (hAt.keep (hb2.block b hb)).2.2.1
      clear hAt hpk hc hrow hd hat hns hfo hfr hks hpok
      generalize Ix.nF l k = N0 at *
      go_wp2_with fail
      go_loopw [5, 7] (fun nv jv w' => ∃ m : Nat, m ≤ fs.length ∧ jv = .int .i64 m ∧ nv = .int .i64 ((N0 : Int) + (m : Int)) ∧ Below w5.heap.size w5 w') (fun _ jv _ => fs.length - (intOf jv).toNat)
      case atStart => exact ⟨0, Nat.zero_le _, rfl, by simp, unhide HW⟩
      case round =>
        clear HW
        obtain ⟨m, hm, rfl, rfl, hw⟩ := hrel
        have HW := hide hw
        have c2 := unhide hAw wr hw
        clear hw
        by_cases hlt2 : m < fs.length
        · obtain ⟨fb, fof, hfa, hfb, _, hfc⟩ := unhide HFR (by omega)
          subst hfa
          obtain ⟨d0, d1⟩ := hfc m hlt2
          have hj0 : (0 : Int) ≤ (m : Int) := Int.natCast_nonneg _
          have hj1 : (m : Int) < (fs.length : Int) := by omega
          have er2 : IntKind.i64.wrap ((m : Int) + 1) = (m : Int) + 1 := by simp [IntKind.wrap, IntKind.bits, IntKind.signed]; omega
          have er3 : IntKind.i64.wrap ((N0 : Int) + (m : Int) + 1) = (N0 : Int) + (m : Int) + 1 := by simp [IntKind.wrap, IntKind.bits, IntKind.signed]; omega
          have hbd := (unhide HFO m hlt2).1
          have ha6 := unhide HAT2 m hlt2
          obtain ⟨xn, hxn⟩ := Int.eq_ofNat_of_zero_le hbd.1
          have ha7 := Ky.nth_nat ha6 hxn
          rw [hxn] at d0 hbd
          have hx6 : xn < 6 := by omega
          have hx0 : (0 : Int) ≤ (xn : Int) := Int.natCast_nonneg _
          have hx1 : (xn : Int) < 6 := by omega
          have q0 := unhide HGC xn (by have := unhide HP6; omega)
          rw [ha7] at q0
          clear hfc ha6 ha7 hxn
          generalize Pk.snd fs m = y at *
          have hyy : (y != y) = false := by simp
          have HKC : Hid (∀ w', Below wr.heap.size wr w' → w'.cell? ⟨b, off + k * 4 + 2, none⟩ = some (.slice (some ⟨fb, fof, none⟩) fs.length fc) ∧ (w'.cell? ⟨fb, fof + m * 2, none⟩ = some (.int .i64 (xn : Int)) ∧ w'.cell? ⟨fb, fof + m * 2 + 1, none⟩ = some (.int .i64 y)) ∧ w'.cell? ⟨gb, gof + xn, none⟩ = some (.int .i64 y)) := fun w' hw' => by
            have hB := (unhide HW).trans (hw'.mono (unhide HW).size)
            exact ⟨unhide hAw w' hB, ⟨by rw [hB.cell hfb]; exact d0, by rw [hB.cell hfb]; exact d1⟩, by rw [hB.cell hgb]; exact q0⟩
          clear d0 d1 q0
          go_wp2_with fail
          refine wq_region (by kernel_rfl) (by kernel_rfl) ?_
          refine wq_move (d := some 47) rfl rfl (by rfl) rfl ?_
          simp only [Act.put, List.setIfInBounds_toArray, List.set_cons_zero, List.set_cons_succ, List.getElem_toArray, List.getElem_cons_zero, List.getElem_cons_succ]
          refine wq_move (d := some 48) rfl rfl (by rfl) rfl ?_
          simp only [Act.put, List.setIfInBounds_toArray, List.set_cons_zero, List.set_cons_succ, List.getElem_toArray, List.getElem_cons_zero, List.getElem_cons_succ]
          refine wq_move (d := some 49) rfl rfl (by rfl) rfl ?_
          simp only [Act.put, List.setIfInBounds_toArray, List.set_cons_zero, List.set_cons_succ, List.getElem_toArray, List.getElem_cons_zero, List.getElem_cons_succ]
          refine wq_take (d := some 50) rfl (by rfl) (v := ?_) ?_ ?_
          rotate_left
          · (intro w hCw; have hKw := (unhide HKC) w hCw; go_simp <;> with_reducible rfl)
          simp only [Act.put, List.setIfInBounds_toArray, List.set_cons_zero, List.set_cons_succ]
          refine wq_take (d := some 51) rfl (by rfl) (v := ?_) ?_ ?_
          rotate_left
          · (intro w hCw; have hKw := (unhide HKC) w hCw; go_simp <;> with_reducible rfl)
          simp only [Act.put, List.setIfInBounds_toArray, List.set_cons_zero, List.set_cons_succ]
          refine wq_take (d := some 52) rfl (by rfl) (v := ?_) ?_ ?_
          rotate_left
          · (intro w hCw; have hKw := (unhide HKC) w hCw; go_simp <;> with_reducible rfl)
          simp only [Act.put, List.setIfInBounds_toArray, List.set_cons_zero, List.set_cons_succ]
          refine wq_move (d := some 53) rfl rfl (by rfl) rfl ?_
          simp only [Act.put, List.setIfInBounds_toArray, List.set_cons_zero, List.set_cons_succ, List.getElem_toArray, List.getElem_cons_zero, List.getElem_cons_succ]
          refine wq_take (d := some 54) rfl (by rfl) (v := ?_) ?_ ?_
          rotate_left
          · (intro w hCw; have hKw := (unhide HKC) w hCw; go_simp <;> with_reducible rfl)
          simp only [Act.put, List.setIfInBounds_toArray, List.set_cons_zero, List.set_cons_succ]
          refine wq_take (d := some 55) rfl (by rfl) (v := ?_) ?_ ?_
          rotate_left
          · (intro w hCw; have hKw := (unhide HKC) w hCw; go_simp <;> with_reducible rfl)
          simp only [Act.put, List.setIfInBounds_toArray, List.set_cons_zero, List.set_cons_succ]
          refine wq_take (d := some 56) rfl (by rfl) (v := ?_) ?_ ?_
          rotate_left
          · (intro w hCw; have hKw := (unhide HKC) w hCw; go_simp <;> with_reducible rfl)
          simp only [Act.put, List.setIfInBounds_toArray, List.set_cons_zero, List.set_cons_succ]
          refine wq_take (d := some 57) rfl (by rfl) (v := ?_) ?_ ?_
          rotate_left
          · (intro w hCw; have hKw := (unhide HKC) w hCw; go_simp <;> with_reducible rfl)
          simp only [Act.put, List.setIfInBounds_toArray, List.set_cons_zero, List.set_cons_succ]
          refine wq_take (d := some 58) rfl (by rfl) (v := ?_) ?_ ?_
          rotate_left
          · (intro w hCw; have hKw := (unhide HKC) w hCw; go_simp <;> with_reducible rfl)
          simp only [Act.put, List.setIfInBounds_toArray, List.set_cons_zero, List.set_cons_succ]
          refine wq_move (d := some 59) rfl rfl (by rfl) rfl ?_
          simp only [Act.put, List.setIfInBounds_toArray, List.set_cons_zero, List.set_cons_succ, List.getElem_toArray, List.getElem_cons_zero, List.getElem_cons_succ]
          refine wq_move (d := some 60) rfl rfl (by rfl) rfl ?_
          simp only [Act.put, List.setIfInBounds_toArray, List.set_cons_zero, List.set_cons_succ, List.getElem_toArray, List.getElem_cons_zero, List.getElem_cons_succ]
          refine wq_take (d := some 61) rfl (by rfl) (v := ?_) ?_ ?_
          rotate_left
          · (intro w hCw; have hKw := (unhide HKC) w hCw; go_simp <;> with_reducible rfl)
          simp only [Act.put, List.setIfInBounds_toArray, List.set_cons_zero, List.set_cons_succ]
          refine wq_take (d := some 62) rfl (by rfl) (v := ?_) ?_ ?_
          rotate_left
          · (intro w hCw; have hKw := (unhide HKC) w hCw; go_simp <;> with_reducible rfl)
          simp only [Act.put, List.setIfInBounds_toArray, List.set_cons_zero, List.set_cons_succ]
          refine wq_take (d := some 63) rfl (by rfl) (v := ?_) ?_ ?_
          rotate_left
          · (intro w hCw; have hKw := (unhide HKC) w hCw; go_simp <;> with_reducible rfl)
          simp only [Act.put, List.setIfInBounds_toArray, List.set_cons_zero, List.set_cons_succ]
          refine wq_move (d := some 64) rfl rfl (by rfl) rfl ?_
          simp only [Act.put, List.setIfInBounds_toArray, List.set_cons_zero, List.set_cons_succ, List.getElem_toArray, List.getElem_cons_zero, List.getElem_cons_succ]
          refine wq_take (d := some 65) rfl (by rfl) (v := ?_) ?_ ?_
          rotate_left
          · (intro w hCw; have hKw := (unhide HKC) w hCw; go_simp <;> with_reducible rfl)
          simp only [Act.put, List.setIfInBounds_toArray, List.set_cons_zero, List.set_cons_succ]
          refine wq_take (d := some 66) rfl (by rfl) (v := ?_) ?_ ?_
          rotate_left
          · (intro w hCw; have hKw := (unhide HKC) w hCw; go_simp <;> with_reducible rfl)
          simp only [Act.put, List.setIfInBounds_toArray, List.set_cons_zero, List.set_cons_succ]
          refine wq_take (d := some 67) rfl (by rfl) (v := ?_) ?_ ?_
          rotate_left
          · (intro w hCw; have hKw := (unhide HKC) w hCw; go_simp <;> with_reducible rfl)
          simp only [Act.put, List.setIfInBounds_toArray, List.set_cons_zero, List.set_cons_succ]
          refine wq_take (d := some 68) rfl (by rfl) (v := ?_) ?_ ?_
          rotate_left
          · (intro w hCw; have hKw := (unhide HKC) w hCw; go_simp <;> with_reducible rfl)
          simp only [Act.put, List.setIfInBounds_toArray, List.set_cons_zero, List.set_cons_succ]
          refine wq_nil ?_
          intro w9 hw9
          have HW9 := hide ((unhide HW).trans (hw9.mono (unhide HW).size))
          clear hw9 HKC HW c2
          go_wp2
          go_roundw
          case rel => exact ⟨m + 1, by omega, by go_num, by rw [show (N0 : Int) + ((m + 1 : Nat) : Int) = (N0 : Int) + (m : Int) + 1 by omega], unhide HW9⟩
          case measure => simp [intOf]; omega
        · obtain rfl : m = fs.length := by omega
          have en : Hid ((Ix.nF l (k + 1) : Int) = (N0 : Int) + (fs.length : Int)) := by
            show (Ix.nF l (k + 1) : Int) = (N0 : Int) + (fs.length : Int)
            rw [unhide HNS]
            omega
          clear hlt2
          go_wp2
          go_roundw
          case rel => exact ⟨k + 1, by omega, by go_num, by rw [unhide en], unhide HW⟩
          case measure => simp [intOf]; omega
    · obtain rfl : k = l.length := by omega
      clear hlt hrow hks
      have hct := unhide HCT
      have HCT2 := hide hct
      generalize Ix.nF l l.length = N0 at *
      clear hct HCT
      go_wp2_with fail
      go_loopw [8, 9] (fun nv jv w' => ∃ m : Nat, m ≤ 6 ∧ jv = .int .i64 m ∧ nv = .int .i64 (((PF.take m).count (-1) : Nat) : Int) ∧ Below w5.heap.size w5 w') (fun _ jv _ => 6 - (intOf jv).toNat)
      case atStart => exact ⟨0, Nat.zero_le _, rfl, by simp, unhide HW⟩
      case round =>
        clear HW
        obtain ⟨m, hm, rfl, rfl, hw⟩ := hrel
        have HW := hide hw
        clear hw
        by_cases hlt2 : m < 6
        · have q0 := unhide HGC m (by have := unhide HP6; omega)
          rw [← (unhide HW).cell hgb] at q0
          have hj0 : (0 : Int) ≤ (m : Int) := Int.natCast_nonneg _
          have hj1 : (m : Int) < 6 := by omega
          have er2 : IntKind.i64.wrap ((m : Int) + 1) = (m : Int) + 1 := by simp [IntKind.wrap, IntKind.bits, IntKind.signed]; omega
          have hcs : (PF.take (m + 1)).count (-1) = (PF.take m).count (-1) + if Ky.nth PF m = -1 then 1 else 0 := Ix.count_take (by have := unhide HP6; omega)
          have hcl := Ix.count_le PF m
          have er3 : IntKind.i64.wrap ((((PF.take m).count (-1) : Nat) : Int) + 1) = (((PF.take m).count (-1) : Nat) : Int) + 1 := by simp [IntKind.wrap, IntKind.bits, IntKind.signed]; omega
          by_cases hx : Ky.nth PF m = -1
          · rw [if_pos hx] at hcs
            have HCS := hide hcs
            rw [hx] at q0
            clear hx hcs
            generalize (PF.take m).count (-1) = cn at *
            go_wp2
            go_roundw
            case rel => exact ⟨m + 1, by omega, by go_num, by rw [unhide HCS, Int.natCast_add]; rfl, unhide HW⟩
            case measure => simp [intOf]; omega
          · have hxb : (Ky.nth PF m == -1) = false := by simpa using hx
            rw [if_neg hx, Nat.add_zero] at hcs
            have HCS := hide hcs
            clear hx hcs
            generalize (PF.take m).count (-1) = cn at *
            generalize Ky.nth PF m = y at *
            go_wp2
            go_roundw
            case rel => exact ⟨m + 1, by omega, by go_num, by rw [unhide HCS]; rfl, unhide HW⟩
            case measure => simp [intOf]; omega
        · obtain rfl : m = 6 := by omega
          have hct : (PF.take 6).count (-1) + N0 = 6 := by
            have := unhide HCT2
            rwa [List.take_of_length_le (by have := unhide HP6; omega)]
          have HB := hide ((unhide B5).trans ((unhide HW).mono (unhide B5).size))
          clear hlt2
          generalize (PF.take 6).count (-1) = cn at *
          have er4 : IntKind.i64.wrap ((N0 : Int) + (cn : Int)) = 6 := by rw [show (N0 : Int) + (cn : Int) = 6 by omega]; rfl
          clear hct
          go_wp2
          go_ret
          exact ⟨rfl, unhide HB⟩
end Go.Proofs.YtlidgoomlllonaaDoor
