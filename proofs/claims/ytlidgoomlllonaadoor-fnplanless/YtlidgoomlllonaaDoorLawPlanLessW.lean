import Derived.Test.YtlidgoomlllonaaDoorPlanOkDrawW
import Derived.Test.YtlidgoomlllonaaDoorPlanLawMath
import Derived.Test.YtlidgoomlllonaaDoorPlanOkW
import Derived.Test.YtlidgoomlllonaaDoorStoreLessMath
import Derived.Test.YtlidgoomlllonaaDoorCutEW
import Derived.Test.YtlidgoomlllonaaDoorAllW
import Derived.Test.YtlidgoomlllonaaDoorMixF
import Derived.Test.YtlidgoomlllonaaDoorMixC
import Derived.Deep.CutRange
/- The walk of FnPlanLess: it returns true and leaves what was there; for every two rows of bytes. -/
namespace Go.Proofs.YtlidgoomlllonaaDoor
open Go.RowKit

attribute [local go_sem ↓] Go.wp_at_zero Go.wp_at_succ

def Ix.nPart (l : List Ix.Pg) (k i m : Nat) : Bool := (List.range i).any (Ix.neededAt l k) || (decide (i ≠ k) && ((Ix.pg l i).2.2.2.take m).any (fun d => d.1 == (Ix.pg l k).1))
theorem Ix.nPart_zero (l : List Ix.Pg) (k i : Nat) : Ix.nPart l k i 0 = (List.range i).any (Ix.neededAt l k) := by unfold Ix.nPart; simp
theorem Ix.nPart_succ {l : List Ix.Pg} {k i m : Nat} (hm : m < (Ix.pg l i).2.2.2.length) : Ix.nPart l k i (m + 1) = (Ix.nPart l k i m || (decide (i ≠ k) && (Pk.fst (Ix.pg l i).2.2.2 m == (Ix.pg l k).1))) := by
  unfold Ix.nPart
  rw [List.take_add_one, (Ix.pair_mem hm).2, List.any_append]
  cases decide (i ≠ k) <;> simp [Bool.or_assoc]
theorem Ix.nPart_end (l : List Ix.Pg) (k i : Nat) : Ix.nPart l k i (Ix.pg l i).2.2.2.length = (List.range (i + 1)).any (Ix.neededAt l k) := by
  unfold Ix.nPart
  rw [List.take_length, List.range_succ, List.any_append]
  simp [Ix.neededAt]

set_option maxHeartbeats 16000000 in
set_option maxRecDepth 100000 in
theorem planLess_walk (w : World) (a : Option Addr) (len cap : Nat) (a1 : Option Addr) (len1 cap1 : Nat) (h : Bytes w a len cap) (_h1 : Bytes w a1 len1 cap1) :
    Calls Tryd.prog 4 #[.slice a len cap, .slice a1 len1 cap1] w fun e w' => e = .returned (.bool true) ∧ Below w.heap.size w w' := by
  obtain ⟨i0, hI0, hz0, hz1, hz2⟩ := info_parts infoPkg
  by_cases hbig : (1048576 : Int) < (len : Int)
  · go_enter Tryd.func4, Tryd.ntmps4
    go_wp2
    go_ret
    exact ⟨rfl, Below.refl _ _⟩
  have hbig' : decide ((1048576 : Int) < (len : Int)) = false := by simpa using hbig
  by_cases hbig2 : (1048576 : Int) < (len1 : Int)
  · go_enter Tryd.func4, Tryd.ntmps4
    go_wp2
    go_ret
    exact ⟨rfl, Below.refl _ _⟩
  have CD := hide (drawPlanOk_any w a len cap h)
  clear h _h1
  go_enter Tryd.func4, Tryd.ntmps4
  go_wp2_with fail
  refine (unhide CD).mono ?_
  rintro e w1 ⟨v, els, rfl, hpo, hms, b1⟩
  obtain ⟨ma, mc, hmv⟩ := own_formS hpo.own
  subst hmv
  have hrm := own_roomP hpo.own
  have HPO := hide hpo
  have I1 := hide (POwn.pks (N := fun _ => True) (hpo.weak (fun _ _ => trivial)) (fun _ _ => trivial) (by omega))
  have B1 := hide b1
  clear hpo b1 CD
  obtain ⟨l, hl⟩ : ∃ l : List Ix.Pg, l = els.map (·.1) := ⟨_, rfl⟩
  have hll : l.length = els.length := by rw [hl, List.length_map]
  have HL := hide hl
  rw [← hl] at I1
  have HR : Hid (∀ a c, Value.slice ma els.length mc = .slice a l.length c → l.length ≤ c) := fun _ _ e => by injection e with _ _ e; omega
  clear hl
  have HLL := hide hll
  clear hll
  go_wp2_with fail
  refine (implPlanOk_any _ _ l (unhide I1) (unhide HR)).mono ?_
  rintro e w2 ⟨rfl, b2⟩
  have I2 := hide ((unhide I1).later b2)
  have BB2 := hide b2
  clear b2 I1
  have CS := hide (fun (W : World) hW => specPlanOk_any (N := fun _ => True) W (.slice ma els.length mc) l hW)
  obtain ⟨ok, hok⟩ : ∃ ok, ok = Ix.planOk l := ⟨_, rfl⟩
  have HKO := hide hok
  rw [← hok] at CS ⊢
  clear hok
  have hne : (ok != ok) = false := by simp
  have heq : (ok == ok) = true := by simp
  go_wp2_with fail
  refine (unhide CS _ (unhide I2)).mono ?_
  rintro e w3 ⟨rfl, b3⟩
  have I3 := hide ((unhide I2).later b3)
  have BB3 := hide ((unhide BB2).trans (b3.mono (unhide BB2).size))
  clear b3 I2 BB2
  have HEND : Hid (∀ W : World, Below w3.heap.size w3 W → Below w.heap.size w W) := fun W hW => (unhide B1).trans (((unhide BB3).trans (hW.mono (unhide BB3).size)).mono (unhide B1).size)
  cases ok
  · go_wp2_with fail
    refine (unhide CS _ (unhide I3)).mono ?_
    rintro e w4 ⟨rfl, b4⟩
    have B4 := hide (unhide HEND _ b4)
    clear b4
    go_wp2
    go_ret
    exact ⟨rfl, unhide B4⟩
  by_cases hkl : els.length = 0
  · have hkz : ((els.length : Int) == 0) = true := by rw [hkl]; rfl
    have HKL := hide hkl
    clear hkl
    go_wp2_with fail
    refine (unhide CS _ (unhide I3)).mono ?_
    rintro e w4 ⟨rfl, b4⟩
    have B4 := hide (unhide HEND _ b4)
    clear b4
    go_wp2
    go_ret
    exact ⟨rfl, unhide B4⟩
  have HOK := hide (unhide HKO).symm
  clear HKO CS hne heq
  rcases own_shape (unhide HPO).own with ⟨_, h0⟩ | ⟨g, mc', hv, hgB⟩
  · exact absurd h0 hkl
  injection hv with hv1 _ hv2
  subst hv1 hv2
  have hkz : ((els.length : Int) == 0) = false := by rw [beq_eq_false_iff_ne]; omega
  have hkz' : ¬ (els.length : Int) = 0 := by omega
  have hroom : els.length ≤ mc ∧ mc ≤ 9223372036854775807 := by
    obtain ⟨_, h2⟩ := (unhide HPO).own
    rcases h2 with ⟨h, _⟩ | ⟨g', cap', cur, hv, _, _, hn, hc, _⟩
    · cases h
    · injection hv with _ _ hv
      subst hv
      exact ⟨hn, by unfold maxLen at hc; omega⟩
  obtain ⟨i, hi, hrem⟩ : ∃ i : Nat, i < els.length ∧ (len1 : Int) % (els.length : Int) = (i : Int) := ⟨len1 % els.length, Nat.mod_lt _ (by omega), by simp⟩
  have er : IntKind.i64.wrap ((len1 : Int) % (els.length : Int)) = (len1 : Int) % (els.length : Int) := by rw [hrem]; simp [IntKind.wrap, IntKind.bits, IntKind.signed]; omega
  go_wp2_with fail
  simp only [hrem]
  clear hrem hkz hkz' er
  have hle : l.length = els.length := unhide HLL
  obtain ⟨pa, pc, hmv, hml, hrow0⟩ := unhide I3
  injection hmv with hmv1 hmv2 hmv3
  obtain ⟨b, off, hpa, hb, _, hc⟩ := hrow0 (by omega)
  rw [hpa] at hmv1
  injection hmv1 with hmv1
  injection hmv1 with hm1 hm2 _
  subst hm1 hm2
  have HC := hide hc
  clear hmv2 hmv3 hpa hrow0 hc
  have HCK : Hid (∀ w', Below w3.heap.size w3 w' → w'.cell? ⟨g, i * 4, none⟩ = some (.int .i64 (Ix.pg l i).1)) := fun w' hb2 => by
    obtain ⟨_, _, hA2, _, _⟩ := unhide HC i (by omega)
    have := (hA2.keep (hb2.block g hb)).1
    rwa [Nat.zero_add] at this
  have hi0' : (0 : Int) ≤ (i : Int) := by omega
  have hi4 : (i : Int) < (els.length : Int) := by omega
  go_loopw [8, 9] (fun yv iv w' => ∃ k : Nat, k ≤ l.length ∧ iv = .int .i64 k ∧ yv = .bool ((List.range k).any (Ix.neededAt l i)) ∧ Below w3.heap.size w3 w') (fun _ iv _ => l.length - (intOf iv).toNat)
  case atStart => exact ⟨0, Nat.zero_le _, rfl, rfl, Below.refl _ _⟩
  case round =>
    obtain ⟨k, hk, rfl, rfl, hw⟩ := hrel
    have HW := hide hw
    clear hw
    by_cases hlt : k < l.length
    · obtain ⟨fv, dv, hAt, hf, hd⟩ := unhide HC k hlt
      have hlens := Ix.pOk_lens (Ix.pkgs_pOk (Ix.planOk_pkgs (unhide HOK)) hlt)
      have hz := Ix.nPart_zero l i k
      have hs := fun m => Ix.nPart_succ (l := l) (k := i) (i := k) (m := m)
      have he := Ix.nPart_end l i k
      obtain ⟨nm, vr, fs, ds, hpk⟩ : ∃ nm vr fs ds, Ix.pg l k = (nm, vr, fs, ds) := ⟨_, _, _, _, rfl⟩
      rw [hpk] at hAt hf hd hlens hs he
      dsimp only at hf hd hlens hs he
      obtain ⟨da, dc, hdv, _, hdr⟩ := hd
      obtain ⟨fa, fc, hfv⟩ := hf.slice
      subst hdv hfv
      have HS := hide hs
      have HE := hide he
      have HDR := hide hdr
      have hld := hlens.2
      have hj0 : (0 : Int) ≤ (k : Int) := Int.natCast_nonneg _
      have hj1 : (k : Int) < (els.length : Int) := by omega
      have er : IntKind.i64.wrap ((k : Int) + 1) = (k : Int) + 1 := by simp [IntKind.wrap, IntKind.bits, IntKind.signed]; omega
      have hAw : Hid (∀ w', Below w3.heap.size w3 w' → w'.cell? ⟨g, k * 4 + 3, none⟩ = some (.slice da ds.length dc)) := fun w' hb2 => by
        have := (hAt.keep (hb2.block g hb)).2.2.2
        rwa [Nat.zero_add] at this
      rw [← hz]
      clear hAt hf hdr hlens hs he hz hpk
      generalize (Ix.pg l i).1 = ni at *
      generalize Ix.nPart l i k = NP at *
      go_wp2_with fail
      go_loopw [8, 10] (fun yv jv w' => ∃ m : Nat, m ≤ ds.length ∧ jv = .int .i64 m ∧ yv = .bool (NP m) ∧ Below w3.heap.size w3 w') (fun _ jv _ => ds.length - (intOf jv).toNat)
      case atStart => exact ⟨0, Nat.zero_le _, rfl, rfl, unhide HW⟩
      case round =>
        clear HW
        obtain ⟨m, hm, rfl, rfl, hw⟩ := hrel
        have HW := hide hw
        have c3 := unhide hAw wr hw
        clear hw
        by_cases hlt2 : m < ds.length
        · obtain ⟨db, dof, hda, hdb, _, hdc⟩ := unhide HDR (by omega)
          subst hda
          obtain ⟨d0, _⟩ := hdc m hlt2
          have hm0 : (0 : Int) ≤ (m : Int) := Int.natCast_nonneg _
          have hm1 : (m : Int) < (ds.length : Int) := by omega
          have er2 : IntKind.i64.wrap ((m : Int) + 1) = (m : Int) + 1 := by simp [IntKind.wrap, IntKind.bits, IntKind.signed]; omega
          have hsm := unhide HS m hlt2
          have HKC : Hid (∀ w', Below wr.heap.size wr w' → w'.cell? ⟨g, k * 4 + 3, none⟩ = some (.slice (some ⟨db, dof, none⟩) ds.length dc) ∧ w'.cell? ⟨db, dof + m * 2, none⟩ = some (.int .i64 (Pk.fst ds m)) ∧ w'.cell? ⟨g, i * 4, none⟩ = some (.int .i64 ni)) := fun w' hw' => by
            have hB := (unhide HW).trans (hw'.mono (unhide HW).size)
            exact ⟨unhide hAw w' hB, by rw [hB.cell hdb]; exact d0, unhide HCK w' hB⟩
          clear hdc d0
          generalize Pk.fst ds m = x at *
          have HSM := hide hsm
          generalize hN1 : NP (m + 1) = N1 at *
          have HN1 := hide hN1
          clear hsm hN1
          generalize hN0 : NP m = N0 at *
          clear hN0
          cases N0
          rotate_left
          · have hn : N1 = true := by rw [unhide HSM]; rfl
            have HNN := hide hn
            clear hn
            go_wp2_with fail
            refine wq_region (by kernel_rfl) (by kernel_rfl) ?_
            refine wq_move (d := some 62) rfl rfl (by rfl) rfl ?_
            simp only [Act.put, List.setIfInBounds_toArray, List.set_cons_zero, List.set_cons_succ, List.getElem_toArray, List.getElem_cons_zero, List.getElem_cons_succ]
            refine wq_move (d := some 63) rfl rfl (by rfl) rfl ?_
            simp only [Act.put, List.setIfInBounds_toArray, List.set_cons_zero, List.set_cons_succ, List.getElem_toArray, List.getElem_cons_zero, List.getElem_cons_succ]
            refine wq_skip (d := some 64) rfl (by rfl) ?_
            simp only [Act.put, List.setIfInBounds_toArray, List.set_cons_zero, List.set_cons_succ]
            refine wq_skip (d := some 65) rfl (by rfl) ?_
            simp only [Act.put, List.setIfInBounds_toArray, List.set_cons_zero, List.set_cons_succ]
            refine wq_skip (d := some 66) rfl (by rfl) ?_
            simp only [Act.put, List.setIfInBounds_toArray, List.set_cons_zero, List.set_cons_succ]
            refine wq_skip (d := some 67) rfl (by rfl) ?_
            simp only [Act.put, List.setIfInBounds_toArray, List.set_cons_zero, List.set_cons_succ]
            refine wq_skip (d := some 68) rfl (by rfl) ?_
            simp only [Act.put, List.setIfInBounds_toArray, List.set_cons_zero, List.set_cons_succ]
            refine wq_skip (d := some 69) rfl (by rfl) ?_
            simp only [Act.put, List.setIfInBounds_toArray, List.set_cons_zero, List.set_cons_succ]
            refine wq_skip (d := some 70) rfl (by rfl) ?_
            simp only [Act.put, List.setIfInBounds_toArray, List.set_cons_zero, List.set_cons_succ]
            refine wq_skip (d := some 71) rfl (by rfl) ?_
            simp only [Act.put, List.setIfInBounds_toArray, List.set_cons_zero, List.set_cons_succ]
            refine wq_skip (d := some 72) rfl (by rfl) ?_
            simp only [Act.put, List.setIfInBounds_toArray, List.set_cons_zero, List.set_cons_succ]
            refine wq_skip (d := some 73) rfl (by rfl) ?_
            simp only [Act.put, List.setIfInBounds_toArray, List.set_cons_zero, List.set_cons_succ]
            refine wq_skip (d := some 74) rfl (by rfl) ?_
            simp only [Act.put, List.setIfInBounds_toArray, List.set_cons_zero, List.set_cons_succ]
            refine wq_skip (d := some 75) rfl (by rfl) ?_
            simp only [Act.put, List.setIfInBounds_toArray, List.set_cons_zero, List.set_cons_succ]
            refine wq_skip (d := some 76) rfl (by rfl) ?_
            simp only [Act.put, List.setIfInBounds_toArray, List.set_cons_zero, List.set_cons_succ]
            refine wq_skip (d := some 77) rfl (by rfl) ?_
            simp only [Act.put, List.setIfInBounds_toArray, List.set_cons_zero, List.set_cons_succ]
            refine wq_skip (d := some 78) rfl (by rfl) ?_
            simp only [Act.put, List.setIfInBounds_toArray, List.set_cons_zero, List.set_cons_succ]
            refine wq_skip (d := some 79) rfl (by rfl) ?_
            simp only [Act.put, List.setIfInBounds_toArray, List.set_cons_zero, List.set_cons_succ]
            refine wq_skip (d := some 80) rfl (by rfl) ?_
            simp only [Act.put, List.setIfInBounds_toArray, List.set_cons_zero, List.set_cons_succ]
            refine wq_skip (d := some 81) rfl (by rfl) ?_
            simp only [Act.put, List.setIfInBounds_toArray, List.set_cons_zero, List.set_cons_succ]
            refine wq_skip (d := some 82) rfl (by rfl) ?_
            simp only [Act.put, List.setIfInBounds_toArray, List.set_cons_zero, List.set_cons_succ]
            refine wq_skip (d := some 83) rfl (by rfl) ?_
            simp only [Act.put, List.setIfInBounds_toArray, List.set_cons_zero, List.set_cons_succ]
            refine wq_take (d := some 84) rfl (by rfl) (v := ?_) ?_ ?_
            rotate_left
            · (intro w hCw; have hKw := (unhide HKC) w hCw; go_simp <;> with_reducible rfl)
            simp only [Act.put, List.setIfInBounds_toArray, List.set_cons_zero, List.set_cons_succ]
            refine wq_take (d := some 8) rfl (by rfl) (v := ?_) ?_ ?_
            rotate_left
            · (intro w hCw; have hKw := (unhide HKC) w hCw; go_simp <;> with_reducible rfl)
            simp only [Act.put, List.setIfInBounds_toArray, List.set_cons_zero, List.set_cons_succ]
            refine wq_nil ?_
            intro w9 hw9
            have HW9 := hide ((unhide HW).trans (hw9.mono (unhide HW).size))
            clear hw9 HKC HW c3
            go_wp2
            go_roundw
            case rel => exact ⟨m + 1, by omega, by go_num, by rw [unhide HN1, unhide HNN], unhide HW9⟩
            case measure => simp [intOf]; omega
          · by_cases hki : k = i
            · have hq : (((k : Nat) : Int) != ((i : Nat) : Int)) = false := by rw [hki]; simp
              have hn : N1 = false := by rw [unhide HSM, hki]; simp
              have HNN := hide hn
              clear hn hki
              go_wp2_with fail
              refine wq_region (by kernel_rfl) (by kernel_rfl) ?_
              refine wq_move (d := some 62) rfl rfl (by rfl) rfl ?_
              simp only [Act.put, List.setIfInBounds_toArray, List.set_cons_zero, List.set_cons_succ, List.getElem_toArray, List.getElem_cons_zero, List.getElem_cons_succ]
              refine wq_move (d := some 63) rfl rfl (by rfl) rfl ?_
              simp only [Act.put, List.setIfInBounds_toArray, List.set_cons_zero, List.set_cons_succ, List.getElem_toArray, List.getElem_cons_zero, List.getElem_cons_succ]
              refine wq_move (d := some 64) rfl rfl (by rfl) rfl ?_
              simp only [Act.put, List.setIfInBounds_toArray, List.set_cons_zero, List.set_cons_succ, List.getElem_toArray, List.getElem_cons_zero, List.getElem_cons_succ]
              refine wq_move (d := some 65) rfl rfl (by rfl) rfl ?_
              simp only [Act.put, List.setIfInBounds_toArray, List.set_cons_zero, List.set_cons_succ, List.getElem_toArray, List.getElem_cons_zero, List.getElem_cons_succ]
              refine wq_take (d := some 66) rfl (by rfl) (v := ?_) ?_ ?_
              rotate_left
              · (intro w hCw; have hKw := (unhide HKC) w hCw; go_simp <;> with_reducible rfl)
              simp only [Act.put, List.setIfInBounds_toArray, List.set_cons_zero, List.set_cons_succ]
              refine wq_move (d := some 67) rfl rfl (by rfl) rfl ?_
              simp only [Act.put, List.setIfInBounds_toArray, List.set_cons_zero, List.set_cons_succ, List.getElem_toArray, List.getElem_cons_zero, List.getElem_cons_succ]
              refine wq_skip (d := some 68) rfl (by rfl) ?_
              simp only [Act.put, List.setIfInBounds_toArray, List.set_cons_zero, List.set_cons_succ]
              refine wq_skip (d := some 69) rfl (by rfl) ?_
              simp only [Act.put, List.setIfInBounds_toArray, List.set_cons_zero, List.set_cons_succ]
              refine wq_skip (d := some 70) rfl (by rfl) ?_
              simp only [Act.put, List.setIfInBounds_toArray, List.set_cons_zero, List.set_cons_succ]
              refine wq_skip (d := some 71) rfl (by rfl) ?_
              simp only [Act.put, List.setIfInBounds_toArray, List.set_cons_zero, List.set_cons_succ]
              refine wq_skip (d := some 72) rfl (by rfl) ?_
              simp only [Act.put, List.setIfInBounds_toArray, List.set_cons_zero, List.set_cons_succ]
              refine wq_skip (d := some 73) rfl (by rfl) ?_
              simp only [Act.put, List.setIfInBounds_toArray, List.set_cons_zero, List.set_cons_succ]
              refine wq_skip (d := some 74) rfl (by rfl) ?_
              simp only [Act.put, List.setIfInBounds_toArray, List.set_cons_zero, List.set_cons_succ]
              refine wq_skip (d := some 75) rfl (by rfl) ?_
              simp only [Act.put, List.setIfInBounds_toArray, List.set_cons_zero, List.set_cons_succ]
              refine wq_skip (d := some 76) rfl (by rfl) ?_
              simp only [Act.put, List.setIfInBounds_toArray, List.set_cons_zero, List.set_cons_succ]
              refine wq_skip (d := some 77) rfl (by rfl) ?_
              simp only [Act.put, List.setIfInBounds_toArray, List.set_cons_zero, List.set_cons_succ]
              refine wq_skip (d := some 78) rfl (by rfl) ?_
              simp only [Act.put, List.setIfInBounds_toArray, List.set_cons_zero, List.set_cons_succ]
              refine wq_skip (d := some 79) rfl (by rfl) ?_
              simp only [Act.put, List.setIfInBounds_toArray, List.set_cons_zero, List.set_cons_succ]
              refine wq_skip (d := some 80) rfl (by rfl) ?_
              simp only [Act.put, List.setIfInBounds_toArray, List.set_cons_zero, List.set_cons_succ]
              refine wq_skip (d := some 81) rfl (by rfl) ?_
              simp only [Act.put, List.setIfInBounds_toArray, List.set_cons_zero, List.set_cons_succ]
              refine wq_skip (d := some 82) rfl (by rfl) ?_
              simp only [Act.put, List.setIfInBounds_toArray, List.set_cons_zero, List.set_cons_succ]
              refine wq_take (d := some 83) rfl (by rfl) (v := ?_) ?_ ?_
              rotate_left
              · (intro w hCw; have hKw := (unhide HKC) w hCw; go_simp <;> with_reducible rfl)
              simp only [Act.put, List.setIfInBounds_toArray, List.set_cons_zero, List.set_cons_succ]
              refine wq_take (d := some 84) rfl (by rfl) (v := ?_) ?_ ?_
              rotate_left
              · (intro w hCw; have hKw := (unhide HKC) w hCw; go_simp <;> with_reducible rfl)
              simp only [Act.put, List.setIfInBounds_toArray, List.set_cons_zero, List.set_cons_succ]
              refine wq_take (d := some 8) rfl (by rfl) (v := ?_) ?_ ?_
              rotate_left
              · (intro w hCw; have hKw := (unhide HKC) w hCw; go_simp <;> with_reducible rfl)
              simp only [Act.put, List.setIfInBounds_toArray, List.set_cons_zero, List.set_cons_succ]
              refine wq_nil ?_
              intro w9 hw9
              have HW9 := hide ((unhide HW).trans (hw9.mono (unhide HW).size))
              clear hw9 HKC HW c3
              go_wp2
              go_roundw
              case rel => exact ⟨m + 1, by omega, by go_num, by rw [unhide HN1, unhide HNN], unhide HW9⟩
              case measure => simp [intOf]; omega
            · have hq : (((k : Nat) : Int) != ((i : Nat) : Int)) = true := by simp; omega
              have hn : N1 = (x == ni) := by rw [unhide HSM, decide_eq_true hki]; simp
              have HNN := hide hn
              clear hn hki
              cases hxe : (x == ni)
              all_goals
                rw [hxe] at HNN
                go_wp2_with fail
                refine wq_region (by kernel_rfl) (by kernel_rfl) ?_
                refine wq_move (d := some 62) rfl rfl (by rfl) rfl ?_
                simp only [Act.put, List.setIfInBounds_toArray, List.set_cons_zero, List.set_cons_succ, List.getElem_toArray, List.getElem_cons_zero, List.getElem_cons_succ]
                refine wq_move (d := some 63) rfl rfl (by rfl) rfl ?_
                simp only [Act.put, List.setIfInBounds_toArray, List.set_cons_zero, List.set_cons_succ, List.getElem_toArray, List.getElem_cons_zero, List.getElem_cons_succ]
                refine wq_move (d := some 64) rfl rfl (by rfl) rfl ?_
                simp only [Act.put, List.setIfInBounds_toArray, List.set_cons_zero, List.set_cons_succ, List.getElem_toArray, List.getElem_cons_zero, List.getElem_cons_succ]
                refine wq_move (d := some 65) rfl rfl (by rfl) rfl ?_
                simp only [Act.put, List.setIfInBounds_toArray, List.set_cons_zero, List.set_cons_succ, List.getElem_toArray, List.getElem_cons_zero, List.getElem_cons_succ]
                refine wq_take (d := some 66) rfl (by rfl) (v := ?_) ?_ ?_
                rotate_left
                · (intro w hCw; have hKw := (unhide HKC) w hCw; go_simp <;> with_reducible rfl)
                simp only [Act.put, List.setIfInBounds_toArray, List.set_cons_zero, List.set_cons_succ]
                refine wq_move (d := some 67) rfl rfl (by rfl) rfl ?_
                simp only [Act.put, List.setIfInBounds_toArray, List.set_cons_zero, List.set_cons_succ, List.getElem_toArray, List.getElem_cons_zero, List.getElem_cons_succ]
                refine wq_move (d := some 68) rfl rfl (by rfl) rfl ?_
                simp only [Act.put, List.setIfInBounds_toArray, List.set_cons_zero, List.set_cons_succ, List.getElem_toArray, List.getElem_cons_zero, List.getElem_cons_succ]
                refine wq_move (d := some 69) rfl rfl (by rfl) rfl ?_
                simp only [Act.put, List.setIfInBounds_toArray, List.set_cons_zero, List.set_cons_succ, List.getElem_toArray, List.getElem_cons_zero, List.getElem_cons_succ]
                refine wq_take (d := some 70) rfl (by rfl) (v := ?_) ?_ ?_
                rotate_left
                · (intro w hCw; have hKw := (unhide HKC) w hCw; go_simp <;> with_reducible rfl)
                simp only [Act.put, List.setIfInBounds_toArray, List.set_cons_zero, List.set_cons_succ]
                refine wq_take (d := some 71) rfl (by rfl) (v := ?_) ?_ ?_
                rotate_left
                · (intro w hCw; have hKw := (unhide HKC) w hCw; go_simp <;> with_reducible rfl)
                simp only [Act.put, List.setIfInBounds_toArray, List.set_cons_zero, List.set_cons_succ]
                refine wq_take (d := some 72) rfl (by rfl) (v := ?_) ?_ ?_
                rotate_left
                · (intro w hCw; have hKw := (unhide HKC) w hCw; go_simp <;> with_reducible rfl)
                simp only [Act.put, List.setIfInBounds_toArray, List.set_cons_zero, List.set_cons_succ]
                refine wq_move (d := some 73) rfl rfl (by rfl) rfl ?_
                simp only [Act.put, List.setIfInBounds_toArray, List.set_cons_zero, List.set_cons_succ, List.getElem_toArray, List.getElem_cons_zero, List.getElem_cons_succ]
                refine wq_take (d := some 74) rfl (by rfl) (v := ?_) ?_ ?_
                rotate_left
                · (intro w hCw; have hKw := (unhide HKC) w hCw; go_simp <;> with_reducible rfl)
                simp only [Act.put, List.setIfInBounds_toArray, List.set_cons_zero, List.set_cons_succ]
                refine wq_take (d := some 75) rfl (by rfl) (v := ?_) ?_ ?_
                rotate_left
                · (intro w hCw; have hKw := (unhide HKC) w hCw; go_simp <;> with_reducible rfl)
                simp only [Act.put, List.setIfInBounds_toArray, List.set_cons_zero, List.set_cons_succ]
                refine wq_take (d := some 76) rfl (by rfl) (v := ?_) ?_ ?_
                rotate_left
                · (intro w hCw; have hKw := (unhide HKC) w hCw; go_simp <;> with_reducible rfl)
                simp only [Act.put, List.setIfInBounds_toArray, List.set_cons_zero, List.set_cons_succ]
                refine wq_move (d := some 77) rfl rfl (by rfl) rfl ?_
                simp only [Act.put, List.setIfInBounds_toArray, List.set_cons_zero, List.set_cons_succ, List.getElem_toArray, List.getElem_cons_zero, List.getElem_cons_succ]
                refine wq_move (d := some 78) rfl rfl (by rfl) rfl ?_
                simp only [Act.put, List.setIfInBounds_toArray, List.set_cons_zero, List.set_cons_succ, List.getElem_toArray, List.getElem_cons_zero, List.getElem_cons_succ]
                refine wq_take (d := some 79) rfl (by rfl) (v := ?_) ?_ ?_
                rotate_left
                · (intro w hCw; have hKw := (unhide HKC) w hCw; go_simp <;> with_reducible rfl)
                simp only [Act.put, List.setIfInBounds_toArray, List.set_cons_zero, List.set_cons_succ]
                refine wq_take (d := some 80) rfl (by rfl) (v := ?_) ?_ ?_
                rotate_left
                · (intro w hCw; have hKw := (unhide HKC) w hCw; go_simp <;> with_reducible rfl)
                simp only [Act.put, List.setIfInBounds_toArray, List.set_cons_zero, List.set_cons_succ]
                refine wq_take (d := some 81) rfl (by rfl) (v := ?_) ?_ ?_
                rotate_left
                · (intro w hCw; have hKw := (unhide HKC) w hCw; go_simp <;> with_reducible rfl)
                simp only [Act.put, List.setIfInBounds_toArray, List.set_cons_zero, List.set_cons_succ]
                refine wq_take (d := some 82) rfl (by rfl) (v := ?_) ?_ ?_
                rotate_left
                · (intro w hCw; have hKw := (unhide HKC) w hCw; go_simp <;> with_reducible rfl)
                simp only [Act.put, List.setIfInBounds_toArray, List.set_cons_zero, List.set_cons_succ]
                refine wq_take (d := some 83) rfl (by rfl) (v := ?_) ?_ ?_
                rotate_left
                · (intro w hCw; have hKw := (unhide HKC) w hCw; go_simp <;> with_reducible rfl)
                simp only [Act.put, List.setIfInBounds_toArray, List.set_cons_zero, List.set_cons_succ]
                refine wq_take (d := some 84) rfl (by rfl) (v := ?_) ?_ ?_
                rotate_left
                · (intro w hCw; have hKw := (unhide HKC) w hCw; go_simp <;> with_reducible rfl)
                simp only [Act.put, List.setIfInBounds_toArray, List.set_cons_zero, List.set_cons_succ]
                refine wq_take (d := some 8) rfl (by rfl) (v := ?_) ?_ ?_
                rotate_left
                · (intro w hCw; have hKw := (unhide HKC) w hCw; go_simp <;> with_reducible rfl)
                simp only [Act.put, List.setIfInBounds_toArray, List.set_cons_zero, List.set_cons_succ]
                refine wq_nil ?_
                intro w9 hw9
                have HW9 := hide ((unhide HW).trans (hw9.mono (unhide HW).size))
                clear hw9 HKC HW c3
                go_wp2
                go_roundw
                case rel => exact ⟨m + 1, by omega, by go_num, by rw [unhide HN1, unhide HNN], unhide HW9⟩
                case measure => simp [intOf]; omega
        · obtain rfl : m = ds.length := by omega
          clear hlt2
          go_wp2
          go_roundw
          case rel => exact ⟨k + 1, by omega, by go_num, by rw [unhide HE], unhide HW⟩
          case measure => simp [intOf]; omega
    · obtain rfl : k = l.length := by omega
      clear hlt
      have hpl := Ix.plan_less (unhide HOK) (k := i) (by omega)
      unfold Ix.needed at hpl
      have HPL := hide hpl
      clear hpl HCK HC
      generalize (List.range l.length).any (Ix.neededAt l i) = nd at *
      have BBw := (unhide BB3).trans ((unhide HW).mono (unhide BB3).size)
      have HO4 := hide (own_later (unhide HPO).own BBw)
      have hg4 : g < wr.heap.size := by
        obtain ⟨_, c, hc⟩ := own_row (unhide HO4) g rfl
        exact heapLt hc
      have HBBw := hide BBw
      clear BBw hi0' hi4
      have HEL := hide (unhide HPO).sl
      have hi0' : (0 : Int) ≤ (i : Int) := by omega
      have hi1 : (i : Int) ≤ (mc : Int) := by omega
      have hi2 : (0 : Int) ≤ (i : Int) + 1 := by omega
      have hi3 : (i : Int) + 1 ≤ (els.length : Int) := by omega
      have hi4 : (i : Int) < (els.length : Int) := by omega
      have hi5 : (i : Int) ≤ (els.length : Int) := by omega
      have hck : ¬ mc = 0 := by omega
      have hck2 : ¬ mc = i := by omega
      have ew : IntKind.i64.wrap ((i : Int) + 1) = (i : Int) + 1 := by simp [IntKind.wrap, IntKind.bits, IntKind.signed]; omega
      have et : ((i : Int) + 1).toNat = i + 1 := by omega
      go_wp2_with fail
      go_cut [11] from 85 to 94 (fun o wx => ∃ (ya : Option Addr) (yc : Nat), o = .slice ya (cutE els i).length yc ∧ wx.ownsRow wr.heap.size 30 4 (.slice ya (cutE els i).length yc) (cutE els i).length (flat4 (cutE els i)) ∧ Below wr.heap.size wr wx)
      case first =>
        by_cases hce : mc = i + 1
        · have HCE := hide hce
          clear hce
          refine wp_region_held_drew (S := fun _ => True) (by kernel_rfl) trivial (fun hHeld => ?_)
          refine anyH_at (i := 1) (d := some 86) rfl rfl (by kernel_rfl) (by kernel_rfl) (by kernel_rfl) (fun _ _ _ h => h) (by rfl) (v := ?_) ?_ (by assumption) ?_
          rotate_left
          · (intro w hSw; (try dsimp only at hSw); go_simp <;> with_reducible rfl)
          simp only [Act.put, List.setIfInBounds_toArray, List.set_cons_zero, List.set_cons_succ]
          refine anyH_at (i := 2) (d := some 87) rfl rfl (by kernel_rfl) (by kernel_rfl) (by kernel_rfl) (fun _ _ _ h => h) (by rfl) (v := ?_) ?_ (by assumption) ?_
          rotate_left
          · (intro w hSw; (try dsimp only at hSw); go_simp <;> with_reducible rfl)
          simp only [Act.put, List.setIfInBounds_toArray, List.set_cons_zero, List.set_cons_succ]
          refine anyH_at (i := 3) (d := some 88) rfl rfl (by kernel_rfl) (by kernel_rfl) (by kernel_rfl) (fun _ _ _ h => h) (by rfl) (v := ?_) ?_ (by assumption) ?_
          rotate_left
          · (intro w hSw; (try dsimp only at hSw); go_simp <;> with_reducible rfl)
          simp only [Act.put, List.setIfInBounds_toArray, List.set_cons_zero, List.set_cons_succ]
          refine anyH_at (i := 5) (d := some 90) rfl rfl (by kernel_rfl) (by kernel_rfl) (by kernel_rfl) (fun _ _ _ h => h) (by rfl) (v := ?_) ?_ (by assumption) ?_
          rotate_left
          · (intro w hSw; (try dsimp only at hSw); go_simp <;> with_reducible rfl)
          simp only [Act.put, List.setIfInBounds_toArray, List.set_cons_zero, List.set_cons_succ]
          refine anyH_at (i := 6) (d := some 91) rfl rfl (by kernel_rfl) (by kernel_rfl) (by kernel_rfl) (fun _ _ _ h => h) (by rfl) (v := ?_) ?_ (by assumption) ?_
          rotate_left
          · (intro w hSw; (try dsimp only at hSw); go_simp <;> with_reducible rfl)
          simp only [Act.put, List.setIfInBounds_toArray, List.set_cons_zero, List.set_cons_succ]
          refine anyH_at (i := 7) (d := some 92) rfl rfl (by kernel_rfl) (by kernel_rfl) (by kernel_rfl) (fun _ _ _ h => h) (by rfl) (v := ?_) ?_ (by assumption) ?_
          rotate_left
          · (intro w hSw; (try dsimp only at hSw); go_simp <;> with_reducible rfl)
          simp only [Act.put, List.setIfInBounds_toArray, List.set_cons_zero, List.set_cons_succ]
          refine anyH_at (i := 8) (d := some 93) rfl rfl (by kernel_rfl) (by kernel_rfl) (by kernel_rfl) (fun _ _ _ h => h) (by rfl) (v := ?_) ?_ (by assumption) ?_
          rotate_left
          · (intro w hSw; (try dsimp only at hSw); have hce := unhide HCE; go_simp <;> with_reducible rfl)
          simp only [Act.put, List.setIfInBounds_toArray, List.set_cons_zero, List.set_cons_succ]
          refine wpAnyH_ready (rs := [0]) (by kernel_rfl) (by simp) ?_
          refine AllReadyH.cons rfl (fun K hK => ?_) AllReadyH.nil
          go_simp
          have bE := below1 wr (.cells #[] 30)
          refine hK.out _ _ ?_ (fun hHeldN => ?_)
          · trivial
          clear hHeld
          have hHeld := hHeldN
          clear hHeldN
          clear hK K
          try simp only [Act.put, List.setIfInBounds_toArray, List.set_cons_zero, List.set_cons_succ]
          refine wpAnyH_ready (rs := [4]) (by kernel_rfl) (by simp) ?_
          refine AllReadyH.cons rfl (fun K hK => ?_) AllReadyH.nil
          rw [if_pos (by rfl)]
          refine wp_append_own _ _ _ 23 rfl wr.heap.size 30 i0 _ 4 64 Tryd.underlying23 hI0 hz0 hz1 hz2 rfl (by decide) (.slice (some ⟨wr.heap.size, 0, none⟩) 0 0) 0 [] rfl (World.ownsRow.drew (emptyP wr)) ⟨g, 0, none⟩ i mc (flat4 (els.take i)) rfl (by rw [flat4_len, List.length_take]; omega) (by simpa using newsP (s := 0) (unhide HO4) bE.drew hg4 takeP) (flat4_one (unhide HEL) (fun e he => List.mem_of_mem_take he)) (by unfold maxLen; omega) (by omega) (by simp) ?_
          intro v6 w6 hown6 hgrow6 _
          have o6 : w6.ownsRow wr.heap.size 30 4 v6 i (flat4 (els.take i)) := by simpa using hown6
          have G6 := grown_below (B := wr.heap.size) (World.ownsRow.drew (emptyP wr)) hgrow6 bE.drew bE.drew.size
          have O6 := hide o6
          have HG6 := hide G6
          clear hown6 hgrow6 o6 G6 bE
          change K (Act.put _ (some 89) _) _
          refine hK.out _ _ ?_ (fun hHeldN => ?_)
          · trivial
          clear hHeld
          have hHeld := hHeldN
          clear hHeldN
          clear hK K
          try simp only [Act.put, List.setIfInBounds_toArray, List.set_cons_zero, List.set_cons_succ]
          refine wpAnyH_ready (rs := [9]) (by kernel_rfl) (by simp) ?_
          refine AllReadyH.cons rfl (fun K hK => ?_) AllReadyH.nil
          rw [if_pos (by rfl)]
          refine wp_append_own _ _ _ 23 rfl wr.heap.size 30 i0 _ 4 64 Tryd.underlying23 hI0 hz0 hz1 hz2 rfl (by decide) v6 i (flat4 (els.take i)) rfl (unhide O6) ⟨g, 0, none⟩ _ _ (flat4 (els.drop (i + 1))) rfl (by rw [flat4_len, List.length_drop]) (by have hce := unhide HCE; intro j u hu; exfalso; have hd : els.drop (i + 1) = [] := List.drop_eq_nil_of_le (by omega); rw [hd] at hu; simp [flat4] at hu) (flat4_one (unhide HEL) (fun e he => List.mem_of_mem_drop he)) (by unfold maxLen; omega) (by omega) (unhide HG6).size ?_
          intro v7 w7 hown7 hgrow7 _
          have o7 := cutE_own hown7 (by omega)
          have G7 := grown_below (B := wr.heap.size) (unhide O6) hgrow7 (unhide HG6) (unhide HG6).size
          obtain ⟨ya, yc, hv7⟩ := own_formS o7
          subst hv7
          have O7 := hide o7
          have HG7 := hide G7
          clear hown7 hgrow7 o7 G7 O6 HG6
          change K (Act.put _ (some 94) _) _
          refine hK.out _ _ ?_ (fun hHeldN => ?_)
          · trivial
          clear hHeld
          have hHeld := hHeldN
          clear hHeldN
          clear hK K
          try simp only [Act.put, List.setIfInBounds_toArray, List.set_cons_zero, List.set_cons_succ]
          refine anyH_at (i := 10) (d := some 11) rfl rfl (by kernel_rfl) (by kernel_rfl) (by kernel_rfl) (fun _ _ _ h => h) (by rfl) (v := ?_) ?_ (by assumption) ?_
          rotate_left
          · (intro w hSw; (try dsimp only at hSw); go_simp <;> with_reducible rfl)
          simp only [Act.put, List.setIfInBounds_toArray, List.set_cons_zero, List.set_cons_succ]
          refine wpAnyH_done (by kernel_rfl) ?_ _
          go_wp2_with fail
          go_meet
          exact ⟨ya, yc, rfl, unhide O7, unhide HG7⟩
        · refine wp_region_held_drew (S := fun _ => True) (by kernel_rfl) trivial (fun hHeld => ?_)
          refine anyH_at (i := 1) (d := some 86) rfl rfl (by kernel_rfl) (by kernel_rfl) (by kernel_rfl) (fun _ _ _ h => h) (by rfl) (v := ?_) ?_ (by assumption) ?_
          rotate_left
          · (intro w hSw; (try dsimp only at hSw); go_simp <;> with_reducible rfl)
          simp only [Act.put, List.setIfInBounds_toArray, List.set_cons_zero, List.set_cons_succ]
          refine anyH_at (i := 2) (d := some 87) rfl rfl (by kernel_rfl) (by kernel_rfl) (by kernel_rfl) (fun _ _ _ h => h) (by rfl) (v := ?_) ?_ (by assumption) ?_
          rotate_left
          · (intro w hSw; (try dsimp only at hSw); go_simp <;> with_reducible rfl)
          simp only [Act.put, List.setIfInBounds_toArray, List.set_cons_zero, List.set_cons_succ]
          refine anyH_at (i := 3) (d := some 88) rfl rfl (by kernel_rfl) (by kernel_rfl) (by kernel_rfl) (fun _ _ _ h => h) (by rfl) (v := ?_) ?_ (by assumption) ?_
          rotate_left
          · (intro w hSw; (try dsimp only at hSw); go_simp <;> with_reducible rfl)
          simp only [Act.put, List.setIfInBounds_toArray, List.set_cons_zero, List.set_cons_succ]
          refine anyH_at (i := 5) (d := some 90) rfl rfl (by kernel_rfl) (by kernel_rfl) (by kernel_rfl) (fun _ _ _ h => h) (by rfl) (v := ?_) ?_ (by assumption) ?_
          rotate_left
          · (intro w hSw; (try dsimp only at hSw); go_simp <;> with_reducible rfl)
          simp only [Act.put, List.setIfInBounds_toArray, List.set_cons_zero, List.set_cons_succ]
          refine anyH_at (i := 6) (d := some 91) rfl rfl (by kernel_rfl) (by kernel_rfl) (by kernel_rfl) (fun _ _ _ h => h) (by rfl) (v := ?_) ?_ (by assumption) ?_
          rotate_left
          · (intro w hSw; (try dsimp only at hSw); go_simp <;> with_reducible rfl)
          simp only [Act.put, List.setIfInBounds_toArray, List.set_cons_zero, List.set_cons_succ]
          refine anyH_at (i := 7) (d := some 92) rfl rfl (by kernel_rfl) (by kernel_rfl) (by kernel_rfl) (fun _ _ _ h => h) (by rfl) (v := ?_) ?_ (by assumption) ?_
          rotate_left
          · (intro w hSw; (try dsimp only at hSw); go_simp <;> with_reducible rfl)
          simp only [Act.put, List.setIfInBounds_toArray, List.set_cons_zero, List.set_cons_succ]
          refine anyH_at (i := 8) (d := some 93) rfl rfl (by kernel_rfl) (by kernel_rfl) (by kernel_rfl) (fun _ _ _ h => h) (by rfl) (v := ?_) ?_ (by assumption) ?_
          rotate_left
          · (intro w hSw; (try dsimp only at hSw); go_simp <;> with_reducible rfl)
          simp only [Act.put, List.setIfInBounds_toArray, List.set_cons_zero, List.set_cons_succ]
          refine wpAnyH_ready (rs := [0]) (by kernel_rfl) (by simp) ?_
          refine AllReadyH.cons rfl (fun K hK => ?_) AllReadyH.nil
          go_simp
          have bE := below1 wr (.cells #[] 30)
          refine hK.out _ _ ?_ (fun hHeldN => ?_)
          · trivial
          clear hHeld
          have hHeld := hHeldN
          clear hHeldN
          clear hK K
          try simp only [Act.put, List.setIfInBounds_toArray, List.set_cons_zero, List.set_cons_succ]
          refine wpAnyH_ready (rs := [4]) (by kernel_rfl) (by simp) ?_
          refine AllReadyH.cons rfl (fun K hK => ?_) AllReadyH.nil
          rw [if_pos (by rfl)]
          refine wp_append_own _ _ _ 23 rfl wr.heap.size 30 i0 _ 4 64 Tryd.underlying23 hI0 hz0 hz1 hz2 rfl (by decide) (.slice (some ⟨wr.heap.size, 0, none⟩) 0 0) 0 [] rfl (World.ownsRow.drew (emptyP wr)) ⟨g, 0, none⟩ i mc (flat4 (els.take i)) rfl (by rw [flat4_len, List.length_take]; omega) (by simpa using newsP (s := 0) (unhide HO4) bE.drew hg4 takeP) (flat4_one (unhide HEL) (fun e he => List.mem_of_mem_take he)) (by unfold maxLen; omega) (by omega) (by simp) ?_
          intro v6 w6 hown6 hgrow6 _
          have o6 : w6.ownsRow wr.heap.size 30 4 v6 i (flat4 (els.take i)) := by simpa using hown6
          have G6 := grown_below (B := wr.heap.size) (World.ownsRow.drew (emptyP wr)) hgrow6 bE.drew bE.drew.size
          have O6 := hide o6
          have HG6 := hide G6
          clear hown6 hgrow6 o6 G6 bE
          change K (Act.put _ (some 89) _) _
          refine hK.out _ _ ?_ (fun hHeldN => ?_)
          · trivial
          clear hHeld
          have hHeld := hHeldN
          clear hHeldN
          clear hK K
          try simp only [Act.put, List.setIfInBounds_toArray, List.set_cons_zero, List.set_cons_succ]
          refine wpAnyH_ready (rs := [9]) (by kernel_rfl) (by simp) ?_
          refine AllReadyH.cons rfl (fun K hK => ?_) AllReadyH.nil
          rw [if_pos (by rfl)]
          refine wp_append_own _ _ _ 23 rfl wr.heap.size 30 i0 _ 4 64 Tryd.underlying23 hI0 hz0 hz1 hz2 rfl (by decide) v6 i (flat4 (els.take i)) rfl (unhide O6) ⟨g, (i + 1) * 4, none⟩ _ _ (flat4 (els.drop (i + 1))) rfl (by rw [flat4_len, List.length_drop]) (newsP (s := i + 1) (unhide HO4) (unhide HG6) hg4 dropP) (flat4_one (unhide HEL) (fun e he => List.mem_of_mem_drop he)) (by unfold maxLen; omega) (by omega) (unhide HG6).size ?_
          intro v7 w7 hown7 hgrow7 _
          have o7 := cutE_own hown7 (by omega)
          have G7 := grown_below (B := wr.heap.size) (unhide O6) hgrow7 (unhide HG6) (unhide HG6).size
          obtain ⟨ya, yc, hv7⟩ := own_formS o7
          subst hv7
          have O7 := hide o7
          have HG7 := hide G7
          clear hown7 hgrow7 o7 G7 O6 HG6
          change K (Act.put _ (some 94) _) _
          refine hK.out _ _ ?_ (fun hHeldN => ?_)
          · trivial
          clear hHeld
          have hHeld := hHeldN
          clear hHeldN
          clear hK K
          try simp only [Act.put, List.setIfInBounds_toArray, List.set_cons_zero, List.set_cons_succ]
          refine anyH_at (i := 10) (d := some 11) rfl rfl (by kernel_rfl) (by kernel_rfl) (by kernel_rfl) (fun _ _ _ h => h) (by rfl) (v := ?_) ?_ (by assumption) ?_
          rotate_left
          · (intro w hSw; (try dsimp only at hSw); go_simp <;> with_reducible rfl)
          simp only [Act.put, List.setIfInBounds_toArray, List.set_cons_zero, List.set_cons_succ]
          refine wpAnyH_done (by kernel_rfl) ?_ _
          go_wp2_with fail
          go_meet
          exact ⟨ya, yc, rfl, unhide O7, unhide HG7⟩
      case rest =>
        obtain ⟨ya, yc, rfl, hoY, hbY⟩ := hcut
        have BBY := (unhide HBBw).trans (hbY.mono (unhide HBBw).size)
        have hY : Pks (fun _ => True) wc (.slice ya (cutE els i).length yc) ((cutE els i).map (·.1)) := POwn.of (unhide HPO) BBY hoY cutE_mem (by rw [cutE_len hi]; omega)
        have hrY := own_roomP hoY
        have CY := hide (implPlanOk_any wc _ _ hY (fun _ _ e => by injection e with _ _ e; rw [List.length_map]; omega))
        rw [cutE_map, ← unhide HL, unhide HPL] at CY
        have HB := hide ((unhide B1).trans (BBY.mono (unhide B1).size))
        clear hoY hbY BBY hY hrY
        go_wp2_with fail
        refine (unhide CY).mono ?_
        rintro e w8 ⟨rfl, b8⟩
        have B8 := hide ((unhide HB).trans (b8.mono (unhide HB).size))
        clear b8
        cases nd
        all_goals
          dsimp only [Bool.not_true, Bool.not_false]
          go_wp2
          go_ret
          exact ⟨rfl, unhide B8⟩
end Go.Proofs.YtlidgoomlllonaaDoor
