/- What spec.PlanOk returns: whether packages can be in together; for every row of packages that can be read. -/
import Derived.Test.YtoccijcngncghaaGreatDoorSPlanW
namespace Go.Proofs.YtoccijcngncghaaGreatDoor
open Go.RowKit

attribute [local go_sem ↓] Go.wp_at_zero Go.wp_at_succ

set_option maxHeartbeats 8000000 in
set_option maxRecDepth 100000 in
theorem specPlanOk_any {N : Nat → Prop} (w : World) (v : Value) (l : List Ix.Pg) (h : Pks N w v l) :
    Calls Tryz.prog 40 #[v] w fun e w' => e = .returned (.bool (Ix.planOk l)) ∧ Below w.heap.size w w' := by
  have HP := hide h
  obtain ⟨a, cap, rfl, hlen, hrow⟩ := h
  go_enter Tryz.func40, Tryz.ntmps40
  go_wp2_with fail
  refine (specStoreOk_any _ _ l (unhide HP)).mono ?_
  rintro e w1 ⟨rfl, b1⟩
  have B1 := hide b1
  clear b1
  cases hk : Ix.pkgsOk l
  · go_wp2
    go_ret
    exact ⟨ret_bool (Ix.planOk_bad hk).symm, unhide B1⟩
  have HOK := hide hk
  clear hk
  go_wp2_with fail
  refine (l13One_any _ _ l ((unhide HP).later (unhide B1))).mono ?_
  rintro e w2 ⟨⟨rfl, hone⟩ | ⟨rfl, j, hj, hle⟩, b2⟩
  rotate_left
  · have B2 := hide ((unhide B1).trans (b2.mono (unhide B1).size))
    have hbad : Ix.planOk l = false := by
      refine Ix.planOk_false hj (fun hn => ?_)
      rcases (Ix.besideL_nil (unhide HOK) hj).1 (Ix.linesAt_nil.1 hn).1 with h | h
      · omega
      · rw [Nat.add_sub_cancel] at h
        omega
    have HB := hide hbad
    clear b2 hbad hle
    go_wp2
    go_ret
    exact ⟨ret_bool (unhide HB).symm, unhide B2⟩
  have B2 := hide ((unhide B1).trans (b2.mono (unhide B1).size))
  have HONE := hide hone
  clear b2 hone B1
  go_wp2_with fail
  go_loopw [3] (fun i w' => ∃ k : Nat, k ≤ l.length ∧ i = .int .i64 k ∧ Below w.heap.size w w' ∧ ∀ j, j < k → Ix.linesAt l j = []) (fun i _ => l.length - (intOf i).toNat)
  case atStart => exact ⟨0, Nat.zero_le _, rfl, unhide B2, fun j hj => by omega⟩
  case round =>
    clear B2
    obtain ⟨k, hk, rfl, hw, hall⟩ := hrel
    have HW0 := hide hw
    have HA := hide hall
    clear hw hall
    by_cases hlt : k < l.length
    · obtain ⟨b, off, rfl, hb, _, hc⟩ := hrow (by omega)
      obtain ⟨fv, dv, hAt, hf, hd⟩ := hc k hlt
      clear hc hrow
      have hbn : Ix.besideL l k = [] := (Ix.besideL_nil (unhide HOK) hlt).2 (by
        rcases Nat.eq_zero_or_pos k with h | h
        · exact .inl h
        · obtain ⟨m, rfl⟩ : ∃ m, k = m + 1 := ⟨k - 1, by omega⟩
          exact .inr (unhide HONE m hlt))
      have HBN := hide hbn
      have hlens := Ix.pOk_lens (Ix.pkgs_pOk (unhide HOK) hlt)
      obtain ⟨nm, vr, fs, ds, hpk⟩ : ∃ nm vr fs ds, Ix.pg l k = (nm, vr, fs, ds) := ⟨_, _, _, _, rfl⟩
      have HPK := hide hpk
      rw [hpk] at hAt hf hd hlens
      dsimp only at hf hd hlens
      obtain ⟨hlf, hld⟩ := hlens
      obtain ⟨fa, fc, hfv, _, hfr⟩ := hf
      obtain ⟨da, dc, hdv, _, hdr⟩ := hd
      subst hfv hdv
      have hi0 : (0 : Int) ≤ (k : Int) := Int.natCast_nonneg _
      have hi1 : (k : Int) < (l.length : Int) := by omega
      have er : IntKind.i64.wrap ((k : Int) + 1) = (k : Int) + 1 := by simp [IntKind.wrap, IntKind.bits, IntKind.signed]; omega
      have hAw : Hid (∀ w', Below w.heap.size w w' → w'.cell? ⟨b, off + k * 4 + 2, none⟩ = some (.slice fa fs.length fc) ∧ w'.cell? ⟨b, off + k * 4 + 3, none⟩ = some (.slice da ds.length dc)) := fun w' hb2 => ⟨(hAt.keep (hb2.block b hb)).2.2.1, (hAt.keep (hb2.block b hb)).2.2.2⟩
      clear hAt hpk hbn
      go_wp2_with fail
      go_loopw [4] (fun jv w' => ∃ m : Nat, m ≤ ds.length ∧ jv = .int .i64 m ∧ Below w.heap.size w w' ∧ ∀ j, j < m → Ix.lackL l (nm, vr, fs, ds) (Pk.fst ds j, Pk.snd ds j) = []) (fun jv _ => ds.length - (intOf jv).toNat)
      case atStart => exact ⟨0, Nat.zero_le _, rfl, unhide HW0, fun j hj => by omega⟩
      case round =>
        clear HW0
        obtain ⟨m, hm, rfl, hw, hnd⟩ := hrel
        have HW := hide hw
        have HND := hide hnd
        clear hw hnd
        obtain ⟨c2, c3⟩ := unhide hAw wr (unhide HW)
        by_cases hlt2 : m < ds.length
        · obtain ⟨db, dof, rfl, hdb, _, hdc⟩ := hdr (by omega)
          obtain ⟨d0, d1⟩ := hdc m hlt2
          rw [← (unhide HW).cell hdb] at d0 d1
          have hj0 : (0 : Int) ≤ (m : Int) := Int.natCast_nonneg _
          have hj1 : (m : Int) < (ds.length : Int) := by omega
          have er2 : IntKind.i64.wrap ((m : Int) + 1) = (m : Int) + 1 := by simp [IntKind.wrap, IntKind.bits, IntKind.signed]; omega
          have hmem := (Ix.pair_mem hlt2).1
          have HME := hide hmem
          have hmet := Ix.met_newest (l := l) (d := (Pk.fst ds m, Pk.snd ds m)) (unhide HOK)
          have hlk := Ix.lackL_nil (l := l) (p := (nm, vr, fs, ds)) (d := (Pk.fst ds m, Pk.snd ds m))
          rw [hmet] at hlk
          have HLK := hide hlk
          clear hdc hdr hmem hmet hlk
          go_wp2_with fail
          refine (l13Meets_any _ _ l _ _ ((unhide HP).later (unhide HW))).mono ?_
          rintro e w3 ⟨rfl, b3⟩
          have HW3 := hide ((unhide HW).trans (b3.mono (unhide HW).size))
          clear b3 c2 c3 d0 d1
          cases hq : Ix.newMeets l (Pk.fst ds m, Pk.snd ds m)
          · have hbad : Ix.planOk l = false := Ix.planOk_false hlt (fun hn => by
              have h1 := (Ix.linesAt_nil.1 hn).2.1
              rw [unhide HPK] at h1
              have h2 := (unhide HLK).1 (h1 _ (unhide HME))
              rw [hq] at h2
              cases h2)
            have HB := hide hbad
            clear hbad
            go_wp2
            go_ret
            exact ⟨ret_bool (unhide HB).symm, unhide HW3⟩
          · go_wp2
            go_roundw
            case rel => exact ⟨m + 1, by omega, by go_num, unhide HW3, fun j hj => by
              rcases Nat.lt_or_ge j m with h | h
              · exact unhide HND j h
              · obtain rfl : j = m := by omega
                exact (unhide HLK).2 hq⟩
            case measure => simp [intOf]; omega
        · obtain rfl : m = ds.length := by omega
          clear hlt2 hdr
          go_wp2_with fail
          clear c2 c3
          go_loopw [5] (fun jv w' => ∃ m : Nat, m ≤ fs.length ∧ jv = .int .i64 m ∧ Below w.heap.size w w' ∧ ∀ j, j < m → Ix.placeL l k (nm, vr, fs, ds) (Pk.fst fs j, Pk.snd fs j) = []) (fun jv _ => fs.length - (intOf jv).toNat)
          case atStart => exact ⟨0, Nat.zero_le _, rfl, unhide HW, fun j hj => by omega⟩
          case round =>
            clear HW
            obtain ⟨m, hm, rfl, hw, hnf⟩ := hrel
            have HW := hide hw
            have HNF := hide hnf
            clear hw hnf
            obtain ⟨c2, c3⟩ := unhide hAw wr (unhide HW)
            by_cases hlt3 : m < fs.length
            · obtain ⟨fb, fof, rfl, hfb, _, hfc⟩ := hfr (by omega)
              obtain ⟨d0, d1⟩ := hfc m hlt3
              rw [← (unhide HW).cell hfb] at d0 d1
              have hj0 : (0 : Int) ≤ (m : Int) := Int.natCast_nonneg _
              have hj1 : (m : Int) < (fs.length : Int) := by omega
              have er2 : IntKind.i64.wrap ((m : Int) + 1) = (m : Int) + 1 := by simp [IntKind.wrap, IntKind.bits, IntKind.signed]; omega
              have HME := hide (Ix.pair_mem hlt3).1
              have HPL := hide (Ix.placeL_nil (l := l) (i := k) (p := (nm, vr, fs, ds)) (f := (Pk.fst fs m, Pk.snd fs m)))
              clear hfc hfr
              go_wp2_with fail
              refine (l13Owner_any _ _ l k (Pk.fst fs m) ((unhide HP).later (unhide HW)) hk).mono ?_
              rintro e w3 ⟨⟨n, hn, how, rfl⟩ | ⟨how, rfl⟩, b3⟩
              · have HW3 := hide ((unhide HW).trans (b3.mono (unhide HW).size))
                have hbad : Ix.planOk l = false := Ix.planOk_false hlt (fun hz => by
                  have h1 := (Ix.linesAt_nil.1 hz).2.2
                  rw [unhide HPK] at h1
                  have h2 := (unhide HPL).1 (h1 _ (unhide HME))
                  rw [how] at h2
                  cases h2)
                have HB := hide hbad
                have hge : (0 : Int) ≤ (n : Int) := Int.natCast_nonneg _
                have hge2 : decide ((0 : Int) ≤ (n : Int)) = true := decide_eq_true hge
                clear b3 c2 c3 d0 d1 hbad how
                go_wp2
                go_ret
                exact ⟨ret_bool (unhide HB).symm, unhide HW3⟩
              · have HW3 := hide ((unhide HW).trans (b3.mono (unhide HW).size))
                have HHO := hide how
                clear b3 c2 c3 d0 d1 how
                go_wp2
                go_roundw
                case rel => exact ⟨m + 1, by omega, by go_num, unhide HW3, fun j hj => by
                  rcases Nat.lt_or_ge j m with h | h
                  · exact unhide HNF j h
                  · obtain rfl : j = m := by omega
                    exact (unhide HPL).2 (unhide HHO)⟩
                case measure => simp [intOf]; omega
            · obtain rfl : m = fs.length := by omega
              clear hlt3
              go_wp2
              go_roundw
              case rel => exact ⟨k + 1, by omega, by go_num, unhide HW, fun j hj => by
                rcases Nat.lt_or_ge j k with h | h
                · exact unhide HA j h
                · obtain rfl : j = k := by omega
                  refine Ix.linesAt_nil.2 ⟨unhide HBN, fun d hd => ?_, fun f hf => ?_⟩
                  · rw [unhide HPK] at hd ⊢
                    obtain ⟨i, hi, rfl⟩ := Ix.mem_pair hd
                    exact unhide HND i hi
                  · rw [unhide HPK] at hf ⊢
                    obtain ⟨i, hi, rfl⟩ := Ix.mem_pair hf
                    exact unhide HNF i hi⟩
              case measure => simp [intOf]; omega
    · obtain rfl : k = l.length := by omega
      clear hlt
      go_wp2
      go_ret
      exact ⟨ret_bool (Ix.planOk_true (unhide HOK) (unhide HA)).symm, unhide HW0⟩
end Go.Proofs.YtoccijcngncghaaGreatDoor
