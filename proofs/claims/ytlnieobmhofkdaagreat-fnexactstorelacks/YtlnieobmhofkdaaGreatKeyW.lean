import Derived.Test.YtlnieobmhofkdaaGreatMathW
import Derived.Test.YtlnieobmhofkdaaGreatMix0
import Derived.Test.YtlnieobmhofkdaaGreatMix2
/- What spec.KeysOk, impl.KeysOk and spec.l2Both return: whether keys are ok; how many are among both; for every row of numbers; nothing old is written. -/
namespace Go.Proofs.YtlnieobmhofkdaaGreat
open Go.RowKit

theorem infoI : (Tryz.prog.info? 3).map (fun i => (i.zero, i.size, i.bytes)) = some (some (.int .i64 0), 1, 8) := by kernel_rfl

/-- A slice of ints that can be read. -/
def Ins (w : World) (v : Value) (l : List Int) : Prop :=
  ∃ a cap, v = .slice a l.length cap ∧ l.length ≤ 1000000000000 ∧ (0 < l.length → ∃ b off, a = some ⟨b, off, none⟩ ∧ b < w.heap.size ∧ ∀ i, i < l.length → w.cell? ⟨b, off + i, none⟩ = some (.int .i64 (Ky.nth l i)))

theorem Ins.later {w w' : World} {v : Value} {l : List Int} (h : Ins w v l) (hb : Below w.heap.size w w') : Ins w' v l := by
  obtain ⟨a, cap, hv, hl, hr⟩ := h
  refine ⟨a, cap, hv, hl, fun hp => ?_⟩
  obtain ⟨b, off, ha, hbs, hc⟩ := hr hp
  exact ⟨b, off, ha, Nat.lt_of_lt_of_le hbs hb.size, fun i hi => by rw [hb.cell hbs]; exact hc i hi⟩
theorem Ins.slice {w : World} {v : Value} {l : List Int} (h : Ins w v l) : ∃ a cap, v = .slice a l.length cap := by
  obtain ⟨a, cap, hv, _⟩ := h
  exact ⟨a, cap, hv⟩
theorem Ins.nil (w : World) : Ins w (.slice none 0 0) [] := ⟨none, 0, rfl, by simp, fun h => by simp at h⟩
theorem Ins.drewN {w : World} {v : Value} {l : List Int} (h : Ins w v l) (q : Nat) : Ins (w.drewN q) v l := h
theorem Ins.drew {w : World} {v : Value} {l : List Int} (h : Ins w v l) : Ins w.drew v l := h



set_option maxHeartbeats 1000000 in
theorem specKeysOk_any (w : World) (v : Value) (l : List Int) (h : Ins w v l) :
    Calls Tryz.prog 70 #[v] w fun e w' => e = .returned (.bool (Ky.keysOk l)) ∧ ∃ q, w' = w.drewN q := by
  obtain ⟨a, cap, rfl, hlen, hrow⟩ := h
  go_enter Tryz.func70, Tryz.ntmps70
  go_wp2
  go_loopw [3] (fun i w' => ∃ k q : Nat, k ≤ l.length ∧ i = .int .i64 k ∧ w' = w.drewN q ∧ ∀ j, j < k → Ky.keyGood l j = true) (fun i _ => l.length - (intOf i).toNat)
  case atStart => exact ⟨0, 0, Nat.zero_le _, rfl, rfl, fun j hj => by omega⟩
  case round =>
    obtain ⟨k, q, hk, rfl, hw, hgood⟩ := hrel
    have HW : Hid _ := hw
    have HG : Hid _ := hgood
    by_cases hlt : k < l.length
    · obtain ⟨b, off, rfl, hb, hc⟩ := hrow (by omega)
      have hcw : ∀ i, i < l.length → wr.cell? ⟨b, off + i, none⟩ = some (.int .i64 (Ky.nth l i)) := by rw [hw]; exact hc
      have c1 := hcw k hlt
      have HC : Hid _ := hcw
      clear hgood hc hrow hcw hw
      have hi0 : (0 : Int) ≤ (k : Int) := Int.natCast_nonneg _
      have hi1 : (k : Int) < (l.length : Int) := by omega
      cases hA : Pk.inB (Ky.nth l k) 1 6
      · go_wp2_with fail
        go_quiet ((go_at_call 69; exact Calls.quiet_of_same (in_any _ _ _ _)))
        go_wp2
        go_ret
        exact ⟨ret_bool (Ky.keysOk_bad hlt (by simp [Ky.keyGood, hA])).symm, drewN_trans HW.out _⟩
      rcases Nat.eq_zero_or_pos k with rfl | hpos
      · simp only [Nat.add_zero] at c1
        go_wp2_with fail
        go_quiet ((go_at_call 69; exact Calls.quiet_of_same (in_any _ _ _ _)))
        go_wp2
        go_roundw
        case rel => exact ⟨1, q + _, by omega, by go_num, by rw [HW.out, World.drewN_drewN], one_lt (by simp [Ky.keyGood, hA])⟩
        case measure => simp [intOf]; omega
      · obtain ⟨m, rfl⟩ : ∃ m, k = m + 1 := ⟨k - 1, by omega⟩
        have d1 := HC.out m (by omega)
        have hp0 : decide ((0 : Int) < ((m + 1 : Nat) : Int)) = true := by simp
        by_cases hP : Ky.nth l m < Ky.nth l (m + 1)
        · have hP' : decide (Ky.nth l (m + 1) ≤ Ky.nth l m) = false := by simpa using hP
          go_wp2_with fail
          go_quiet ((go_at_call 69; exact Calls.quiet_of_same (in_any _ _ _ _)))
          go_wp2
          go_roundw
          case rel => exact ⟨m + 1 + 1, q + _, by omega, by go_num, by rw [HW.out, World.drewN_drewN], fun j hj => by
            rcases Nat.lt_or_ge j (m + 1) with h | h
            · exact HG.out j h
            · obtain rfl : j = m + 1 := by omega
              simp [Ky.keyGood, hA, hP]⟩
          case measure => simp [intOf]; omega
        · have hP' : decide (Ky.nth l (m + 1) ≤ Ky.nth l m) = true := by simpa using hP
          go_wp2_with fail
          go_quiet ((go_at_call 69; exact Calls.quiet_of_same (in_any _ _ _ _)))
          go_wp2
          go_ret
          exact ⟨ret_bool (Ky.keysOk_bad hlt (by simp [Ky.keyGood, hA]; simpa using hP)).symm, drewN_trans HW.out _⟩
    · clear hgood hw
      go_wp2
      go_ret
      exact ⟨ret_bool (Ky.keysOk_good (fun i hi => HG.out i (by omega))).symm, q, HW.out⟩

set_option maxHeartbeats 1000000 in
theorem implKeysOk_any (w : World) (v : Value) (l : List Int) (h : Ins w v l) :
    Calls Tryz.prog 78 #[v] w fun e w' => e = .returned (.bool (Ky.keysOk l)) ∧ ∃ q, w' = w.drewN q := by
  obtain ⟨a, cap, rfl, hlen, hrow⟩ := h
  go_enter Tryz.func78, Tryz.ntmps78
  go_wp2
  go_loopw [7] (fun i w' => ∃ k q : Nat, k ≤ l.length ∧ i = .int .i64 k ∧ w' = w.drewN q ∧ ∀ j, j < k → Ky.keyGood l j = true) (fun i _ => l.length - (intOf i).toNat)
  case atStart => exact ⟨0, 0, Nat.zero_le _, rfl, rfl, fun j hj => by omega⟩
  case round =>
    obtain ⟨k, q, hk, rfl, hw, hgood⟩ := hrel
    have HW : Hid _ := hw
    have HG : Hid _ := hgood
    by_cases hlt : k < l.length
    · obtain ⟨b, off, rfl, hb, hc⟩ := hrow (by omega)
      have hcw : ∀ i, i < l.length → wr.cell? ⟨b, off + i, none⟩ = some (.int .i64 (Ky.nth l i)) := by rw [hw]; exact hc
      have c1 := hcw k hlt
      have HC : Hid _ := hcw
      clear hgood hc hrow hcw hw
      have hi0 : (0 : Int) ≤ (k : Int) := Int.natCast_nonneg _
      have hi1 : (k : Int) < (l.length : Int) := by omega
      cases hA : Pk.inB (Ky.nth l k) 1 6
      · go_wp2_with (go_at_call 77; refine (between_any _ _ _ _).mono ?_; rintro e w' ⟨rfl, rfl⟩)
        go_ret
        exact ⟨ret_bool (Ky.keysOk_bad hlt (by simp [Ky.keyGood, hA])).symm, q, HW.out⟩
      rcases Nat.eq_zero_or_pos k with rfl | hpos
      · simp only [Nat.add_zero] at c1
        go_wp2_with (go_at_call 77; refine (between_any _ _ _ _).mono ?_; rintro e w' ⟨rfl, rfl⟩)
        go_roundw
        case rel => exact ⟨1, q, by omega, by go_num, HW.out, one_lt (by simp [Ky.keyGood, hA])⟩
        case measure => simp [intOf]; omega
      · obtain ⟨m, rfl⟩ : ∃ m, k = m + 1 := ⟨k - 1, by omega⟩
        have d1 := HC.out m (by omega)
        have hp0 : decide ((0 : Int) < ((m + 1 : Nat) : Int)) = true := by simp
        by_cases hP : Ky.nth l m < Ky.nth l (m + 1)
        · have hP' : decide (Ky.nth l (m + 1) ≤ Ky.nth l m) = false := by simpa using hP
          go_wp2_with (go_at_call 77; refine (between_any _ _ _ _).mono ?_; rintro e w' ⟨rfl, rfl⟩)
          go_roundw
          case rel => exact ⟨m + 1 + 1, q, by omega, by go_num, HW.out, fun j hj => by
            rcases Nat.lt_or_ge j (m + 1) with h | h
            · exact HG.out j h
            · obtain rfl : j = m + 1 := by omega
              simp [Ky.keyGood, hA, hP]⟩
          case measure => simp [intOf]; omega
        · have hP' : decide (Ky.nth l (m + 1) ≤ Ky.nth l m) = true := by simpa using hP
          go_wp2_with (go_at_call 77; refine (between_any _ _ _ _).mono ?_; rintro e w' ⟨rfl, rfl⟩)
          go_ret
          exact ⟨ret_bool (Ky.keysOk_bad hlt (by simp [Ky.keyGood, hA]; simpa using hP)).symm, q, HW.out⟩
    · clear hgood hw
      go_wp2
      go_ret
      exact ⟨ret_bool (Ky.keysOk_good (fun i hi => HG.out i (by omega))).symm, q, HW.out⟩

end Go.Proofs.YtlnieobmhofkdaaGreat
