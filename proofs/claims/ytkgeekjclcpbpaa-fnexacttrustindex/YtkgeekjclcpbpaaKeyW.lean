/- What spec.KeysOk, impl.KeysOk and spec.l2Both return: whether keys are ok; how many are among both; for every row of numbers; nothing old is written. -/
import Derived.Test.YtkgeekjclcpbpaaMathW
import Derived.Test.YtkgeekjclcpbpaaInW
import Derived.Test.YtkgeekjclcpbpaaBetweenW
namespace Go.Proofs.Ytkgeekjclcpbpaa
open Go.RowKit

theorem infoI : (Try.prog.info? 3).map (fun i => (i.zero, i.size, i.bytes)) = some (some (.int .i64 0), 1, 8) := by kernel_rfl

/-- A slice of ints that can be read. -/
def Ins (w : World) (v : Value) (l : List Int) : Prop :=
  ∃ a cap, v = .slice a l.length cap ∧ l.length ≤ 1000000000000 ∧ (0 < l.length → ∃ b off, a = some ⟨b, off, none⟩ ∧ b < w.heap.size ∧ ∀ i, i < l.length → w.cell? ⟨b, off + i, none⟩ = some (.int .i64 (Ky.nth l i)))

theorem Ins.later {w w' : World} {v : Value} {l : List Int} (h : Ins w v l) (hb : Below w.heap.size w w') : Ins w' v l := by
  obtain ⟨a, cap, hv, hl, hr⟩ := h
  refine ⟨a, cap, hv, hl, fun hp => ?_⟩
  obtain ⟨b, off, ha, hbs, hc⟩ := hr hp
  exact ⟨b, off, ha, Nat.lt_of_lt_of_le hbs hb.size, fun i hi => by rw [hb.cell hbs]; exact hc i hi⟩
theorem Ins.slice {w : World} {v : Value} {l : List Int} (h : Ins w v l) : ∃ a cap, v = .slice a l.length cap := by
  obtain ⟨a, cap, hv, _⟩ := h
  exact ⟨a, cap, hv⟩
theorem Ins.nil (w : World) : Ins w (.slice none 0 0) [] := ⟨none, 0, rfl, by simp, fun h => by simp at h⟩
theorem Ins.drewN {w : World} {v : Value} {l : List Int} (h : Ins w v l) (q : Nat) : Ins (w.drewN q) v l := h
theorem Ins.drew {w : World} {v : Value} {l : List Int} (h : Ins w v l) : Ins w.drew v l := h



set_option maxHeartbeats 1000000 in
theorem specKeysOk_any (w : World) (v : Value) (l : List Int) (h : Ins w v l) :
    Calls Try.prog 98 #[v] w fun e w' => e = .returned (.bool (Ky.keysOk l)) ∧ ∃ q, w' = w.drewN q := by
  obtain ⟨a, cap, rfl, hlen, hrow⟩ := h
  go_enter Try.func98, Try.ntmps98
  go_wp2
  go_loopw [3] (fun i w' => ∃ k q : Nat, k ≤ l.length ∧ i = .int .i64 k ∧ w' = w.drewN q ∧ ∀ j, j < k → Ky.keyGood l j = true) (fun i _ => l.length - (intOf i).toNat)
  case atStart => exact ⟨0, 0, Nat.zero_le _, rfl, rfl, fun j hj => by omega⟩
  case round =>
    obtain ⟨k, q, hk, rfl, hw, hgood⟩ := hrel
    have HW : Hid _ := hw
    have HG : Hid _ := hgood
    by_cases hlt : k < l.length
    · obtain ⟨b, off, rfl, hb, hc⟩ := hrow (by omega)
      have hcw : ∀ i, i < l.length → wr.cell? ⟨b, off + i, none⟩ = some (.int .i64 (Ky.nth l i)) := by rw [hw]; exact hc
      have c1 := hcw k hlt
      have HC : Hid _ := hcw
      clear hgood hc hrow hcw hw
      have hi0 : (0 : Int) ≤ (k : Int) := Int.natCast_nonneg _
      have hi1 : (k : Int) < (l.length : Int) := by omega
      cases hA : Pk.inB (Ky.nth l k) 1 6
      · go_wp2_with fail
        go_quiet ((go_at_call 46; exact Calls.quiet_of_same (in_any _ _ _ _)))
        go_wp2
        go_ret
        exact ⟨ret_bool (Ky.keysOk_bad hlt (by simp [Ky.keyGood, hA])).symm, drewN_trans HW.out _⟩
      rcases Nat.eq_zero_or_pos k with rfl | hpos
      · simp only [Nat.add_zero] at c1
        go_wp2_with fail
        go_quiet ((go_at_call 46; exact Calls.quiet_of_same (in_any _ _ _ _)))
        go_wp2
        go_roundw
        case rel => exact ⟨1, q + _, by omega, by go_num, by rw [HW.out, World.drewN_drewN], one_lt (by simp [Ky.keyGood, hA])⟩
        case measure => simp [intOf]; omega
      · obtain ⟨m, rfl⟩ : ∃ m, k = m + 1 := ⟨k - 1, by omega⟩
        have d1 := HC.out m (by omega)
        have hp0 : decide ((0 : Int) < ((m + 1 : Nat) : Int)) = true := by simp
        by_cases hP : Ky.nth l m < Ky.nth l (m + 1)
        · have hP' : decide (Ky.nth l (m + 1) ≤ Ky.nth l m) = false := by simpa using hP
          go_wp2_with fail
          go_quiet ((go_at_call 46; exact Calls.quiet_of_same (in_any _ _ _ _)))
          go_wp2
          go_roundw
          case rel => exact ⟨m + 1 + 1, q + _, by omega, by go_num, by rw [HW.out, World.drewN_drewN], fun j hj => by
            rcases Nat.lt_or_ge j (m + 1) with h | h
            · exact HG.out j h
            · obtain rfl : j = m + 1 := by omega
              simp [Ky.keyGood, hA, hP]⟩
          case measure => simp [intOf]; omega
        · have hP' : decide (Ky.nth l (m + 1) ≤ Ky.nth l m) = true := by simpa using hP
          go_wp2_with fail
          go_quiet ((go_at_call 46; exact Calls.quiet_of_same (in_any _ _ _ _)))
          go_wp2
          go_ret
          exact ⟨ret_bool (Ky.keysOk_bad hlt (by simp [Ky.keyGood, hA]; simpa using hP)).symm, drewN_trans HW.out _⟩
    · clear hgood hw
      go_wp2
      go_ret
      exact ⟨ret_bool (Ky.keysOk_good (fun i hi => HG.out i (by omega))).symm, q, HW.out⟩

set_option maxHeartbeats 1000000 in
theorem implKeysOk_any (w : World) (v : Value) (l : List Int) (h : Ins w v l) :
    Calls Try.prog 57 #[v] w fun e w' => e = .returned (.bool (Ky.keysOk l)) ∧ ∃ q, w' = w.drewN q := by
  obtain ⟨a, cap, rfl, hlen, hrow⟩ := h
  go_enter Try.func57, Try.ntmps57
  go_wp2
  go_loopw [7] (fun i w' => ∃ k q : Nat, k ≤ l.length ∧ i = .int .i64 k ∧ w' = w.drewN q ∧ ∀ j, j < k → Ky.keyGood l j = true) (fun i _ => l.length - (intOf i).toNat)
  case atStart => exact ⟨0, 0, Nat.zero_le _, rfl, rfl, fun j hj => by omega⟩
  case round =>
    obtain ⟨k, q, hk, rfl, hw, hgood⟩ := hrel
    have HW : Hid _ := hw
    have HG : Hid _ := hgood
    by_cases hlt : k < l.length
    · obtain ⟨b, off, rfl, hb, hc⟩ := hrow (by omega)
      have hcw : ∀ i, i < l.length → wr.cell? ⟨b, off + i, none⟩ = some (.int .i64 (Ky.nth l i)) := by rw [hw]; exact hc
      have c1 := hcw k hlt
      have HC : Hid _ := hcw
      clear hgood hc hrow hcw hw
      have hi0 : (0 : Int) ≤ (k : Int) := Int.natCast_nonneg _
      have hi1 : (k : Int) < (l.length : Int) := by omega
      cases hA : Pk.inB (Ky.nth l k) 1 6
      · go_wp2_with (go_at_call 50; refine (between_any _ _ _ _).mono ?_; rintro e w' ⟨rfl, rfl⟩)
        go_ret
        exact ⟨ret_bool (Ky.keysOk_bad hlt (by simp [Ky.keyGood, hA])).symm, q, HW.out⟩
      rcases Nat.eq_zero_or_pos k with rfl | hpos
      · simp only [Nat.add_zero] at c1
        go_wp2_with (go_at_call 50; refine (between_any _ _ _ _).mono ?_; rintro e w' ⟨rfl, rfl⟩)
        go_roundw
        case rel => exact ⟨1, q, by omega, by go_num, HW.out, one_lt (by simp [Ky.keyGood, hA])⟩
        case measure => simp [intOf]; omega
      · obtain ⟨m, rfl⟩ : ∃ m, k = m + 1 := ⟨k - 1, by omega⟩
        have d1 := HC.out m (by omega)
        have hp0 : decide ((0 : Int) < ((m + 1 : Nat) : Int)) = true := by simp
        by_cases hP : Ky.nth l m < Ky.nth l (m + 1)
        · have hP' : decide (Ky.nth l (m + 1) ≤ Ky.nth l m) = false := by simpa using hP
          go_wp2_with (go_at_call 50; refine (between_any _ _ _ _).mono ?_; rintro e w' ⟨rfl, rfl⟩)
          go_roundw
          case rel => exact ⟨m + 1 + 1, q, by omega, by go_num, HW.out, fun j hj => by
            rcases Nat.lt_or_ge j (m + 1) with h | h
            · exact HG.out j h
            · obtain rfl : j = m + 1 := by omega
              simp [Ky.keyGood, hA, hP]⟩
          case measure => simp [intOf]; omega
        · have hP' : decide (Ky.nth l (m + 1) ≤ Ky.nth l m) = true := by simpa using hP
          go_wp2_with (go_at_call 50; refine (between_any _ _ _ _).mono ?_; rintro e w' ⟨rfl, rfl⟩)
          go_ret
          exact ⟨ret_bool (Ky.keysOk_bad hlt (by simp [Ky.keyGood, hA]; simpa using hP)).symm, q, HW.out⟩
    · clear hgood hw
      go_wp2
      go_ret
      exact ⟨ret_bool (Ky.keysOk_good (fun i hi => HG.out i (by omega))).symm, q, HW.out⟩

set_option maxHeartbeats 1000000 in
theorem l2Both_any (w : World) (va vb : Value) (a b : List Int) (ha : Ins w va a) (hb : Ins w vb b) (hla : a.length ≤ 1000) (hlb : b.length ≤ 1000) :
    Calls Try.prog 112 #[va, vb] w fun e w' => e = .returned (.int .i64 (Ky.both a b)) ∧ ∃ q, w' = w.drewN q := by
  obtain ⟨aa, ca, rfl, _, hra⟩ := ha
  obtain ⟨ab, cb, rfl, _, hrb⟩ := hb
  go_enter Try.func112, Try.ntmps112
  go_wp2
  go_loopw [5, 6] (fun n i w' => ∃ k q : Nat, k ≤ a.length ∧ i = .int .i64 k ∧ n = .int .i64 (Ky.both (a.take k) b) ∧ w' = w.drewN q) (fun _ i _ => a.length - (intOf i).toNat)
  case atStart => exact ⟨0, 0, Nat.zero_le _, rfl, rfl, rfl⟩
  case round =>
    obtain ⟨k, q, hk, rfl, rfl, hw⟩ := hrel
    have HW : Hid (wr = w.drewN q) := hw
    by_cases hlt : k < a.length
    · obtain ⟨ba, oa, rfl, hba, hca⟩ := hra (by omega)
      have c1 := hca k hlt
      have HC1 : Hid (w.cell? ⟨ba, oa + k, none⟩ = some (.int .i64 (Ky.nth a k))) := c1
      have hbd : Ky.both (a.take k) b ≤ 1000000 := Ky.both_bd k hla hlb
      have HS : Hid (Ky.both (a.take (k + 1)) b = Ky.both (a.take k) b + b.count (Ky.nth a k)) := Ky.both_snoc a k hlt b
      generalize Ky.both (a.take k) b = z at *
      have hi0 : (0 : Int) ≤ (k : Int) := Int.natCast_nonneg _
      have hi1 : (k : Int) < (a.length : Int) := by omega
      clear hca hra c1 hw
      go_wp2
      go_loopw [5, 7] (fun n j w' => ∃ m q : Nat, m ≤ b.length ∧ j = .int .i64 m ∧ n = .int .i64 ((z + (b.take m).count (Ky.nth a k) : Nat)) ∧ w' = w.drewN q) (fun _ j _ => b.length - (intOf j).toNat)
      case atStart => exact ⟨0, q, Nat.zero_le _, rfl, by simp, HW.out⟩
      case round =>
        obtain ⟨m, q', hm, rfl, rfl, hw2⟩ := hrel
        have HW2 : Hid (wr = w.drewN q') := hw2
        have hcd : (b.take m).count (Ky.nth a k) ≤ 1000 := Nat.le_trans List.count_le_length (by rw [List.length_take]; omega)
        by_cases hlt2 : m < b.length
        · obtain ⟨bb, ob, rfl, hbb, hcb⟩ := hrb (by omega)
          have c1 : wr.cell? ⟨ba, oa + k, none⟩ = some (.int .i64 (Ky.nth a k)) := by rw [hw2]; exact HC1.out
          have c2 : wr.cell? ⟨bb, ob + m, none⟩ = some (.int .i64 (Ky.nth b m)) := by rw [hw2]; exact hcb m hlt2
          have HT : Hid ((b.take (m + 1)).count (Ky.nth a k) = (b.take m).count (Ky.nth a k) + (if Ky.nth a k = Ky.nth b m then 1 else 0)) := Ky.count_snoc b m hlt2 _
          generalize (b.take m).count (Ky.nth a k) = y at *
          have hj0 : (0 : Int) ≤ (m : Int) := Int.natCast_nonneg _
          have hj1 : (m : Int) < (b.length : Int) := by omega
          clear hcb hrb hw2
          by_cases hE : Ky.nth a k = Ky.nth b m
          · have hE' : (Ky.nth a k == Ky.nth b m) = true := by simpa using hE
            have HE : Hid (Ky.nth a k = Ky.nth b m) := hE
            clear hE
            go_wp2_with fail
            go_quiet (fail)
            go_wp2
            go_roundw
            case rel => exact ⟨m + 1, q' + _, by omega, by go_num, by rw [HT.out, if_pos HE.out]; rfl, by rw [HW2.out, World.drewN_drewN]⟩
            case measure => simp [intOf]; omega
          · have hE' : (Ky.nth a k == Ky.nth b m) = false := by simpa using hE
            have HE : Hid (¬ Ky.nth a k = Ky.nth b m) := hE
            clear hE
            go_wp2_with fail
            go_quiet (fail)
            go_wp2
            go_roundw
            case rel => exact ⟨m + 1, q' + _, by omega, by go_num, by rw [HT.out, if_neg HE.out]; rfl, by rw [HW2.out, World.drewN_drewN]⟩
            case measure => simp [intOf]; omega
        · obtain rfl : m = b.length := by omega
          clear hw2
          go_wp2
          go_roundw
          case rel => exact ⟨k + 1, q', by omega, by go_num, by rw [HS.out, List.take_of_length_le (Nat.le_refl _)], HW2.out⟩
          case measure => simp [intOf]; omega
    · obtain rfl : k = a.length := by omega
      clear hw
      go_wp2
      go_ret
      exact ⟨ret_int (by rw [List.take_of_length_le (Nat.le_refl _)]), q, HW.out⟩
end Go.Proofs.Ytkgeekjclcpbpaa
