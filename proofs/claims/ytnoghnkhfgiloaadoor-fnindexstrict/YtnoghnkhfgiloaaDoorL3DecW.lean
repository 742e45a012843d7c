import Derived.Test.YtnoghnkhfgiloaaDoorMixA
import Derived.Test.YtnoghnkhfgiloaaDoorSIdxMath
/- What spec.l3Dec returns: a number of one to four figures, or -1; for every text. -/
namespace Go.Proofs.YtnoghnkhfgiloaaDoor
open Go.RowKit


theorem take_snocD (s : ByteArray) (k : Nat) (h : k < s.size) : s.data.toList.take (k + 1) = s.data.toList.take k ++ [s[k]] := by
  rw [List.take_succ_eq_append_getElem (by simpa using h)]; rfl
theorem Ix.all_not {l : List UInt8} {k : Nat} {c : UInt8} (h : l[k]? = some c) (hc : Ix.digit c = false) : l.all Ix.digit = false := by
  rw [Bool.eq_false_iff]
  intro ha
  rw [List.all_eq_true] at ha
  have := ha c (List.mem_of_getElem? h)
  rw [hc] at this
  cases this
set_option maxHeartbeats 2000000 in
set_option maxRecDepth 100000 in
theorem l3Dec_any (s : ByteArray) (hs : s.size ≤ 1000) (w : World) : Calls Tryd.prog 34 #[.string s] w fun e w' => e = .returned (.int .i64 (Ix.l3dec s.data.toList)) ∧ w' = w := by
  have hz : s.data.toList.length = s.size := Array.length_toList
  by_cases hin : 1 ≤ s.size ∧ s.size ≤ 4
  rotate_left
  · have hb : Pk.inB (s.size : Int) 1 4 = false := Pk.inB_false.2 (by omega)
    have HN : Hid (Ix.l3dec s.data.toList = -1) := by
      show _ = _
      unfold Ix.l3dec
      rw [if_neg (by rw [hz]; exact fun h => hin h.1)]
    clear hin hz
    go_enter Tryd.func34, Tryd.ntmps34
    go_wp2_with fail
    refine (in_any _ _ _ _).mono ?_
    rw [hb]
    rintro e w1 ⟨rfl, rfl⟩
    go_wp2
    go_ret
    exact ⟨ret_int (unhide HN).symm, rfl⟩
  · have hb : Pk.inB (s.size : Int) 1 4 = true := Pk.inB_true.2 (by omega)
    have HZ := hide hz
    have HI := hide hin
    have hs4 : s.size ≤ 4 := hin.2
    clear hin hz
    go_enter Tryd.func34, Tryd.ntmps34
    go_wp2_with fail
    refine (in_any _ _ _ _).mono ?_
    rw [hb]
    rintro e w1 ⟨rfl, rfl⟩
    go_wp2_with fail
    go_loop [3, 4] (fun n i => ∃ k : Nat, k ≤ s.size ∧ i = .int .i64 k ∧ n = .int .i64 (Ix.valF (s.data.toList.take k)) ∧ (s.data.toList.take k).all Ix.digit = true) (fun _ i => s.size - (intOf i).toNat)
    case atStart => exact ⟨0, Nat.zero_le _, rfl, rfl, rfl⟩
    case round =>
      obtain ⟨k, hk, rfl, rfl, hd⟩ := hrel
      have hv := Ix.valF_lt _ hd
      have hvl : Ix.valF (s.data.toList.take k) < 10000 := by
        have : (s.data.toList.take k).length ≤ 4 := by rw [List.length_take]; omega
        exact Nat.lt_of_lt_of_le hv (Nat.pow_le_pow_right (by decide) this)
      have HD := hide hd
      clear hv hd
      by_cases hlt : k < s.size
      · have hb : s[k].toNat < 256 := s[k].toNat_lt
        have HT := hide (take_snocD s k hlt)
        have hi0 : (0 : Int) ≤ (k : Int) := Int.natCast_nonneg _
        have hi1 : (k : Int) < (s.size : Int) := by omega
        have HG : Hid (s.data.toList[k]? = some s[k]) := by
          show _ = _
          rw [List.getElem?_eq_getElem (by rw [Array.length_toList]; exact hlt)]
          rfl
        by_cases hlo : s[k].toNat < 48
        · have HNO : Hid (Ix.l3dec s.data.toList = -1) := by
            show _ = _
            unfold Ix.l3dec
            rw [if_neg (fun h => by have h2 := Ix.all_not (unhide HG) (show Ix.digit s[k] = false by unfold Ix.digit; rw [decide_eq_false (by omega)]; rfl); rw [h.2] at h2; cases h2)]
          have h48 : ((s[k].toNat : Nat) : Int) < 48 := by omega
          go_wp2
          go_ret
          exact ⟨ret_int (unhide HNO).symm, rfl⟩
        · by_cases hhi : 57 < s[k].toNat
          · have HNO : Hid (Ix.l3dec s.data.toList = -1) := by
              show _ = _
              unfold Ix.l3dec
              rw [if_neg (fun h => by have h2 := Ix.all_not (unhide HG) (show Ix.digit s[k] = false by unfold Ix.digit; rw [decide_eq_false (show ¬ s[k].toNat ≤ 57 by omega), Bool.and_false]); rw [h.2] at h2; cases h2)]
            have h48 : ¬ ((s[k].toNat : Nat) : Int) < 48 := by omega
            have h57 : (57 : Int) < ((s[k].toNat : Nat) : Int) := by omega
            go_wp2
            go_ret
            exact ⟨ret_int (unhide HNO).symm, rfl⟩
          · have h48 : ¬ ((s[k].toNat : Nat) : Int) < 48 := by omega
            have h57 : ¬ (57 : Int) < ((s[k].toNat : Nat) : Int) := by omega
            have HA : Hid ((s.data.toList.take (k + 1)).all Ix.digit = true) := by
              show _ = _
              rw [unhide HT, List.all_append, unhide HD]
              simp [Ix.digit]
              omega
            have HV : Hid ((Ix.valF (s.data.toList.take (k + 1)) : Int) = 10 * (Ix.valF (s.data.toList.take k) : Int) + (((s[k].toNat : Nat) : Int) - 48)) := by
              show _ = _
              rw [unhide HT, Ix.valF_snoc]
              omega
            generalize Ix.valF (s.data.toList.take k) = v at *
            have ew1 : IntKind.i64.wrap (10 * (v : Int)) = 10 * (v : Int) := by simp [IntKind.wrap, IntKind.bits, IntKind.signed]; omega
            have ew2 : IntKind.u8.wrap (((s[k].toNat : Nat) : Int) - 48) = ((s[k].toNat : Nat) : Int) - 48 := by simp [IntKind.wrap, IntKind.bits, IntKind.signed]; omega
            have ew3 : IntKind.i64.wrap (((s[k].toNat : Nat) : Int) - 48) = ((s[k].toNat : Nat) : Int) - 48 := by simp [IntKind.wrap, IntKind.bits, IntKind.signed]; omega
            have ew4 : IntKind.i64.wrap (10 * (v : Int) + (((s[k].toNat : Nat) : Int) - 48)) = 10 * (v : Int) + (((s[k].toNat : Nat) : Int) - 48) := by simp [IntKind.wrap, IntKind.bits, IntKind.signed]; omega
            clear hlo hhi
            go_wp2
            go_round
            case rel => exact ⟨k + 1, by omega, by go_num, by rw [unhide HV], unhide HA⟩
            case measure => simp [intOf]; omega
      · obtain rfl : k = s.size := by omega
        have hfull : s.data.toList.take s.size = s.data.toList := List.take_of_length_le (by rw [unhide HZ]; exact Nat.le_refl _)
        rw [hfull] at HD ⊢
        have HY : Hid (Ix.l3dec s.data.toList = (Ix.valF s.data.toList : Int)) := by
          show _ = _
          unfold Ix.l3dec
          rw [if_pos ⟨by rw [unhide HZ]; exact unhide HI, unhide HD⟩]
        clear hfull hlt
        go_wp2
        go_ret
        exact ⟨ret_int (unhide HY).symm, rfl⟩
end Go.Proofs.YtnoghnkhfgiloaaDoor
