/- The walk of laws.FnSumByte: it returns true at whatever two rows of bytes; nothing old is written. -/
import Derived.Test.YtfhdcapkoahflabSumDrawW
import Derived.Test.YtfhdcapkoahflabSumW
import Derived.WalkSpells
namespace Go.Proofs.Ytfhdcapkoahflab
open Go.RowKit

attribute [local go_sem ↓] Go.wp_at_zero Go.wp_at_succ

/-- From the draw on: a text, a place in it, a number that is added to its byte. -/
theorem byte_end (s : ByteArray) (k : Nat) (hk : k < s.size) (y : Int) (hy : 1 ≤ y) (hy' : y ≤ 255) (x : Int) (hx : x = ((s[k].toNat : Int) + y) % 256) :
    Sm.sum (s.extract 0 k ++ ⟨#[Pk.b8 x]⟩ ++ s.extract (k + 1) s.size : ByteArray).data.toList ≠ Sm.sum s.data.toList := by
  have e1 : s.data.toList = s.data.toList.take k ++ (s[k] :: s.data.toList.drop (k + 1)) := by
    have hk' : k < s.data.toList.length := by simpa using hk
    have : s[k] = s.data.toList[k] := rfl
    rw [this, List.getElem_cons_drop, List.take_append_drop]
  have e2 : (s.extract 0 k ++ ⟨#[Pk.b8 x]⟩ ++ s.extract (k + 1) s.size : ByteArray).data.toList = s.data.toList.take k ++ (Pk.b8 x :: s.data.toList.drop (k + 1)) := by
    simp only [ByteArray.data_append, ByteArray.data_extract, Array.toList_append, Array.toList_extract, List.extract_eq_take_drop, List.drop_zero, Nat.sub_zero, List.append_assoc, List.cons_append, List.nil_append]
    congr 2
    rw [List.take_of_length_le]
    simp
  rw [e2]
  conv => rhs; rw [e1]
  refine Sm.sum_change _ _ (fun h => ?_)
  have hb : ((Pk.b8 x).toNat : Int) = x := b8_toNat (by omega) (by omega)
  have h2 : s[k].toNat < 256 := s[k].toNat_lt
  rw [← h] at hb
  omega

theorem wrap_fit {v : Int} (h0 : 0 ≤ v) (h1 : v ≤ 9000000000000000000) : IntKind.i64.wrap v = v := by simp [IntKind.wrap, IntKind.bits, IntKind.signed]; omega

set_option maxHeartbeats 2000000 in
theorem sumByte_walk (a0 a1 : Option Addr) (len0 cap0 len1 cap1 : Nat) (w : World) (w0 : Bytes w a0 len0 cap0) (w1 : Bytes w a1 len1 cap1) :
    Calls Try.prog 3 #[.slice a0 len0 cap0, .slice a1 len1 cap1] w fun e w' => e = .returned (.bool true) ∧ Below w.heap.size w w' := by
  have h1 : len1 ≤ maxLen := Nat.le_trans w1.1 w1.2.1
  have h0 : len0 ≤ maxLen := Nat.le_trans w0.1 w0.2.1
  unfold maxLen at h0 h1
  have W0 : Hid (Bytes _ _ _ _) := w0
  have W1 : Hid (Bytes _ _ _ _) := w1
  clear w0 w1
  by_cases g0 : len0 ≤ 1048576
  · by_cases g1 : len1 ≤ 1048576
    · go_enter Try.func3, Try.ntmps3
      go_wp2_with fail
      refine (drawSum_any w a0 len0 cap0 (unhide W0)).mono ?_
      rintro e w2 ⟨s, hs, rfl, hb2⟩
      have HB2 : Hid (Below _ _ _) := hb2
      have W2 : Hid (Bytes _ _ _ _) := (unhide W1).later hb2
      clear hb2 W0 W1
      obtain ⟨n, hn⟩ : ∃ n, Sm.sum s.data.toList = n := ⟨_, rfl⟩
      have HN := hide hn
      clear hn
      have hnn : (n != n) = false := by simp
      go_wp2_with fail
      refine (implSum_any s w2 (by unfold maxLen; omega)).mono ?_
      rintro e w4 ⟨rfl, rfl⟩
      rw [unhide HN]
      go_wp2_with fail
      refine (specSum_any s w4 (by unfold maxLen; omega)).mono ?_
      rintro e w5 ⟨rfl, rfl⟩
      rw [unhide HN]
      cases hse : s.toList.isEmpty
      · have hsn : ¬ s = ByteArray.empty := fun h => by rw [h, ByteArray.toList_eq] at hse; cases hse
        have hs0 : 0 < s.size := Nat.pos_of_ne_zero (fun h => hsn (ByteArray.size_eq_zero_iff.1 h))
        have hb0 : ((s.size : Int) == 0) = false := by simp; exact hsn
        have r0 : (0 : Int) ≤ (len1 : Int) % (s.size : Int) := Int.emod_nonneg _ (by omega)
        have r1 : (len1 : Int) % (s.size : Int) < (s.size : Int) := Int.emod_lt_of_pos _ (by omega)
        by_cases hl : 0 < len1
        · obtain ⟨b, off, rfl, hbs, hc⟩ := (unhide W2).2.2 hl
          obtain ⟨z, z0, z1, hz⟩ := hc 0 hl
          rw [Nat.add_zero] at hz
          clear hc
          by_cases hzp : 0 < z
          · have hzp' : decide ((0 : Int) < z) = true := by simpa using hzp
            obtain ⟨k, hk⟩ : ∃ k : Nat, (len1 : Int) % (s.size : Int) = (k : Int) := ⟨_, (Int.toNat_of_nonneg r0).symm⟩
            have hk' : k < s.size := by omega
            have hc2 : s[k].toNat < 256 := s[k].toNat_lt
            have i0 : (0 : Int) ≤ (k : Int) := Int.natCast_nonneg _
            have i1 : (k : Int) ≤ (s.size : Int) := by omega
            have i2 : (k : Int) < (s.size : Int) := by omega
            have i3 : (k : Int) + 1 ≤ (s.size : Int) := by omega
            have i4 : (0 : Int) ≤ (k : Int) + 1 := by omega
            have e1 : IntKind.i64.wrap ((k : Int) + 1) = (k : Int) + 1 := wrap_fit (by omega) (by omega)
            have e2 : IntKind.i64.wrap (s[k].toNat : Int) = (s[k].toNat : Int) := wrap_fit (by omega) (by omega)
            have e3 : IntKind.i64.wrap ((s[k].toNat : Int) + z) = (s[k].toNat : Int) + z := wrap_fit (by omega) (by omega)
            obtain ⟨x, hx⟩ : ∃ x, IntKind.u8.wrap ((s[k].toNat : Int) + z) = x := ⟨_, rfl⟩
            have hx2 : x = ((s[k].toNat : Int) + z) % 256 := by rw [← hx]; simp [IntKind.wrap, IntKind.bits, IntKind.signed]
            have hend : (Sm.sum (s.extract 0 k ++ ⟨#[Pk.b8 x]⟩ ++ s.extract (k + 1) s.size : ByteArray).data.toList != n) = true := by rw [bne_iff_ne, ← unhide HN]; exact byte_end s k hk' z (by omega) (by omega) x hx2
            have x0 : 0 ≤ x := by omega
            have x1 : x < 256 := by omega
            have hsz : (s.extract 0 k ++ ⟨#[Pk.b8 x]⟩ ++ s.extract (k + 1) s.size : ByteArray).size ≤ maxLen := by
              rw [ByteArray.size_append, ByteArray.size_append, ByteArray.size_extract, ByteArray.size_extract]
              have : (⟨#[Pk.b8 x]⟩ : ByteArray).size = 1 := rfl
              unfold maxLen
              omega
            have HSZ := hide hsz
            have HB6 : Hid (Below w.heap.size w ((w5.alloc (.cells #[.int .u8 x] 5)).drew)) := ((unhide HB2).alloc (unhide HB2).size _).drew
            generalize hstr : Sm.sum (s.extract 0 k ++ ⟨#[Pk.b8 x]⟩ ++ s.extract (k + 1) s.size : ByteArray).data.toList = fin at hend
            have HSTR := hide hstr
            clear hx2 hstr hsz
            have hcv := fun (wx : World) (b c : Nat) (h : wx.cell? ⟨b, 0, none⟩ = some (.int .u8 x)) => conv_one wx b x c x0 x1 h
            go_wp2_with fail
            go_region_with (go_at_call 7; refine (implSum_any _ _ (unhide HSZ)).mono ?_; rintro e w6 ⟨rfl, rfl⟩; rw [unhide HSTR])
            go_wp2
            go_ret
            exact ⟨rfl, unhide HB6⟩
          · have hzp' : decide ((0 : Int) < z) = false := by simpa using hzp
            obtain ⟨k, hk⟩ : ∃ k : Nat, (len1 : Int) % (s.size : Int) = (k : Int) := ⟨_, (Int.toNat_of_nonneg r0).symm⟩
            have hk' : k < s.size := by omega
            have hc2 : s[k].toNat < 256 := s[k].toNat_lt
            have i0 : (0 : Int) ≤ (k : Int) := Int.natCast_nonneg _
            have i1 : (k : Int) ≤ (s.size : Int) := by omega
            have i2 : (k : Int) < (s.size : Int) := by omega
            have i3 : (k : Int) + 1 ≤ (s.size : Int) := by omega
            have i4 : (0 : Int) ≤ (k : Int) + 1 := by omega
            have e1 : IntKind.i64.wrap ((k : Int) + 1) = (k : Int) + 1 := wrap_fit (by omega) (by omega)
            have e2 : IntKind.i64.wrap (s[k].toNat : Int) = (s[k].toNat : Int) := wrap_fit (by omega) (by omega)
            have e3 : IntKind.i64.wrap ((s[k].toNat : Int) + 1) = (s[k].toNat : Int) + 1 := wrap_fit (by omega) (by omega)
            obtain ⟨x, hx⟩ : ∃ x, IntKind.u8.wrap ((s[k].toNat : Int) + 1) = x := ⟨_, rfl⟩
            have hx2 : x = ((s[k].toNat : Int) + 1) % 256 := by rw [← hx]; simp [IntKind.wrap, IntKind.bits, IntKind.signed]
            have hend : (Sm.sum (s.extract 0 k ++ ⟨#[Pk.b8 x]⟩ ++ s.extract (k + 1) s.size : ByteArray).data.toList != n) = true := by rw [bne_iff_ne, ← unhide HN]; exact byte_end s k hk' 1 (by omega) (by omega) x hx2
            have x0 : 0 ≤ x := by omega
            have x1 : x < 256 := by omega
            have hsz : (s.extract 0 k ++ ⟨#[Pk.b8 x]⟩ ++ s.extract (k + 1) s.size : ByteArray).size ≤ maxLen := by
              rw [ByteArray.size_append, ByteArray.size_append, ByteArray.size_extract, ByteArray.size_extract]
              have : (⟨#[Pk.b8 x]⟩ : ByteArray).size = 1 := rfl
              unfold maxLen
              omega
            have HSZ := hide hsz
            have HB6 : Hid (Below w.heap.size w ((w5.alloc (.cells #[.int .u8 x] 5)).drew)) := ((unhide HB2).alloc (unhide HB2).size _).drew
            generalize hstr : Sm.sum (s.extract 0 k ++ ⟨#[Pk.b8 x]⟩ ++ s.extract (k + 1) s.size : ByteArray).data.toList = fin at hend
            have HSTR := hide hstr
            clear hx2 hstr hsz
            have hcv := fun (wx : World) (b c : Nat) (h : wx.cell? ⟨b, 0, none⟩ = some (.int .u8 x)) => conv_one wx b x c x0 x1 h
            go_wp2_with fail
            go_region_with (go_at_call 7; refine (implSum_any _ _ (unhide HSZ)).mono ?_; rintro e w6 ⟨rfl, rfl⟩; rw [unhide HSTR])
            go_wp2
            go_ret
            exact ⟨rfl, unhide HB6⟩
        · have hl' : decide ((0 : Int) < (len1 : Int)) = false := by simpa using hl
          obtain ⟨k, hk⟩ : ∃ k : Nat, (len1 : Int) % (s.size : Int) = (k : Int) := ⟨_, (Int.toNat_of_nonneg r0).symm⟩
          have hk' : k < s.size := by omega
          have hc2 : s[k].toNat < 256 := s[k].toNat_lt
          have i0 : (0 : Int) ≤ (k : Int) := Int.natCast_nonneg _
          have i1 : (k : Int) ≤ (s.size : Int) := by omega
          have i2 : (k : Int) < (s.size : Int) := by omega
          have i3 : (k : Int) + 1 ≤ (s.size : Int) := by omega
          have i4 : (0 : Int) ≤ (k : Int) + 1 := by omega
          have e1 : IntKind.i64.wrap ((k : Int) + 1) = (k : Int) + 1 := wrap_fit (by omega) (by omega)
          have e2 : IntKind.i64.wrap (s[k].toNat : Int) = (s[k].toNat : Int) := wrap_fit (by omega) (by omega)
          have e3 : IntKind.i64.wrap ((s[k].toNat : Int) + 1) = (s[k].toNat : Int) + 1 := wrap_fit (by omega) (by omega)
          obtain ⟨x, hx⟩ : ∃ x, IntKind.u8.wrap ((s[k].toNat : Int) + 1) = x := ⟨_, rfl⟩
          have hx2 : x = ((s[k].toNat : Int) + 1) % 256 := by rw [← hx]; simp [IntKind.wrap, IntKind.bits, IntKind.signed]
          have hend : (Sm.sum (s.extract 0 k ++ ⟨#[Pk.b8 x]⟩ ++ s.extract (k + 1) s.size : ByteArray).data.toList != n) = true := by rw [bne_iff_ne, ← unhide HN]; exact byte_end s k hk' 1 (by omega) (by omega) x hx2
          have x0 : 0 ≤ x := by omega
          have x1 : x < 256 := by omega
          have hsz : (s.extract 0 k ++ ⟨#[Pk.b8 x]⟩ ++ s.extract (k + 1) s.size : ByteArray).size ≤ maxLen := by
            rw [ByteArray.size_append, ByteArray.size_append, ByteArray.size_extract, ByteArray.size_extract]
            have : (⟨#[Pk.b8 x]⟩ : ByteArray).size = 1 := rfl
            unfold maxLen
            omega
          have HSZ := hide hsz
          have HB6 : Hid (Below w.heap.size w ((w5.alloc (.cells #[.int .u8 x] 5)).drew)) := ((unhide HB2).alloc (unhide HB2).size _).drew
          generalize hstr : Sm.sum (s.extract 0 k ++ ⟨#[Pk.b8 x]⟩ ++ s.extract (k + 1) s.size : ByteArray).data.toList = fin at hend
          have HSTR := hide hstr
          clear hx2 hstr hsz
          have hcv := fun (wx : World) (b c : Nat) (h : wx.cell? ⟨b, 0, none⟩ = some (.int .u8 x)) => conv_one wx b x c x0 x1 h
          go_wp2_with fail
          go_region_with (go_at_call 7; refine (implSum_any _ _ (unhide HSZ)).mono ?_; rintro e w6 ⟨rfl, rfl⟩; rw [unhide HSTR])
          go_wp2
          go_ret
          exact ⟨rfl, unhide HB6⟩
      · go_wp2_with fail
        refine (specSum_any s w5 (by unfold maxLen; omega)).mono ?_
        rintro e w6 ⟨rfl, rfl⟩
        rw [unhide HN]
        have hne : (n == n) = true := by simp
        go_wp2
        go_ret
        exact ⟨rfl, unhide HB2⟩
    · go_enter Try.func3, Try.ntmps3
      go_wp2
      go_ret
      exact ⟨rfl, Below.refl _ _⟩
  · have g0' : decide ((1048576 : Int) < (len0 : Int)) = true := by simp; omega
    go_enter Try.func3, Try.ntmps3
    go_wp2
    go_ret
    exact ⟨rfl, Below.refl _ _⟩
end Go.Proofs.Ytfhdcapkoahflab
