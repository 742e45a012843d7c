/- The walk of laws.FnSumStep: it returns true at whatever two rows of bytes; nothing old is written. -/
import Derived.Test.YtfhdcapkoahflaaSumDrawW
import Derived.Test.YtfhdcapkoahflaaSumW
namespace Go.Proofs.Ytfhdcapkoahflaa
open Go.RowKit

theorem str_app (s : ByteArray) (b : UInt8) : (s ++ ⟨#[b]⟩ : ByteArray).data.toList = s.data.toList ++ [b] := by
  simp

set_option maxHeartbeats 2000000 in
theorem sumStep_walk (a0 a1 : Option Addr) (len0 cap0 len1 cap1 : Nat) (w : World) (w0 : Bytes w a0 len0 cap0) (w1 : Bytes w a1 len1 cap1) :
    Calls Try.prog 5 #[.slice a0 len0 cap0, .slice a1 len1 cap1] w fun e w' => e = .returned (.bool true) ∧ Below w.heap.size w w' := by
  have h1 : len1 ≤ maxLen := Nat.le_trans w1.1 w1.2.1
  have h0 : len0 ≤ maxLen := Nat.le_trans w0.1 w0.2.1
  unfold maxLen at h0 h1
  have W0 : Hid (Bytes _ _ _ _) := w0
  clear w0 w1
  by_cases g0 : len0 ≤ 1048576
  · by_cases g1 : len1 ≤ 1048576
    · go_enter Try.func5, Try.ntmps5
      go_wp2_with fail
      refine (drawSum_any w a0 len0 cap0 (unhide W0)).mono ?_
      rintro e w2 ⟨s, hs, rfl, hb2⟩
      have HB2 : Hid (Below _ _ _) := hb2
      clear hb2 W0
      go_wp2_with fail
      refine (implSum_any s w2 (by unfold maxLen; omega)).mono ?_
      rintro e w3 ⟨rfl, rfl⟩
      obtain ⟨n0, n1⟩ := Sm.sum_bd s.data.toList
      go_wp2_with fail
      refine (specSum_any s w3 (by unfold maxLen; omega)).mono ?_
      rintro e w4 ⟨rfl, rfl⟩
      obtain ⟨n, hn⟩ : ∃ n, Sm.sum s.data.toList = n := ⟨_, rfl⟩
      rw [hn] at n0 n1 ⊢
      have HN := hide hn
      clear hn
      have hnn : (n != n) = false := by simp
      go_wp2_with fail
      refine (implSum_any ⟨#[]⟩ w4 (by unfold maxLen; exact Nat.zero_le _)).mono ?_
      rintro e w5 ⟨rfl, rfl⟩
      have h7 : (Sm.sum (⟨#[]⟩ : ByteArray).data.toList == 7) = true := by decide
      have hcv := fun (wx : World) (b c : Nat) (h : wx.cell? ⟨b, 0, none⟩ = some (.int .u8 ((len1 : Int) % 256))) => conv_one wx b ((len1 : Int) % 256) c (by omega) (by omega) h
      go_wp2_with fail
      refine (implSum_any _ _ (by unfold maxLen; rw [ByteArray.size_append]; show s.size + 1 ≤ _; omega)).mono ?_
      rintro e w6 ⟨rfl, hw6⟩
      have hv : Sm.sum (s ++ ⟨#[Pk.b8 ((len1 : Int) % 256)]⟩ : ByteArray).data.toList = (31 * n + (len1 : Int) % 256 + 1) % 9973 := by
        rw [str_app, Sm.sum_snoc, unhide HN, Sm.step, b8_toNat (by omega) (by omega)]
      rw [hv]
      have HB6 : Hid (Below w.heap.size w w6) := by have := (unhide HB2).alloc (unhide HB2).size (.cells #[.int .u8 ((len1 : Int) % 256)] 5); rw [← hw6] at this; exact this
      clear hv hw6 hcv
      have hend : ((31 * n + (len1 : Int) % 256 + 1) % 9973 == (31 * n + (len1 : Int) % 256 + 1) % 9973) = true := by simp
      go_wp2
      go_ret
      exact ⟨rfl, unhide HB6⟩
    · go_enter Try.func5, Try.ntmps5
      go_wp2
      go_ret
      exact ⟨rfl, Below.refl _ _⟩
  · have g0' : decide ((1048576 : Int) < (len0 : Int)) = true := by simp; omega
    go_enter Try.func5, Try.ntmps5
    go_wp2
    go_ret
    exact ⟨rfl, Below.refl _ _⟩
end Go.Proofs.Ytfhdcapkoahflaa
