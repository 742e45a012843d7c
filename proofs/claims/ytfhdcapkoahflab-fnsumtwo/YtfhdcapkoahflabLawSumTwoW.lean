/- The walk of laws.FnSumTwo: it returns true at whatever two rows of bytes; nothing old is written. -/
import Derived.Test.YtfhdcapkoahflabSumDrawW
import Derived.Test.YtfhdcapkoahflabSumW
namespace Go.Proofs.Ytfhdcapkoahflab
open Go.RowKit

theorem tail_app (s : ByteArray) : (s ++ ⟨#[116, 97, 105, 108, 32, 49]⟩ : ByteArray).data.toList = s.data.toList ++ [116, 97, 105, 108, 32, 49] := by
  simp

theorem tail_size : (⟨#[116, 97, 105, 108, 32, 49]⟩ : ByteArray).size = 6 := rfl

set_option maxHeartbeats 2000000 in
theorem sumTwo_walk (a0 a1 : Option Addr) (len0 cap0 len1 cap1 : Nat) (w : World) (w0 : Bytes w a0 len0 cap0) (w1 : Bytes w a1 len1 cap1) :
    Calls Try.prog 5 #[.slice a0 len0 cap0, .slice a1 len1 cap1] w fun e w' => e = .returned (.bool true) ∧ Below w.heap.size w w' := by
  have h1 : len1 ≤ maxLen := Nat.le_trans w1.1 w1.2.1
  have h0 : len0 ≤ maxLen := Nat.le_trans w0.1 w0.2.1
  unfold maxLen at h0 h1
  have W0 : Hid (Bytes _ _ _ _) := w0
  have W1 : Hid (Bytes _ _ _ _) := w1
  clear w0 w1
  by_cases g0 : len0 ≤ 1048576
  · by_cases g1 : len1 ≤ 1048576
    · go_enter Try.func5, Try.ntmps5
      go_wp2_with fail
      refine (drawSum_any w a0 len0 cap0 (unhide W0)).mono ?_
      rintro e w2 ⟨s, hs, rfl, hb2⟩
      have HB2 : Hid (Below _ _ _) := hb2
      clear hb2 W0
      go_wp2_with fail
      refine (drawSum_any w2 a1 len1 cap1 ((unhide W1).later (unhide HB2))).mono ?_
      rintro e w3 ⟨t, ht, rfl, hb3⟩
      have HB3 : Hid (Below w.heap.size w w3) := (unhide HB2).trans (hb3.mono (unhide HB2).size)
      clear hb3 W1 HB2
      obtain ⟨n, hn⟩ : ∃ n, Sm.sum s.data.toList = n := ⟨_, rfl⟩
      obtain ⟨m, hm⟩ : ∃ n, Sm.sum t.data.toList = n := ⟨_, rfl⟩
      have HN := hide hn
      have HM := hide hm
      clear hn hm
      have hnn : (n != n) = false := by simp
      have hmm : (m != m) = false := by simp
      go_wp2_with fail
      refine (implSum_any s w3 (by unfold maxLen; omega)).mono ?_
      rintro e w4 ⟨rfl, rfl⟩
      rw [unhide HN]
      go_wp2_with fail
      refine (specSum_any s w4 (by unfold maxLen; omega)).mono ?_
      rintro e w5 ⟨rfl, rfl⟩
      rw [unhide HN]
      go_wp2_with fail
      refine (implSum_any t w5 (by unfold maxLen; omega)).mono ?_
      rintro e w6 ⟨rfl, rfl⟩
      rw [unhide HM]
      go_wp2_with fail
      refine (specSum_any t w6 (by unfold maxLen; omega)).mono ?_
      rintro e w7 ⟨rfl, rfl⟩
      rw [unhide HM]
      go_wp2_with fail
      refine (implSum_any t w7 (by unfold maxLen; omega)).mono ?_
      rintro e w8 ⟨rfl, rfl⟩
      rw [unhide HM]
      go_wp2_with fail
      refine (implSum_any _ _ (by rw [ByteArray.size_append, tail_size]; unfold maxLen; omega)).mono ?_
      rintro e w9 ⟨rfl, rfl⟩
      obtain ⟨x, hx⟩ : ∃ n, Sm.sum (s ++ ⟨#[116, 97, 105, 108, 32, 49]⟩ : ByteArray).data.toList = n := ⟨_, rfl⟩
      have HX := hide hx
      rw [hx]
      clear hx
      go_wp2_with fail
      refine (implSum_any _ _ (by rw [ByteArray.size_append, tail_size]; unfold maxLen; omega)).mono ?_
      rintro e w10 ⟨rfl, rfl⟩
      obtain ⟨y, hy⟩ : ∃ n, Sm.sum (t ++ ⟨#[116, 97, 105, 108, 32, 49]⟩ : ByteArray).data.toList = n := ⟨_, rfl⟩
      have HY := hide hy
      rw [hy]
      clear hy
      have hend : ((n == m) == (x == y)) = true := by
        have e : (x = y) ↔ (n = m) := by
          have h := Sm.sum_two s.data.toList t.data.toList [116, 97, 105, 108, 32, 49]
          rw [← tail_app, ← tail_app, unhide HX, unhide HY, unhide HN, unhide HM] at h
          exact h
        rw [beq_iff_eq]
        exact Bool.eq_iff_iff.2 (by rw [beq_iff_eq, beq_iff_eq]; exact e.symm)
      go_wp2
      go_ret
      exact ⟨rfl, unhide HB3⟩
    · go_enter Try.func5, Try.ntmps5
      go_wp2
      go_ret
      exact ⟨rfl, Below.refl _ _⟩
  · have g0' : decide ((1048576 : Int) < (len0 : Int)) = true := by simp; omega
    go_enter Try.func5, Try.ntmps5
    go_wp2
    go_ret
    exact ⟨rfl, Below.refl _ _⟩
end Go.Proofs.Ytfhdcapkoahflab
