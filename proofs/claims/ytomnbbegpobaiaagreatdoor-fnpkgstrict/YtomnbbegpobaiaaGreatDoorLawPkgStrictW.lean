/- The walk of laws.FnPkgStrict: impl reads a drawn text as spec does, and what it reads has that text. -/
import Derived.Test.YtomnbbegpobaiaaGreatDoorSpecReadW
import Derived.Test.YtomnbbegpobaiaaGreatDoorSaysW
import Derived.Test.YtomnbbegpobaiaaGreatDoorDrawReadW
import Derived.Test.YtomnbbegpobaiaaGreatDoorLuW
import Derived.Test.YtomnbbegpobaiaaGreatDoorInjW
namespace Go.Proofs.YtomnbbegpobaiaaGreatDoor
open Go.RowKit

attribute [local go_sem ↓] Go.wp_at_zero Go.wp_at_succ

set_option maxHeartbeats 4000000 in
set_option maxRecDepth 100000 in
theorem pkgStrict_walk (a0 : Option Addr) (len0 cap0 : Nat) (w : World) (w0 : Bytes w a0 len0 cap0) (ev : Addr) (g : Gl w ev) :
    Calls Tryz.prog 4 #[.slice a0 len0 cap0] w fun e w' => e = .returned (.bool true) ∧ Below w.heap.size w w' := by
  have W0 : Hid (Bytes _ _ _ _) := w0
  have G := hide g
  clear w0 g
  by_cases g0 : len0 ≤ 1048576
  · go_enter Tryz.func4, Tryz.ntmps4
    go_wp2_with fail
    refine (drawRead_any w a0 len0 cap0 (unhide W0)).mono ?_
    rintro e w0 ⟨s, rfl, hb0⟩
    have HB0 := hide hb0
    clear hb0 W0
    go_wp2_with fail
    refine (specRead_any s w0).mono ?_
    intro e w1 h1
    obtain ⟨nm, vr, fs, ds, fv, dv, b, rfl, hsay, hf, hd, hb1⟩ := h1.out
    clear h1
    obtain ⟨hfl, hdl⟩ := hsay.len
    have q1 : Prs w1 fv fs := Prs.own hf (by omega)
    have q2 : Prs w1 dv ds := Prs.own hd (by omega)
    obtain ⟨fa, fc, rfl⟩ := own_form hf
    obtain ⟨da, dc, rfl⟩ := own_form hd
    have hB2 : Below w1.heap.size w1 (w1.alloc (.cells #[.int .i64 nm, .int .i64 vr, .slice fa fs.length fc, .slice da ds.length dc] 26)) := (Below.refl _ _).alloc (Nat.le_refl _) _
    have hbw1 : Below w.heap.size w w1 := (unhide HB0).trans (hb1.mono (unhide HB0).size)
    have K2 : Hid (Below w.heap.size w _ ∧ Box _ w1.heap.size (.int .i64 nm) (.int .i64 vr) (.slice fa fs.length fc) (.slice da ds.length dc) ∧ Prs _ (.slice fa fs.length fc) fs ∧ Prs _ (.slice da ds.length dc) ds) := ⟨hbw1.trans (hB2.mono hbw1.size), Box.new w1 _ _ _ _ 26, q1.later hB2, q2.later hB2⟩
    have HSAY := hide hsay
    clear hf hd hb1 hB2 q1 q2 hsay hbw1 HB0
    go_wp2_with fail
    refine (implRead_any s _ ev ((unhide G).later (unhide K2).1)).mono ?_
    generalize w1.alloc _ = V2 at *
    generalize w1.heap.size = A at *
    intro e w3 h3
    obtain ⟨nm', vr', fs', ds', fv', dv', b', rfl, hsay', hf3, hd3, hb3⟩ := h3.out
    clear h3
    obtain ⟨rfl, rfl, rfl, rfl, rfl⟩ := (unhide HSAY).one hsay'
    obtain ⟨fa', fc', rfl⟩ := own_form hf3
    obtain ⟨da', dc', rfl⟩ := own_form hd3
    have hB4 : Below w3.heap.size w3 (w3.alloc (.cells #[.int .i64 nm, .int .i64 vr, .slice fa' fs.length fc', .slice da' ds.length dc'] 26)) := (Below.refl _ _).alloc (Nat.le_refl _) _
    have hb4 := hb3.trans (hB4.mono hb3.size)
    have K4 : Hid (Below w.heap.size w _ ∧ Box _ A (.int .i64 nm) (.int .i64 vr) (.slice fa fs.length fc) (.slice da ds.length dc) ∧ Prs _ (.slice fa fs.length fc) fs ∧ Prs _ (.slice da ds.length dc) ds ∧ Box _ w3.heap.size (.int .i64 nm) (.int .i64 vr) (.slice fa' fs.length fc') (.slice da' ds.length dc') ∧ Prs _ (.slice fa' fs.length fc') fs ∧ Prs _ (.slice da' ds.length dc') ds) := ⟨(unhide K2).1.trans (hb4.mono (unhide K2).1.size), (unhide K2).2.1.later hb4, (unhide K2).2.2.1.later hb4, (unhide K2).2.2.2.later hb4, Box.new w3 _ _ _ _ 26, (Prs.own hf3 (by omega)).later hB4, (Prs.own hd3 (by omega)).later hB4⟩
    clear hsay' hf3 hd3 hb3 hB4 hb4 K2
    obtain ⟨_, a0', a1, a2, a3⟩ := (unhide K4).2.1
    obtain ⟨_, b0, b1, b2, b3⟩ := (unhide K4).2.2.2.2.1
    have hsame : same nm vr nm vr fs ds fs ds = true := same_yes ⟨rfl, rfl, rfl, rfl⟩
    have hbb : (b != b) = false := by cases b <;> rfl
    have hbe : (b == b) = true := by cases b <;> rfl
    go_wp2_with fail
    refine (lu_any _ nm vr nm vr _ _ _ _ fs ds fs ds (unhide K4).2.2.2.2.2.1 (unhide K4).2.2.2.2.2.2 (unhide K4).2.2.1 (unhide K4).2.2.2.1).mono ?_
    generalize w3.alloc _ = V4 at *
    generalize w3.heap.size = X at *
    rintro e w5 ⟨rfl, hb5⟩
    have K5 : Hid (Below w.heap.size w w5 ∧ Box w5 A (.int .i64 nm) (.int .i64 vr) (.slice fa fs.length fc) (.slice da ds.length dc) ∧ Prs w5 (.slice fa fs.length fc) fs ∧ Prs w5 (.slice da ds.length dc) ds ∧ Box w5 X (.int .i64 nm) (.int .i64 vr) (.slice fa' fs.length fc') (.slice da' ds.length dc') ∧ Prs w5 (.slice fa' fs.length fc') fs ∧ Prs w5 (.slice da' ds.length dc') ds) := ⟨(unhide K4).1.trans (hb5.mono (unhide K4).1.size), (unhide K4).2.1.later hb5, (unhide K4).2.2.1.later hb5, (unhide K4).2.2.2.1.later hb5, (unhide K4).2.2.2.2.1.later hb5, (unhide K4).2.2.2.2.2.1.later hb5, (unhide K4).2.2.2.2.2.2.later hb5⟩
    clear hb5 K4 a0' a1 a2 a3 b0 b1 b2 b3
    obtain ⟨_, a0', a1, a2, a3⟩ := (unhide K5).2.1
    obtain ⟨_, b0, b1, b2, b3⟩ := (unhide K5).2.2.2.2.1
    cases b with
    | false =>
      go_wp2_with fail
      refine (lu_any _ nm vr nm vr _ _ _ _ fs ds fs ds (unhide K5).2.2.2.2.2.1 (unhide K5).2.2.2.2.2.2 (unhide K5).2.2.1 (unhide K5).2.2.2.1).mono ?_
      rintro e w6 ⟨rfl, hb6⟩
      have HB := hide ((unhide K5).1.trans (hb6.mono (unhide K5).1.size))
      clear hb6
      go_wp2
      go_ret
      exact ⟨rfl, unhide HB⟩
    | true =>
      obtain ⟨hok, ht⟩ : Pk.pkgOk nm vr fs ds = true ∧ Pk.text nm vr fs ds = s.data.toList := by
        rcases unhide HSAY with ⟨_, ho, ht⟩ | ⟨h, _⟩
        · exact ⟨ho, ht⟩
        · cases h
      have HT : Hid ((⟨(Pk.text nm vr fs ds).toArray⟩ : ByteArray) = s) := by show _ = _; rw [ht]
      have hse : (s == s) = true := beq_yes s
      clear ht
      go_wp2_with fail
      refine (implPkgOk_any _ nm vr _ _ fs ds (unhide K5).2.2.2.2.2.1 (unhide K5).2.2.2.2.2.2).mono ?_
      rintro e w6 ⟨rfl, hb6⟩
      have K6 : Hid (Below w.heap.size w w6 ∧ Box w6 X (.int .i64 nm) (.int .i64 vr) (.slice fa' fs.length fc') (.slice da' ds.length dc') ∧ Prs w6 (.slice fa' fs.length fc') fs ∧ Prs w6 (.slice da' ds.length dc') ds) := ⟨(unhide K5).1.trans (hb6.mono (unhide K5).1.size), (unhide K5).2.2.2.2.1.later hb6, (unhide K5).2.2.2.2.2.1.later hb6, (unhide K5).2.2.2.2.2.2.later hb6⟩
      clear hb6 K5 a0' a1 a2 a3 b0 b1 b2 b3
      obtain ⟨_, b0, b1, b2, b3⟩ := (unhide K6).2.1
      go_wp2_with fail
      refine (implText_any _ nm vr _ _ fs ds (unhide K6).2.2.1 (unhide K6).2.2.2).mono ?_
      rintro e w7 ⟨rfl, hb7⟩
      rw [unhide HT]
      have HB := hide ((unhide K6).1.trans (hb7.mono (unhide K6).1.size))
      clear hb7
      go_wp2
      go_ret
      exact ⟨rfl, unhide HB⟩
  · have g0' : decide ((1048576 : Int) < (len0 : Int)) = true := by simp; omega
    go_enter Tryz.func4, Tryz.ntmps4
    go_wp2
    go_ret
    exact ⟨rfl, Below.refl _ _⟩
end Go.Proofs.YtomnbbegpobaiaaGreatDoor
