/- The walk of laws.FnPkgBack: the drawn package's text is read back. -/
import Derived.Test.YtomnbbegpobaiaaGreatDoorImplReadW
import Derived.Test.YtomnbbegpobaiaaGreatDoorDrawTextW
import Derived.Test.YtomnbbegpobaiaaGreatDoorLuW
import Derived.Test.YtomnbbegpobaiaaGreatDoorInjW
namespace Go.Proofs.YtomnbbegpobaiaaGreatDoor
open Go.RowKit

attribute [local go_sem ↓] Go.wp_at_zero Go.wp_at_succ

set_option maxHeartbeats 4000000 in
set_option maxRecDepth 100000 in
theorem pkgBack_walk (a0 : Option Addr) (len0 cap0 : Nat) (w : World) (w0 : Bytes w a0 len0 cap0) (ev : Addr) (g : Gl w ev) :
    Calls Tryz.prog 3 #[.slice a0 len0 cap0] w fun e w' => e = .returned (.bool true) ∧ Below w.heap.size w w' := by
  have W0 : Hid (Bytes _ _ _ _) := w0
  have G := hide g
  clear w0 g
  by_cases g0 : len0 ≤ 1048576
  · go_enter Tryz.func3, Tryz.ntmps3
    go_wp2_with fail
    refine (drawText_any w a0 len0 cap0 (unhide W0)).mono ?_
    rintro e w2 ⟨nm, vr, fv, dv, fs, ds, rfl, fl, dl, p1, p2, hb2⟩
    obtain ⟨fa, fc, rfl⟩ := p1.slice
    obtain ⟨da, dc, rfl⟩ := p2.slice
    have hb2' : Below w2.heap.size w2 (w2.alloc (.cells #[.int .i64 nm, .int .i64 vr, .slice fa fs.length fc, .slice da ds.length dc] 26)) := (Below.refl _ _).alloc (Nat.le_refl _) _
    have K2 := hide (And.intro (hb2.trans (hb2'.mono hb2.size)) (And.intro (Box.new w2 (.int .i64 nm) (.int .i64 vr) (.slice fa fs.length fc) (.slice da ds.length dc) 26) (And.intro (p1.later hb2') (p2.later hb2'))))
    clear hb2 hb2' p1 p2 W0
    obtain ⟨s, hs⟩ : ∃ s : ByteArray, (⟨(Pk.text nm vr fs ds).toArray⟩ : ByteArray) = s := ⟨_, rfl⟩
    have HS := hide hs
    clear hs
    go_wp2_with fail
    refine (implText_any _ nm vr _ _ fs ds (unhide K2).2.2.1 (unhide K2).2.2.2).mono ?_
    generalize w2.alloc _ = V2 at *
    rintro e w4 ⟨rfl, hb4⟩
    rw [unhide HS]
    have K4 : Hid (Below w.heap.size w w4 ∧ Box w4 w2.heap.size (.int .i64 nm) (.int .i64 vr) (.slice fa fs.length fc) (.slice da ds.length dc) ∧ Prs w4 (.slice fa fs.length fc) fs ∧ Prs w4 (.slice da ds.length dc) ds) := ⟨(unhide K2).1.trans (hb4.mono (unhide K2).1.size), (unhide K2).2.1.later hb4, (unhide K2).2.2.1.later hb4, (unhide K2).2.2.2.later hb4⟩
    clear hb4 K2
    generalize w2.heap.size = A at *
    obtain ⟨_, c0, c1, c2, c3⟩ := (unhide K4).2.1
    go_wp2_with fail
    refine (pkgText_any _ nm vr _ _ fs ds (unhide K4).2.2.1 (unhide K4).2.2.2).mono ?_
    rintro e w5 ⟨rfl, hb5⟩
    rw [unhide HS]
    have K5 : Hid (Below w.heap.size w w5 ∧ Box w5 A (.int .i64 nm) (.int .i64 vr) (.slice fa fs.length fc) (.slice da ds.length dc) ∧ Prs w5 (.slice fa fs.length fc) fs ∧ Prs w5 (.slice da ds.length dc) ds) := ⟨(unhide K4).1.trans (hb5.mono (unhide K4).1.size), (unhide K4).2.1.later hb5, (unhide K4).2.2.1.later hb5, (unhide K4).2.2.2.later hb5⟩
    clear hb5 K4 c0 c1 c2 c3
    obtain ⟨hA5, c0, c1, c2, c3⟩ := (unhide K5).2.1
    cases hse : s.toList.isEmpty
    case true =>
      go_wp2_with fail
      refine (pkgText_any _ nm vr _ _ fs ds (unhide K5).2.2.1 (unhide K5).2.2.2).mono ?_
      rintro e w6 ⟨rfl, hb6⟩
      rw [unhide HS]
      have HB6 := hide ((unhide K5).1.trans (hb6.mono (unhide K5).1.size))
      clear hb6
      go_wp2
      go_ret
      exact ⟨rfl, unhide HB6⟩
    have o1 : Pk.pkgOk nm vr fs ds = true := ok_of (unhide HS) hse
    have HT : Hid (Pk.text nm vr fs ds = s.data.toList) := by show _ = _; rw [← unhide HS]
    have O1 := hide o1
    clear o1
    go_wp2_with fail
    refine (implRead_any s _ ev ((unhide G).later (unhide K5).1)).mono ?_
    rintro e w6 ⟨hres, hb6⟩
    have hx : ∃ fv' dv', e = .returned (.tuple #[.agg #[.int .i64 nm, .int .i64 vr, fv', dv'], .bool true]) ∧ Prs w6 fv' fs ∧ Prs w6 dv' ds := by
      rcases hres with ⟨nm', vr', fs', ds', fv', dv', rfl, ho, ht, hf, hd⟩ | ⟨_, hno⟩
      · obtain ⟨rfl, rfl, rfl, rfl⟩ := (Pk.text_inj ho (unhide O1)).1 (ht.trans (unhide HT).symm)
        exact ⟨fv', dv', rfl, Prs.own hf (by omega), Prs.own hd (by omega)⟩
      · exact absurd (unhide HT) (hno _ _ _ _ (unhide O1))
    obtain ⟨fv', dv', rfl, q1, q2⟩ := hx
    obtain ⟨fa', fc', rfl⟩ := q1.slice
    obtain ⟨da', dc', rfl⟩ := q2.slice
    have K6 : Hid (Below w.heap.size w w6 ∧ Box w6 A (.int .i64 nm) (.int .i64 vr) (.slice fa fs.length fc) (.slice da ds.length dc) ∧ Prs w6 (.slice fa fs.length fc) fs ∧ Prs w6 (.slice da ds.length dc) ds ∧ Prs w6 (.slice fa' fs.length fc') fs ∧ Prs w6 (.slice da' ds.length dc') ds) := ⟨(unhide K5).1.trans (hb6.mono (unhide K5).1.size), (unhide K5).2.1.later hb6, (unhide K5).2.2.1.later hb6, (unhide K5).2.2.2.later hb6, q1, q2⟩
    clear hb6 K5 c0 c1 c2 c3 hA5 hres q1 q2
    obtain ⟨hA6, c0, c1, c2, c3⟩ := (unhide K6).2.1
    have hB7 : Below w6.heap.size w6 (w6.alloc (.cells #[.int .i64 nm, .int .i64 vr, .slice fa' fs.length fc', .slice da' ds.length dc'] 26)) := (Below.refl _ _).alloc (Nat.le_refl _) _
    have HB7 := hide hB7
    have K7 : Hid (Below w.heap.size w _ ∧ Box _ A (.int .i64 nm) (.int .i64 vr) (.slice fa fs.length fc) (.slice da ds.length dc) ∧ Prs _ (.slice fa fs.length fc) fs ∧ Prs _ (.slice da ds.length dc) ds ∧ Prs _ (.slice fa' fs.length fc') fs ∧ Prs _ (.slice da' ds.length dc') ds) := ⟨(unhide K6).1.trans (hB7.mono (unhide K6).1.size), (unhide K6).2.1.later hB7, (unhide K6).2.2.1.later hB7, (unhide K6).2.2.2.1.later hB7, (unhide K6).2.2.2.2.1.later hB7, (unhide K6).2.2.2.2.2.later hB7⟩
    clear hB7
    have hsame : same nm vr nm vr fs ds fs ds = true := same_yes ⟨rfl, rfl, rfl, rfl⟩
    go_wp2_with fail
    refine (lu_any _ nm vr nm vr _ _ _ _ fs ds fs ds (unhide K7).2.2.2.2.1 (unhide K7).2.2.2.2.2 (unhide K7).2.2.1 (unhide K7).2.2.2.1).mono ?_
    generalize w6.alloc _ = V7 at *
    rintro e w8 ⟨rfl, hb8⟩
    have K8 : Hid (Below w.heap.size w w8 ∧ Box w8 A (.int .i64 nm) (.int .i64 vr) (.slice fa fs.length fc) (.slice da ds.length dc) ∧ Prs w8 (.slice fa fs.length fc) fs ∧ Prs w8 (.slice da ds.length dc) ds) := ⟨(unhide K7).1.trans (hb8.mono (unhide K7).1.size), (unhide K7).2.1.later hb8, (unhide K7).2.2.1.later hb8, (unhide K7).2.2.2.1.later hb8⟩
    clear hb8 K6 K7 HB7 c0 c1 c2 c3 hA6
    clear V7
    obtain ⟨hA8, c0, c1, c2, c3⟩ := (unhide K8).2.1
    have hok := unhide O1
    go_wp2_with fail
    refine (implPkgOk_any _ nm vr _ _ fs ds (unhide K8).2.2.1 (unhide K8).2.2.2).mono ?_
    rintro e w9 ⟨rfl, hb9⟩
    have HB9 := hide ((unhide K8).1.trans (hb9.mono (unhide K8).1.size))
    clear hb9
    go_wp2
    go_ret
    exact ⟨rfl, unhide HB9⟩
  · have g0' : decide ((1048576 : Int) < (len0 : Int)) = true := by simp; omega
    go_enter Tryz.func3, Tryz.ntmps3
    go_wp2
    go_ret
    exact ⟨rfl, Below.refl _ _⟩
end Go.Proofs.YtomnbbegpobaiaaGreatDoor
