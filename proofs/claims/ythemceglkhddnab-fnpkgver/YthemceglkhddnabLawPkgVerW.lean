/- The walk of laws.FnPkgVer: it returns true at whatever two rows of bytes; nothing old is written. -/
import Derived.Test.YthemceglkhddnabDrawTextW
import Derived.Test.YthemceglkhddnabImplTextW
import Derived.Test.YthemceglkhddnabInjW
namespace Go.Proofs.Ythemceglkhddnab
open Go.RowKit

theorem ok_ver {nm vr v2 : Int} {fs ds : List (Int × Int)} (h : Pk.pkgOk nm vr fs ds = true) (h1 : 1 ≤ v2) (h2 : v2 ≤ 5) : Pk.pkgOk nm v2 fs ds = true := by
  unfold Pk.pkgOk at h ⊢
  rw [Bool.and_eq_true, Bool.and_eq_true, Bool.and_eq_true] at h ⊢
  exact ⟨⟨⟨h.1.1.1, Pk.inB_true.2 ⟨h1, h2⟩⟩, h.1.2⟩, h.2⟩
theorem ok_nodeps {nm vr : Int} {fs ds : List (Int × Int)} (h : Pk.pkgOk nm vr fs ds = true) : Pk.pkgOk nm vr fs [] = true := by
  unfold Pk.pkgOk at h ⊢
  rw [Bool.and_eq_true, Bool.and_eq_true, Bool.and_eq_true] at h ⊢
  exact ⟨h.1, rfl⟩
theorem len_ver {nm vr v2 : Int} {fs ds : List (Int × Int)} (h : Pk.pkgOk nm vr fs ds = true) (h' : Pk.pkgOk nm v2 fs ds = true) : (Pk.text nm v2 fs ds).length = (Pk.text nm vr fs ds).length := by
  rw [text_ok h, text_ok h']
  simp [Pk.nameT]

set_option maxHeartbeats 4000000 in
set_option maxRecDepth 100000 in
theorem pkgVer_walk (a0 a1 : Option Addr) (len0 cap0 len1 cap1 : Nat) (w : World) (w0 : Bytes w a0 len0 cap0) (w1 : Bytes w a1 len1 cap1) :
    Calls Try.prog 4 #[.slice a0 len0 cap0, .slice a1 len1 cap1] w fun e w' => e = .returned (.bool true) ∧ Below w.heap.size w w' := by
  have h1 : len1 ≤ maxLen := Nat.le_trans w1.1 w1.2.1
  have h0 : len0 ≤ maxLen := Nat.le_trans w0.1 w0.2.1
  unfold maxLen at h0 h1
  have W0 : Hid (Bytes _ _ _ _) := w0
  clear w0 w1
  by_cases g0 : len0 ≤ 1048576
  · by_cases g1 : len1 ≤ 1048576
    · go_enter Try.func4, Try.ntmps4
      go_wp2_with fail
      refine (drawText_any w a0 len0 cap0 (unhide W0)).mono ?_
      rintro e w2 ⟨nm, vr, fv, dv, fs, ds, rfl, fl, dl, p1, p2, hb2⟩
      obtain ⟨fa, fc, rfl⟩ := p1.slice
      obtain ⟨da, dc, rfl⟩ := p2.slice
      have hb2' : Below w2.heap.size w2 (w2.alloc (.cells #[.int .i64 nm, .int .i64 vr, .slice fa fs.length fc, .slice da ds.length dc] 29)) := (Below.refl _ _).alloc (Nat.le_refl _) _
      have K2 := hide (And.intro (hb2.trans (hb2'.mono hb2.size)) (And.intro (Box.new w2 (.int .i64 nm) (.int .i64 vr) (.slice fa fs.length fc) (.slice da ds.length dc) 29) (And.intro (p1.later hb2') (p2.later hb2'))))
      clear hb2 hb2' p1 p2 W0
      obtain ⟨s, hs⟩ : ∃ s : ByteArray, (⟨(Pk.text nm vr fs ds).toArray⟩ : ByteArray) = s := ⟨_, rfl⟩
      have HS := hide hs
      clear hs
      go_wp2_with fail
      refine (implText_any _ nm vr _ _ fs ds (unhide K2).2.2.1 (unhide K2).2.2.2).mono ?_
      generalize w2.alloc _ = V2 at *
      rintro e w4 ⟨rfl, hb4⟩
      rw [unhide HS]
      have K4 : Hid (Below w.heap.size w w4 ∧ Box w4 w2.heap.size (.int .i64 nm) (.int .i64 vr) (.slice fa fs.length fc) (.slice da ds.length dc) ∧ Prs w4 (.slice fa fs.length fc) fs ∧ Prs w4 (.slice da ds.length dc) ds) := ⟨(unhide K2).1.trans (hb4.mono (unhide K2).1.size), (unhide K2).2.1.later hb4, (unhide K2).2.2.1.later hb4, (unhide K2).2.2.2.later hb4⟩
      clear hb4 K2
      generalize w2.heap.size = A at *
      obtain ⟨_, c0, c1, c2, c3⟩ := (unhide K4).2.1
      go_wp2_with fail
      refine (pkgText_any _ nm vr _ _ fs ds (unhide K4).2.2.1 (unhide K4).2.2.2).mono ?_
      rintro e w5 ⟨rfl, hb5⟩
      rw [unhide HS]
      have K5 : Hid (Below w.heap.size w w5 ∧ Box w5 A (.int .i64 nm) (.int .i64 vr) (.slice fa fs.length fc) (.slice da ds.length dc) ∧ Prs w5 (.slice fa fs.length fc) fs ∧ Prs w5 (.slice da ds.length dc) ds) := ⟨(unhide K4).1.trans (hb5.mono (unhide K4).1.size), (unhide K4).2.1.later hb5, (unhide K4).2.2.1.later hb5, (unhide K4).2.2.2.later hb5⟩
      clear hb5 K4 c0 c1 c2 c3
      obtain ⟨hA5, c0, c1, c2, c3⟩ := (unhide K5).2.1
      cases hse : s.toList.isEmpty
      case true =>
        go_wp2_with fail
        refine (pkgText_any _ nm vr _ _ fs ds (unhide K5).2.2.1 (unhide K5).2.2.2).mono ?_
        rintro e w6 ⟨rfl, hb6⟩
        rw [unhide HS]
        have HB6 := hide ((unhide K5).1.trans (hb6.mono (unhide K5).1.size))
        clear hb6
        go_wp2
        go_ret
        exact ⟨rfl, unhide HB6⟩
      have o1 : Pk.pkgOk nm vr fs ds = true := ok_of (unhide HS) hse
      obtain ⟨_, ⟨v0, v1⟩, _⟩ := pkgOk_get o1
      obtain ⟨v2, hv2⟩ : ∃ v2 : Int, 1 + (vr + (len1 : Int) % 4) % 5 = v2 := ⟨_, rfl⟩
      have hv3 : 1 ≤ v2 := by omega
      have hv4 : v2 ≤ 5 := by omega
      have hv5 : v2 ≠ vr := by omega
      have hv6 : (v2 != vr) = true := by simp [hv5]
      obtain ⟨T2, hT2⟩ : ∃ T : ByteArray, (⟨(Pk.text nm v2 fs ds).toArray⟩ : ByteArray) = T := ⟨_, rfl⟩
      obtain ⟨T1, hT1⟩ : ∃ T : ByteArray, (⟨(Pk.text nm vr fs []).toArray⟩ : ByteArray) = T := ⟨_, rfl⟩
      have o2 : Pk.pkgOk nm v2 fs ds = true := ok_ver o1 hv3 hv4
      have o3 : Pk.pkgOk nm vr fs [] = true := ok_nodeps o1
      have hne2 : ¬ T2 = s := fun e => by
        rw [← hT2, ← unhide HS] at e
        exact hv5 ((Pk.text_inj o2 o1).1 (arr_inj e)).2.1
      have n1 : (T2 == s) = false := beq_no hne2
      have n2 : (T2.toList == s.toList) = false := by rw [← beq_toListBytes]; exact n1
      have hlen : T2.size = s.size := by
        rw [← hT2, ← unhide HS]
        exact len_ver o1 o2
      have hl2 : ((T2.size : Int) == (s.size : Int)) = true := by rw [hlen]; exact beq_self_eq_true _
      obtain ⟨z, hz⟩ : ∃ z : Bool, z = decide (ds = []) := ⟨_, rfl⟩
      have z1 : (T1 == s) = z := by
        rw [hz]
        by_cases hd : ds = []
        · have e : T1 = s := by rw [← hT1, ← unhide HS, hd]
          rw [e, beq_yes, decide_eq_true hd]
        · rw [decide_eq_false hd]
          refine beq_no (fun e => hd ?_)
          rw [← hT1, ← unhide HS] at e
          exact ((Pk.text_inj o3 o1).1 (arr_inj e)).2.2.2.symm
      have z2 : (T1.toList == s.toList) = z := by rw [← beq_toListBytes]; exact z1
      have z3 : ((ds.length : Int) == 0) = z := by
        rw [hz, Bool.eq_iff_iff]
        simp
      have zz : (z == z) = true := by cases z <;> rfl
      have HT2 := hide hT2
      have HT1 := hide hT1
      have O2 := hide o2
      clear hT1 hT2 o2 o3 hne2 hlen hz
      have hA1 : ∀ o, A < (w5.alloc o).heap.size := fun o => Nat.lt_of_lt_of_le (unhide K5).2.1.1 (by rw [sz1]; exact Nat.le_succ _)
      have hBa : Below w5.heap.size w5 (w5.alloc (.cells #[.int .i64 nm, .int .i64 v2, .slice fa fs.length fc, .slice da ds.length dc] 29)) := (Below.refl _ _).alloc (Nat.le_refl _) _
      have hBb : Below (w5.alloc (.cells #[.int .i64 nm, .int .i64 v2, .slice fa fs.length fc, .slice da ds.length dc] 29)).heap.size _ ((w5.alloc (.cells #[.int .i64 nm, .int .i64 v2, .slice fa fs.length fc, .slice da ds.length dc] 29)).alloc (.cells #[.int .i64 nm, .int .i64 vr, .slice fa fs.length fc, .slice none 0 0] 29)) := (Below.refl _ _).alloc (Nat.le_refl _) _
      have hBc := hBa.trans (hBb.mono hBa.size)
      have K6 : Hid (Below w.heap.size w _ ∧ Box _ A (.int .i64 nm) (.int .i64 vr) (.slice fa fs.length fc) (.slice da ds.length dc) ∧ Prs _ (.slice fa fs.length fc) fs ∧ Prs _ (.slice da ds.length dc) ds ∧ Box _ w5.heap.size (.int .i64 nm) (.int .i64 v2) (.slice fa fs.length fc) (.slice da ds.length dc)) := ⟨(unhide K5).1.trans (hBc.mono (unhide K5).1.size), (unhide K5).2.1.later hBc, (unhide K5).2.2.1.later hBc, (unhide K5).2.2.2.later hBc, (Box.new w5 _ _ _ _ 29).later hBb⟩
      clear hBa hBb hBc hA1 o1
      go_wp2_with fail
      refine (implText_any _ nm vr _ _ fs [] (unhide K6).2.2.1 (Prs.nil _)).mono ?_
      generalize (w5.alloc _).alloc _ = V6 at *
      generalize w5.heap.size = X at *
      rintro e w7 ⟨rfl, hb7⟩
      rw [unhide HT1]
      have K7 : Hid (Below w.heap.size w w7 ∧ Box w7 A (.int .i64 nm) (.int .i64 vr) (.slice fa fs.length fc) (.slice da ds.length dc) ∧ Prs w7 (.slice fa fs.length fc) fs ∧ Prs w7 (.slice da ds.length dc) ds ∧ Box w7 X (.int .i64 nm) (.int .i64 v2) (.slice fa fs.length fc) (.slice da ds.length dc)) := ⟨(unhide K6).1.trans (hb7.mono (unhide K6).1.size), (unhide K6).2.1.later hb7, (unhide K6).2.2.1.later hb7, (unhide K6).2.2.2.1.later hb7, (unhide K6).2.2.2.2.later hb7⟩
      clear hb7 K6 K5 c0 c1 c2 c3 hA5
      obtain ⟨_, d0, d1, d2, d3⟩ := (unhide K7).2.2.2.2
      go_wp2_with fail
      refine (implPkgOk_any _ nm v2 _ _ fs ds (unhide K7).2.2.1 (unhide K7).2.2.2.1).mono ?_
      rintro e w8 ⟨rfl, hb8⟩
      rw [unhide O2]
      have K8 : Hid (Below w.heap.size w w8 ∧ Box w8 A (.int .i64 nm) (.int .i64 vr) (.slice fa fs.length fc) (.slice da ds.length dc) ∧ Prs w8 (.slice fa fs.length fc) fs ∧ Prs w8 (.slice da ds.length dc) ds ∧ Box w8 X (.int .i64 nm) (.int .i64 v2) (.slice fa fs.length fc) (.slice da ds.length dc)) := ⟨(unhide K7).1.trans (hb8.mono (unhide K7).1.size), (unhide K7).2.1.later hb8, (unhide K7).2.2.1.later hb8, (unhide K7).2.2.2.1.later hb8, (unhide K7).2.2.2.2.later hb8⟩
      clear hb8 K7 d0 d1 d2 d3
      obtain ⟨_, d0, d1, d2, d3⟩ := (unhide K8).2.2.2.2
      obtain ⟨_, c0, c1, c2, c3⟩ := (unhide K8).2.1
      go_wp2_with fail
      refine (implText_any _ nm v2 _ _ fs ds (unhide K8).2.2.1 (unhide K8).2.2.2.1).mono ?_
      rintro e w9 ⟨rfl, hb9⟩
      rw [unhide HT2]
      have K9 : Hid (Below w.heap.size w w9 ∧ Box w9 A (.int .i64 nm) (.int .i64 vr) (.slice fa fs.length fc) (.slice da ds.length dc) ∧ Prs w9 (.slice fa fs.length fc) fs ∧ Prs w9 (.slice da ds.length dc) ds ∧ Box w9 X (.int .i64 nm) (.int .i64 v2) (.slice fa fs.length fc) (.slice da ds.length dc)) := ⟨(unhide K8).1.trans (hb9.mono (unhide K8).1.size), (unhide K8).2.1.later hb9, (unhide K8).2.2.1.later hb9, (unhide K8).2.2.2.1.later hb9, (unhide K8).2.2.2.2.later hb9⟩
      clear hb9 K8 d0 d1 d2 d3 c0 c1 c2 c3
      obtain ⟨_, d0, d1, d2, d3⟩ := (unhide K9).2.2.2.2
      go_wp2_with fail
      refine (implText_any _ nm v2 _ _ fs ds (unhide K9).2.2.1 (unhide K9).2.2.2.1).mono ?_
      rintro e w10 ⟨rfl, hb10⟩
      rw [unhide HT2]
      have K10 : Hid (Below w.heap.size w w10 ∧ Box w10 A (.int .i64 nm) (.int .i64 vr) (.slice fa fs.length fc) (.slice da ds.length dc) ∧ Prs w10 (.slice fa fs.length fc) fs ∧ Prs w10 (.slice da ds.length dc) ds ∧ Box w10 X (.int .i64 nm) (.int .i64 v2) (.slice fa fs.length fc) (.slice da ds.length dc)) := ⟨(unhide K9).1.trans (hb10.mono (unhide K9).1.size), (unhide K9).2.1.later hb10, (unhide K9).2.2.1.later hb10, (unhide K9).2.2.2.1.later hb10, (unhide K9).2.2.2.2.later hb10⟩
      clear hb10 K9 d0 d1 d2 d3
      obtain ⟨_, c0, c1, c2, c3⟩ := (unhide K10).2.1
      have HB := hide (unhide K10).1
      go_wp2
      go_ret
      exact ⟨rfl, unhide HB⟩
    · go_enter Try.func4, Try.ntmps4
      go_wp2
      go_ret
      exact ⟨rfl, Below.refl _ _⟩
  · have g0' : decide ((1048576 : Int) < (len0 : Int)) = true := by simp; omega
    go_enter Try.func4, Try.ntmps4
    go_wp2
    go_ret
    exact ⟨rfl, Below.refl _ _⟩
end Go.Proofs.Ythemceglkhddnab
