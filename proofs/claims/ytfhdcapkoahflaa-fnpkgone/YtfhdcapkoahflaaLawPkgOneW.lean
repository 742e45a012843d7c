/- The walk of laws.FnPkgOne: it returns true at whatever two rows of bytes; nothing old is written. -/
import Derived.Test.YtfhdcapkoahflaaDrawTextW
import Derived.Test.YtfhdcapkoahflaaImplTextW
import Derived.Test.YtfhdcapkoahflaaLuW
import Derived.Test.YtfhdcapkoahflaaInjMath
namespace Go.Proofs.Ytfhdcapkoahflaa
open Go.RowKit

/-- A box of four stays over whatever leaves old blocks as they were. -/
def Box (w : World) (b : Nat) (x0 x1 x2 x3 : Value) : Prop := b < w.heap.size ∧ w.cell? ⟨b, 0, none⟩ = some x0 ∧ w.cell? ⟨b, 1, none⟩ = some x1 ∧ w.cell? ⟨b, 2, none⟩ = some x2 ∧ w.cell? ⟨b, 3, none⟩ = some x3
theorem Box.later {w w' : World} {b : Nat} {x0 x1 x2 x3 : Value} (h : Box w b x0 x1 x2 x3) (hb : Below w.heap.size w w') : Box w' b x0 x1 x2 x3 :=
  ⟨Nat.lt_of_lt_of_le h.1 hb.size, (hb.cell h.1).trans h.2.1, (hb.cell h.1).trans h.2.2.1, (hb.cell h.1).trans h.2.2.2.1, (hb.cell h.1).trans h.2.2.2.2⟩
theorem Box.new (w : World) (x0 x1 x2 x3 : Value) (t : TypeId) : Box (w.alloc (.cells #[x0, x1, x2, x3] t)) w.heap.size x0 x1 x2 x3 := by
  obtain ⟨z, a, b, c, d⟩ := box4 w x0 x1 x2 x3 t
  exact ⟨by rw [z]; exact Nat.lt_succ_self _, a, b, c, d⟩

/-- What stands of the two packages in a world. -/
structure Two (w0 w : World) (A B : Nat) (nm vr nm' vr' : Int) (fv dv fv' dv' : Value) (fs ds fs' ds' : List (Int × Int)) : Prop where
  bel : Below w0.heap.size w0 w
  ba : Box w A (.int .i64 nm) (.int .i64 vr) fv dv
  bb : Box w B (.int .i64 nm') (.int .i64 vr') fv' dv'
  pf : Prs w fv fs
  pd : Prs w dv ds
  pf' : Prs w fv' fs'
  pd' : Prs w dv' ds'
theorem Two.later {w0 w w' : World} {A B : Nat} {nm vr nm' vr' : Int} {fv dv fv' dv' : Value} {fs ds fs' ds' : List (Int × Int)} (h : Two w0 w A B nm vr nm' vr' fv dv fv' dv' fs ds fs' ds') (hb : Below w.heap.size w w') : Two w0 w' A B nm vr nm' vr' fv dv fv' dv' fs ds fs' ds' :=
  ⟨h.bel.trans (hb.mono h.bel.size), h.ba.later hb, h.bb.later hb, h.pf.later hb, h.pd.later hb, h.pf'.later hb, h.pd'.later hb⟩

theorem ok_of {nm vr : Int} {fs ds : List (Int × Int)} {s : ByteArray} (hs : (⟨(Pk.text nm vr fs ds).toArray⟩ : ByteArray) = s) (h : s.toList.isEmpty = false) : Pk.pkgOk nm vr fs ds = true := by
  cases ho : Pk.pkgOk nm vr fs ds
  · rw [← hs, Pk.text_nil.2 ho, ByteArray.toList_eq] at h
    cases h
  · rfl

set_option maxHeartbeats 4000000 in
set_option maxRecDepth 100000 in
theorem pkgOne_walk (a0 a1 : Option Addr) (len0 cap0 len1 cap1 : Nat) (w : World) (w0 : Bytes w a0 len0 cap0) (w1 : Bytes w a1 len1 cap1) :
    Calls Try.prog 3 #[.slice a0 len0 cap0, .slice a1 len1 cap1] w fun e w' => e = .returned (.bool true) ∧ Below w.heap.size w w' := by
  have h1 : len1 ≤ maxLen := Nat.le_trans w1.1 w1.2.1
  have h0 : len0 ≤ maxLen := Nat.le_trans w0.1 w0.2.1
  unfold maxLen at h0 h1
  have W0 : Hid (Bytes _ _ _ _) := w0
  have W1 : Hid (Bytes _ _ _ _) := w1
  clear w0 w1
  by_cases g0 : len0 ≤ 1048576
  · by_cases g1 : len1 ≤ 1048576
    · go_enter Try.func3, Try.ntmps3
      go_wp2_with fail
      refine (drawText_any w a0 len0 cap0 (unhide W0)).mono ?_
      rintro e w2 ⟨nm, vr, fv, dv, fs, ds, rfl, fl, dl, p1, p2, hb2⟩
      obtain ⟨fa, fc, rfl⟩ := p1.slice
      obtain ⟨da, dc, rfl⟩ := p2.slice
      have hb2' : Below w2.heap.size w2 (w2.alloc (.cells #[.int .i64 nm, .int .i64 vr, .slice fa fs.length fc, .slice da ds.length dc] 26)) := (Below.refl _ _).alloc (Nat.le_refl _) _
      have hbel2 := hb2.trans (hb2'.mono hb2.size)
      have K2 := hide (And.intro hbel2 (And.intro (Box.new w2 (.int .i64 nm) (.int .i64 vr) (.slice fa fs.length fc) (.slice da ds.length dc) 26) (And.intro (p1.later hb2') (p2.later hb2'))))
      have WB := hide ((unhide W1).later hbel2)
      clear hb2 hb2' p1 p2 hbel2 W0 W1
      go_wp2_with fail
      refine (drawText_any _ a1 len1 cap1 (unhide WB)).mono ?_
      generalize w2.alloc _ = V2 at *
      rintro e w3 ⟨nm', vr', fv', dv', fs', ds', rfl, fl', dl', p1', p2', hb3⟩
      obtain ⟨fa', fc', rfl⟩ := p1'.slice
      obtain ⟨da', dc', rfl⟩ := p2'.slice
      obtain ⟨k1, k2, k3, k4⟩ := unhide K2
      have hb3' : Below w3.heap.size w3 (w3.alloc (.cells #[.int .i64 nm', .int .i64 vr', .slice fa' fs'.length fc', .slice da' ds'.length dc'] 26)) := (Below.refl _ _).alloc (Nat.le_refl _) _
      have hb33 := hb3.trans (hb3'.mono hb3.size)
      have T3 : Hid (Two w (w3.alloc (.cells #[.int .i64 nm', .int .i64 vr', .slice fa' fs'.length fc', .slice da' ds'.length dc'] 26)) w2.heap.size w3.heap.size nm vr nm' vr' (.slice fa fs.length fc) (.slice da ds.length dc) (.slice fa' fs'.length fc') (.slice da' ds'.length dc') fs ds fs' ds') := ⟨k1.trans (hb33.mono k1.size), k2.later hb33, Box.new _ _ _ _ _ _, k3.later hb33, k4.later hb33, p1'.later hb3', p2'.later hb3'⟩
      clear K2 WB hb3 hb3' hb33 p1' p2' k1 k2 k3 k4
      obtain ⟨s, hs⟩ : ∃ s : ByteArray, (⟨(Pk.text nm vr fs ds).toArray⟩ : ByteArray) = s := ⟨_, rfl⟩
      obtain ⟨t, ht⟩ : ∃ t : ByteArray, (⟨(Pk.text nm' vr' fs' ds').toArray⟩ : ByteArray) = t := ⟨_, rfl⟩
      have HS := hide hs
      have HT := hide ht
      clear hs ht
      obtain ⟨_, a0', a1', a2', a3'⟩ := (unhide T3).ba
      go_wp2_with fail
      refine (implText_any _ nm vr _ _ fs ds (unhide T3).pf (unhide T3).pd).mono ?_
      generalize w3.alloc _ = V3 at *
      rintro e w4 ⟨rfl, hb4⟩
      rw [unhide HS]
      have T4 := hide ((unhide T3).later hb4)
      clear hb4 T3 a0' a1' a2' a3'
      generalize w2.heap.size = A at *
      generalize w3.heap.size = B at *
      obtain ⟨_, b0, b1, b2, b3⟩ := (unhide T4).bb
      go_wp2_with fail
      refine (implText_any _ nm' vr' _ _ fs' ds' (unhide T4).pf' (unhide T4).pd').mono ?_
      rintro e w5 ⟨rfl, hb5⟩
      rw [unhide HT]
      have T5 := hide ((unhide T4).later hb5)
      clear hb5 T4 b0 b1 b2 b3
      obtain ⟨_, c0, c1, c2, c3⟩ := (unhide T5).ba
      go_wp2_with fail
      refine (pkgText_any _ nm vr _ _ fs ds (unhide T5).pf (unhide T5).pd).mono ?_
      rintro e w6 ⟨rfl, hb6⟩
      rw [unhide HS]
      have T6 := hide ((unhide T5).later hb6)
      clear hb6 T5 c0 c1 c2 c3
      obtain ⟨_, b0, b1, b2, b3⟩ := (unhide T6).bb
      go_wp2_with fail
      refine (pkgText_any _ nm' vr' _ _ fs' ds' (unhide T6).pf' (unhide T6).pd').mono ?_
      rintro e w7 ⟨rfl, hb7⟩
      rw [unhide HT]
      have T7 := hide ((unhide T6).later hb7)
      clear hb7 T6 b0 b1 b2 b3
      obtain ⟨_, c0, c1, c2, c3⟩ := (unhide T7).ba
      obtain ⟨_, b0, b1, b2, b3⟩ := (unhide T7).bb
      cases hse : s.toList.isEmpty
      case true =>
        go_wp2_with fail
        refine (pkgText_any _ nm vr _ _ fs ds (unhide T7).pf (unhide T7).pd).mono ?_
        rintro e w8 ⟨rfl, hb8⟩
        rw [unhide HS]
        have T8 := hide ((unhide T7).later hb8)
        clear hb8 T7 b0 b1 b2 b3 c0 c1 c2 c3
        obtain ⟨_, b0, b1, b2, b3⟩ := (unhide T8).bb
        go_wp2_with fail
        refine (pkgText_any _ nm' vr' _ _ fs' ds' (unhide T8).pf' (unhide T8).pd').mono ?_
        rintro e w9 ⟨rfl, hb9⟩
        rw [unhide HT]
        have T9 := hide ((unhide T8).later hb9)
        clear hb9 T8 b0 b1 b2 b3
        go_wp2
        go_ret
        exact ⟨rfl, (unhide T9).bel⟩
      cases hte : t.toList.isEmpty
      case true =>
        go_wp2_with fail
        refine (pkgText_any _ nm vr _ _ fs ds (unhide T7).pf (unhide T7).pd).mono ?_
        rintro e w8 ⟨rfl, hb8⟩
        rw [unhide HS]
        have T8 := hide ((unhide T7).later hb8)
        clear hb8 T7 b0 b1 b2 b3 c0 c1 c2 c3
        obtain ⟨_, b0, b1, b2, b3⟩ := (unhide T8).bb
        go_wp2_with fail
        refine (pkgText_any _ nm' vr' _ _ fs' ds' (unhide T8).pf' (unhide T8).pd').mono ?_
        rintro e w9 ⟨rfl, hb9⟩
        rw [unhide HT]
        have T9 := hide ((unhide T8).later hb9)
        clear hb9 T8 b0 b1 b2 b3
        go_wp2
        go_ret
        exact ⟨rfl, (unhide T9).bel⟩
      have o1 : Pk.pkgOk nm vr fs ds = true := ok_of (unhide HS) hse
      have o2 : Pk.pkgOk nm' vr' fs' ds' = true := ok_of (unhide HT) hte
      have HI := hide (Pk.text_inj o1 o2)
      clear o1 o2
      go_wp2_with fail
      refine (lu_any _ nm vr nm' vr' _ _ _ _ fs ds fs' ds' (unhide T7).pf (unhide T7).pd (unhide T7).pf' (unhide T7).pd').mono ?_
      rintro e w8 ⟨rfl, hb8⟩
      have T8 := hide ((unhide T7).later hb8)
      clear hb8 T7 b0 b1 b2 b3 c0 c1 c2 c3
      cases hq : same nm vr nm' vr' fs ds fs' ds'
      · have hne : ¬ s = t := fun h => by
          rw [← unhide HS, ← unhide HT] at h
          have hl : Pk.text nm vr fs ds = Pk.text nm' vr' fs' ds' := by
            have := congrArg (fun b : ByteArray => b.data.toList) h
            simpa using this
          exact of_decide_eq_false hq ((unhide HI).1 hl)
        have hnb : (s == t) = false := by rw [beq_toListBytes, ByteArray.toList_eq, ByteArray.toList_eq]; exact beq_eq_false_iff_ne.2 (fun h => hne (ByteArray.ext (Array.ext' h)))
        have hnc : (s.toList == t.toList) = false := by rw [← beq_toListBytes]; exact hnb
        go_wp2
        go_ret
        exact ⟨rfl, (unhide T8).bel⟩
      · have hst : s = t := by
          rw [← unhide HS, ← unhide HT, (unhide HI).2 (of_decide_eq_true hq)]
        subst hst
        go_wp2
        go_ret
        exact ⟨rfl, (unhide T8).bel⟩
    · go_enter Try.func3, Try.ntmps3
      go_wp2
      go_ret
      exact ⟨rfl, Below.refl _ _⟩
  · have g0' : decide ((1048576 : Int) < (len0 : Int)) = true := by simp; omega
    go_enter Try.func3, Try.ntmps3
    go_wp2
    go_ret
    exact ⟨rfl, Below.refl _ _⟩
end Go.Proofs.Ytfhdcapkoahflaa
