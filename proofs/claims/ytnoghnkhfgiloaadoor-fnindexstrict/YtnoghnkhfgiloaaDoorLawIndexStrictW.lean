/- The walk of laws.FnIndexStrict: it returns true. -/
import Derived.Test.YtnoghnkhfgiloaaDoorSpecIReadW
import Derived.Test.YtnoghnkhfgiloaaDoorIReadDrawW
import Derived.Test.YtnoghnkhfgiloaaDoorLuTW
import Derived.Test.YtnoghnkhfgiloaaDoorInjW
namespace Go.Proofs.YtnoghnkhfgiloaaDoor
open Go.RowKit

attribute [local go_sem ↓] Go.wp_at_zero Go.wp_at_succ

theorem rx_outStrict {s : ByteArray} {w w' : World} {e : Ending} (h : RxAns s w e w') : ∃ a b ms b2 fa fc, Ix.rxD s.data.toList = (a, b, ms) ∧ (Ix.rx s.data.toList).isSome = b2 ∧ ms.length ≤ 8 ∧ (b2 = true → Ix.idxOk a b ms = true ∧ Ix.text a b ms = s.data.toList) ∧ e = .returned (.tuple #[.agg #[.int .i64 a, .int .i64 b, .slice fa ms.length fc], .bool b2]) ∧ w'.ownsRow w.heap.size 45 3 (.slice fa ms.length fc) ms.length (flat3 ms) ∧ Below w.heap.size w w' := by
  obtain ⟨mv, he, ho, hb⟩ := h
  obtain ⟨fa, fc, hv⟩ := own_formS ho
  subst hv
  refine ⟨(Ix.rxD s.data.toList).1, (Ix.rxD s.data.toList).2.1, (Ix.rxD s.data.toList).2.2, _, fa, fc, rfl, rfl, Ix.rxD_len _, fun hb2 => ?_, he, ho, hb⟩
  obtain ⟨q, hq⟩ := Option.isSome_iff_exists.1 hb2
  have e : Ix.rxD s.data.toList = q := by unfold Ix.rxD; rw [hq]; rfl
  rw [e]
  exact Ix.rx_some.1 hq

set_option maxHeartbeats 8000000 in
set_option maxRecDepth 100000 in
theorem indexStrict_walk (w : World) (a0 : Option Addr) (len0 cap0 : Nat) (w0 : Bytes w a0 len0 cap0) (ev : Addr) (g : Gl w ev) (hTab : Tab w) :
    Calls Tryd.prog 4 #[.slice a0 len0 cap0] w fun e w' => e = .returned (.bool true) ∧ Below w.heap.size w w' := by
  have W0 := hide w0
  have BW := hide (Below.refl w.heap.size w)
  have G := hide g
  have TB := hide hTab
  clear w0 g hTab
  by_cases g0 : len0 ≤ 1048576
  rotate_left
  · have g0' : decide ((1048576 : Int) < (len0 : Int)) = true := by simp; omega
    go_enter Tryd.func4, Tryd.ntmps4
    go_wp2
    go_ret
    exact ⟨rfl, Below.refl _ _⟩
  go_enter Tryd.func4, Tryd.ntmps4
  go_wp2_with fail
  refine (drawIRead_any w a0 len0 cap0 (unhide W0)).mono ?_
  rintro e w1 ⟨s, rfl, b⟩
  replace BW := hide ((unhide BW).trans (b.mono (unhide BW).size))
  replace G := hide ((unhide G).later b)
  replace TB := hide ((unhide TB).later b)
  clear b W0
  go_wp2_with fail
  refine (specIRead_any s _).mono ?_
  intro e w2 h2
  obtain ⟨a, b, ms, b2, fa, fc, hD, hS, hml, hok, rfl, ho, bb⟩ := rx_outStrict h2
  clear h2
  have HOK := hide hok
  have HD := hide (And.intro hD hS)
  have hbb : (b2 != b2) = false := by cases b2 <;> rfl
  clear hok hD hS
  replace BW := hide ((unhide BW).trans (bb.mono (unhide BW).size))
  replace G := hide ((unhide G).later bb)
  replace TB := hide ((unhide TB).later bb)
  clear bb
  have bx := below1 w2 (.cells #[.int .i64 a, .int .i64 b, .slice fa ms.length fc] 25)
  have T1 := hide ((Trs.own ho (by omega)).later bx)
  have X1 := hide (heap_alloc_new w2 (.cells #[.int .i64 a, .int .i64 b, .slice fa ms.length fc] 25))
  replace BW := hide ((unhide BW).trans (bx.mono (unhide BW).size))
  replace G := hide ((unhide G).later bx)
  replace TB := hide ((unhide TB).later bx)
  clear bx ho
  go_wp2_with fail
  refine (implIRead_any s _ ev (unhide G) (unhide TB)).mono ?_
  generalize hQ : w2.heap.size = P at *
  generalize w2.alloc _ = W2 at *
  clear hQ
  clear w2
  intro e w3 h3
  obtain ⟨a', b', ms', b2', ga, gc, hD, hS, hml', hok, rfl, ho, bb⟩ := rx_outStrict h3
  clear h3
  obtain ⟨rfl, rfl, rfl⟩ : a = a' ∧ b = b' ∧ ms = ms' := by
    have := (unhide HD).1.symm.trans hD
    injection this with e1 e2
    injection e2 with e2 e3
    exact ⟨e1, e2, e3⟩
  obtain rfl : b2 = b2' := (unhide HD).2.symm.trans hS
  clear hD hS hok hml'
  replace BW := hide ((unhide BW).trans (bb.mono (unhide BW).size))
  replace G := hide ((unhide G).later bb)
  replace TB := hide ((unhide TB).later bb)
  replace T1 := hide ((unhide T1).later bb)
  replace X1 := hide ((bb.block _ (heapLt (unhide X1))).trans (unhide X1))
  clear bb
  have bx := below1 w3 (.cells #[.int .i64 a, .int .i64 b, .slice ga ms.length gc] 25)
  have T2 := hide ((Trs.own ho (by omega)).later bx)
  have X2 := hide (heap_alloc_new w3 (.cells #[.int .i64 a, .int .i64 b, .slice ga ms.length gc] 25))
  replace BW := hide ((unhide BW).trans (bx.mono (unhide BW).size))
  replace G := hide ((unhide G).later bx)
  replace TB := hide ((unhide TB).later bx)
  replace T1 := hide ((unhide T1).later bx)
  replace X1 := hide ((bx.block _ (heapLt (unhide X1))).trans (unhide X1))
  clear bx ho
  obtain ⟨p0, p1, p2⟩ : _ ∧ _ ∧ _ := ⟨cellOf (unhide X1) 0, cellOf (unhide X1) 1, cellOf (unhide X1) 2⟩
  go_wp2_with fail
  refine (luIndex_same _ a b _ _ ms (unhide T2) (unhide T1)).mono ?_
  generalize hQ : w3.heap.size = Q at *
  generalize w3.alloc _ = W3 at *
  clear hQ
  clear w3
  rintro e w4 ⟨rfl, bb⟩
  replace BW := hide ((unhide BW).trans (bb.mono (unhide BW).size))
  replace G := hide ((unhide G).later bb)
  replace TB := hide ((unhide TB).later bb)
  replace T1 := hide ((unhide T1).later bb)
  replace X1 := hide ((bb.block _ (heapLt (unhide X1))).trans (unhide X1))
  replace T2 := hide ((unhide T2).later bb)
  replace X2 := hide ((bb.block _ (heapLt (unhide X2))).trans (unhide X2))
  clear bb p0 p1 p2
  clear W2 W3
  obtain ⟨p0, p1, p2⟩ : _ ∧ _ ∧ _ := ⟨cellOf (unhide X1) 0, cellOf (unhide X1) 1, cellOf (unhide X1) 2⟩
  obtain ⟨q0, q1, q2⟩ : _ ∧ _ ∧ _ := ⟨cellOf (unhide X2) 0, cellOf (unhide X2) 1, cellOf (unhide X2) 2⟩
  cases b2 with
  | false =>
    go_wp2_with fail
    refine (luIndex_same _ a b _ _ ms (unhide T2) (unhide T1)).mono ?_
    rintro e w5 ⟨rfl, bb⟩
    replace BW := hide ((unhide BW).trans (bb.mono (unhide BW).size))
    replace G := hide ((unhide G).later bb)
    replace TB := hide ((unhide TB).later bb)
    replace T1 := hide ((unhide T1).later bb)
    replace X1 := hide ((bb.block _ (heapLt (unhide X1))).trans (unhide X1))
    replace T2 := hide ((unhide T2).later bb)
    replace X2 := hide ((bb.block _ (heapLt (unhide X2))).trans (unhide X2))
    go_wp2
    go_ret
    exact ⟨rfl, unhide BW⟩
  | true =>
    obtain ⟨hok, ht⟩ := unhide HOK rfl
    have HT : Hid ((⟨(Ix.text a b ms).toArray⟩ : ByteArray) = s) := by show _ = _; rw [ht]
    have HK := hide hok
    have hse : (s == s) = true := beq_yes s
    have hbe : ((true : Bool) == true) = true := rfl
    clear ht hok
    go_wp2_with fail
    refine (implIndexOk_any _ a b _ ms (unhide T2)).mono ?_
    rw [unhide HK]
    rintro e w5 ⟨rfl, bb⟩
    replace BW := hide ((unhide BW).trans (bb.mono (unhide BW).size))
    replace G := hide ((unhide G).later bb)
    replace TB := hide ((unhide TB).later bb)
    replace T1 := hide ((unhide T1).later bb)
    replace X1 := hide ((bb.block _ (heapLt (unhide X1))).trans (unhide X1))
    replace T2 := hide ((unhide T2).later bb)
    replace X2 := hide ((bb.block _ (heapLt (unhide X2))).trans (unhide X2))
    clear bb q0 q1 q2
    obtain ⟨q0, q1, q2⟩ : _ ∧ _ ∧ _ := ⟨cellOf (unhide X2) 0, cellOf (unhide X2) 1, cellOf (unhide X2) 2⟩
    go_wp2_with fail
    refine (implIdxText_any _ a b _ ms (unhide T2) (unhide TB)).mono ?_
    rw [unhide HT]
    rintro e w6 ⟨rfl, bb⟩
    replace BW := hide ((unhide BW).trans (bb.mono (unhide BW).size))
    replace G := hide ((unhide G).later bb)
    replace TB := hide ((unhide TB).later bb)
    replace T1 := hide ((unhide T1).later bb)
    replace X1 := hide ((bb.block _ (heapLt (unhide X1))).trans (unhide X1))
    replace T2 := hide ((unhide T2).later bb)
    replace X2 := hide ((bb.block _ (heapLt (unhide X2))).trans (unhide X2))
    clear bb
    go_wp2
    go_ret
    exact ⟨rfl, unhide BW⟩
end Go.Proofs.YtnoghnkhfgiloaaDoor
