/- The walk of laws.FnIndexBack: it returns true. -/
import Derived.Test.YtnoghnkhfgiloaaDoorImplIReadW
import Derived.Test.YtnoghnkhfgiloaaDoorIReadDrawW
import Derived.Test.YtnoghnkhfgiloaaDoorLuTW
import Derived.Test.YtnoghnkhfgiloaaDoorInjW
namespace Go.Proofs.YtnoghnkhfgiloaaDoor
open Go.RowKit

attribute [local go_sem ↓] Go.wp_at_zero Go.wp_at_succ

theorem rx_outBack {s : ByteArray} {w w' : World} {e : Ending} (h : RxAns s w e w') : ∃ a b ms b2 fa fc, Ix.rxD s.data.toList = (a, b, ms) ∧ (Ix.rx s.data.toList).isSome = b2 ∧ ms.length ≤ 8 ∧ (b2 = true → Ix.idxOk a b ms = true ∧ Ix.text a b ms = s.data.toList) ∧ e = .returned (.tuple #[.agg #[.int .i64 a, .int .i64 b, .slice fa ms.length fc], .bool b2]) ∧ w'.ownsRow w.heap.size 45 3 (.slice fa ms.length fc) ms.length (flat3 ms) ∧ Below w.heap.size w w' := by
  obtain ⟨mv, he, ho, hb⟩ := h
  obtain ⟨fa, fc, hv⟩ := own_formS ho
  subst hv
  refine ⟨(Ix.rxD s.data.toList).1, (Ix.rxD s.data.toList).2.1, (Ix.rxD s.data.toList).2.2, _, fa, fc, rfl, rfl, Ix.rxD_len _, fun hb2 => ?_, he, ho, hb⟩
  obtain ⟨q, hq⟩ := Option.isSome_iff_exists.1 hb2
  have e : Ix.rxD s.data.toList = q := by unfold Ix.rxD; rw [hq]; rfl
  rw [e]
  exact Ix.rx_some.1 hq

set_option maxHeartbeats 8000000 in
set_option maxRecDepth 100000 in
theorem indexBack_walk (w : World) (a0 : Option Addr) (len0 cap0 : Nat) (w0 : Bytes w a0 len0 cap0) (ev : Addr) (g : Gl w ev) (hTab : Tab w) :
    Calls Tryd.prog 3 #[.slice a0 len0 cap0] w fun e w' => e = .returned (.bool true) ∧ Below w.heap.size w w' := by
  have W0 := hide w0
  have BW := hide (Below.refl w.heap.size w)
  have G := hide g
  have TB := hide hTab
  clear w0 g hTab
  by_cases g0 : len0 ≤ 1048576
  rotate_left
  · have g0' : decide ((1048576 : Int) < (len0 : Int)) = true := by simp; omega
    go_enter Tryd.func3, Tryd.ntmps3
    go_wp2
    go_ret
    exact ⟨rfl, Below.refl _ _⟩
  go_enter Tryd.func3, Tryd.ntmps3
  go_wp2_with fail
  refine (drawIText_any w a0 len0 cap0 (unhide W0)).mono ?_
  rintro e w1 ⟨a, b, fa, fc, ms, rfl, hml, ho, bb⟩
  replace BW := hide ((unhide BW).trans (bb.mono (unhide BW).size))
  replace G := hide ((unhide G).later bb)
  replace TB := hide ((unhide TB).later bb)
  clear bb W0
  have bx := below1 w1 (.cells #[.int .i64 a, .int .i64 b, .slice fa ms.length fc] 25)
  have T1 := hide ((Trs.own ho (by omega)).later bx)
  have X1 := hide (heap_alloc_new w1 (.cells #[.int .i64 a, .int .i64 b, .slice fa ms.length fc] 25))
  replace BW := hide ((unhide BW).trans (bx.mono (unhide BW).size))
  replace G := hide ((unhide G).later bx)
  replace TB := hide ((unhide TB).later bx)
  clear bx ho
  go_wp2_with fail
  refine (implIdxText_any _ a b _ ms (unhide T1) (unhide TB)).mono ?_
  generalize hQ : w1.heap.size = P at *
  generalize w1.alloc _ = W1 at *
  clear hQ
  clear w1
  rintro e w2 ⟨rfl, bb⟩
  replace BW := hide ((unhide BW).trans (bb.mono (unhide BW).size))
  replace G := hide ((unhide G).later bb)
  replace TB := hide ((unhide TB).later bb)
  replace T1 := hide ((unhide T1).later bb)
  replace X1 := hide ((bb.block _ (heapLt (unhide X1))).trans (unhide X1))
  clear bb
  clear W1
  obtain ⟨s, hs⟩ : ∃ s : ByteArray, (⟨(Ix.text a b ms).toArray⟩ : ByteArray) = s := ⟨_, rfl⟩
  rw [hs]
  have HS := hide hs
  have hse : (s != s) = false := by rw [bne, beq_yes s]; rfl
  have hse2 : (s == s) = true := beq_yes s
  clear hs
  obtain ⟨p0, p1, p2⟩ : _ ∧ _ ∧ _ := ⟨cellOf (unhide X1) 0, cellOf (unhide X1) 1, cellOf (unhide X1) 2⟩
  go_wp2_with fail
  refine (indexText_any _ a b _ ms (unhide T1)).mono ?_
  rw [unhide HS]
  rintro e w3 ⟨rfl, bb⟩
  replace BW := hide ((unhide BW).trans (bb.mono (unhide BW).size))
  replace G := hide ((unhide G).later bb)
  replace TB := hide ((unhide TB).later bb)
  replace T1 := hide ((unhide T1).later bb)
  replace X1 := hide ((bb.block _ (heapLt (unhide X1))).trans (unhide X1))
  clear bb p0 p1 p2
  obtain ⟨p0, p1, p2⟩ : _ ∧ _ ∧ _ := ⟨cellOf (unhide X1) 0, cellOf (unhide X1) 1, cellOf (unhide X1) 2⟩
  cases hok : Ix.idxOk a b ms
  · have hem : s.toList.isEmpty = true := by
      rw [← unhide HS, Ix.text_bad hok, ByteArray.toList_eq]
      rfl
    clear hok
    go_wp2_with fail
    refine (indexText_any _ a b _ ms (unhide T1)).mono ?_
    rw [unhide HS]
    rintro e w4 ⟨rfl, bb⟩
    replace BW := hide ((unhide BW).trans (bb.mono (unhide BW).size))
    replace G := hide ((unhide G).later bb)
    replace TB := hide ((unhide TB).later bb)
    replace T1 := hide ((unhide T1).later bb)
    replace X1 := hide ((bb.block _ (heapLt (unhide X1))).trans (unhide X1))
    go_wp2
    go_ret
    exact ⟨rfl, unhide BW⟩
  · have hem : s.toList.isEmpty = false := by
      rw [← unhide HS, ByteArray.toList_eq, List.isEmpty_eq_false_iff]
      exact Ix.text_ne hok
    have HRX : Hid (Ix.rx s.data.toList = some (a, b, ms)) := by
      show _ = _
      rw [← unhide HS]
      exact Ix.rx_text hok
    have HK := hide hok
    clear hok
    go_wp2_with fail
    refine (implIRead_any s _ ev (unhide G) (unhide TB)).mono ?_
    intro e w4 h4
    obtain ⟨a', b', ms', b2, ga, gc, hD, hS, hml', hok2, rfl, ho, bb⟩ := rx_outBack h4
    clear h4 hok2 hml'
    obtain ⟨rfl, rfl, rfl⟩ : a = a' ∧ b = b' ∧ ms = ms' := by
      unfold Ix.rxD at hD
      rw [unhide HRX] at hD
      injection hD with e1 e2
      injection e2 with e2 e3
      exact ⟨e1, e2, e3⟩
    obtain rfl : b2 = true := by rw [← hS, unhide HRX]; rfl
    clear hD hS
    replace BW := hide ((unhide BW).trans (bb.mono (unhide BW).size))
    replace G := hide ((unhide G).later bb)
    replace TB := hide ((unhide TB).later bb)
    replace T1 := hide ((unhide T1).later bb)
    replace X1 := hide ((bb.block _ (heapLt (unhide X1))).trans (unhide X1))
    clear bb p0 p1 p2
    have bx := below1 w4 (.cells #[.int .i64 a, .int .i64 b, .slice ga ms.length gc] 25)
    have T2 := hide ((Trs.own ho (by omega)).later bx)
    have X2 := hide (heap_alloc_new w4 (.cells #[.int .i64 a, .int .i64 b, .slice ga ms.length gc] 25))
    replace BW := hide ((unhide BW).trans (bx.mono (unhide BW).size))
    replace G := hide ((unhide G).later bx)
    replace TB := hide ((unhide TB).later bx)
    replace T1 := hide ((unhide T1).later bx)
    replace X1 := hide ((bx.block _ (heapLt (unhide X1))).trans (unhide X1))
    clear bx ho
    obtain ⟨p0, p1, p2⟩ : _ ∧ _ ∧ _ := ⟨cellOf (unhide X1) 0, cellOf (unhide X1) 1, cellOf (unhide X1) 2⟩
    go_wp2_with fail
    refine (luIndex_same _ a b _ _ ms (unhide T1) (unhide T2)).mono ?_
    generalize hQ : w4.heap.size = Q at *
    generalize w4.alloc _ = W4 at *
    clear hQ
    clear w4
    rintro e w5 ⟨rfl, bb⟩
    replace BW := hide ((unhide BW).trans (bb.mono (unhide BW).size))
    replace G := hide ((unhide G).later bb)
    replace TB := hide ((unhide TB).later bb)
    replace T1 := hide ((unhide T1).later bb)
    replace X1 := hide ((bb.block _ (heapLt (unhide X1))).trans (unhide X1))
    replace T2 := hide ((unhide T2).later bb)
    replace X2 := hide ((bb.block _ (heapLt (unhide X2))).trans (unhide X2))
    clear bb p0 p1 p2
    clear W4
    obtain ⟨p0, p1, p2⟩ : _ ∧ _ ∧ _ := ⟨cellOf (unhide X1) 0, cellOf (unhide X1) 1, cellOf (unhide X1) 2⟩
    go_wp2_with fail
    refine (implIndexOk_any _ a b _ ms (unhide T1)).mono ?_
    rw [unhide HK]
    rintro e w6 ⟨rfl, bb⟩
    replace BW := hide ((unhide BW).trans (bb.mono (unhide BW).size))
    replace G := hide ((unhide G).later bb)
    replace TB := hide ((unhide TB).later bb)
    replace T1 := hide ((unhide T1).later bb)
    replace X1 := hide ((bb.block _ (heapLt (unhide X1))).trans (unhide X1))
    replace T2 := hide ((unhide T2).later bb)
    replace X2 := hide ((bb.block _ (heapLt (unhide X2))).trans (unhide X2))
    clear bb
    go_wp2
    go_ret
    exact ⟨rfl, unhide BW⟩
end Go.Proofs.YtnoghnkhfgiloaaDoor
