/- The walk of laws.FnIndexOne: it returns true; for every two codes. -/
import Derived.Test.YtnoghnkhfgiloaaDoorLuIdxW
import Derived.Test.YtnoghnkhfgiloaaDoorIReadDrawW
import Derived.Test.YtnoghnkhfgiloaaDoorImplIdxTextW
import Derived.Test.YtnoghnkhfgiloaaDoorInjW
namespace Go.Proofs.YtnoghnkhfgiloaaDoor
open Go.RowKit

attribute [local go_sem ↓] Go.wp_at_zero Go.wp_at_succ

set_option maxHeartbeats 8000000 in
set_option maxRecDepth 100000 in
theorem indexOne_walk (w : World) (a0 : Option Addr) (len0 cap0 : Nat) (a1 : Option Addr) (len1 cap1 : Nat) (w0 : Bytes w a0 len0 cap0) (w1 : Bytes w a1 len1 cap1) (hTab : Tab w) :
    Calls Tryd.prog 5 #[.slice a0 len0 cap0, .slice a1 len1 cap1] w fun e w' => e = .returned (.bool true) ∧ Below w.heap.size w w' := by
  have W0 := hide w0
  have W1 := hide w1
  have BW := hide (Below.refl w.heap.size w)
  have TB := hide hTab
  clear w0 w1 hTab
  by_cases g0 : len0 ≤ 1048576
  rotate_left
  · have g0' : decide ((1048576 : Int) < (len0 : Int)) = true := by simp; omega
    go_enter Tryd.func5, Tryd.ntmps5
    go_wp2
    go_ret
    exact ⟨rfl, Below.refl _ _⟩
  by_cases g1 : len1 ≤ 1048576
  rotate_left
  · have g0' : decide ((1048576 : Int) < (len0 : Int)) = false := by simp; omega
    have g1' : decide ((1048576 : Int) < (len1 : Int)) = true := by simp; omega
    go_enter Tryd.func5, Tryd.ntmps5
    go_wp2
    go_ret
    exact ⟨rfl, Below.refl _ _⟩
  go_enter Tryd.func5, Tryd.ntmps5
  go_wp2_with fail
  refine (drawIText_any w a0 len0 cap0 (unhide W0)).mono ?_
  rintro e w2 ⟨a, b, fa, fc, ms, rfl, hml, ho, bb⟩
  replace BW := hide ((unhide BW).trans (bb.mono (unhide BW).size))
  replace TB := hide ((unhide TB).later bb)
  replace W1 := hide ((unhide W1).later bb)
  clear bb W0
  have bx := below1 w2 (.cells #[.int .i64 a, .int .i64 b, .slice fa ms.length fc] 25)
  have T1 := hide ((Trs.own ho (by omega)).later bx)
  have X1 := hide (heap_alloc_new w2 (.cells #[.int .i64 a, .int .i64 b, .slice fa ms.length fc] 25))
  replace BW := hide ((unhide BW).trans (bx.mono (unhide BW).size))
  replace TB := hide ((unhide TB).later bx)
  replace W1 := hide ((unhide W1).later bx)
  clear bx ho
  go_wp2_with fail
  refine (drawIText_any _ a1 len1 cap1 (unhide W1)).mono ?_
  generalize hQ : w2.heap.size = P at *
  generalize w2.alloc _ = W2 at *
  clear hQ
  clear w2
  rintro e w3 ⟨c, d, ga, gc, ns, rfl, hnl, ho, bb⟩
  clear W1
  replace BW := hide ((unhide BW).trans (bb.mono (unhide BW).size))
  replace TB := hide ((unhide TB).later bb)
  replace T1 := hide ((unhide T1).later bb)
  replace X1 := hide ((bb.block _ (heapLt (unhide X1))).trans (unhide X1))
  clear bb
  have bx := below1 w3 (.cells #[.int .i64 c, .int .i64 d, .slice ga ns.length gc] 25)
  have T2 := hide ((Trs.own ho (by omega)).later bx)
  have X2 := hide (heap_alloc_new w3 (.cells #[.int .i64 c, .int .i64 d, .slice ga ns.length gc] 25))
  replace BW := hide ((unhide BW).trans (bx.mono (unhide BW).size))
  replace TB := hide ((unhide TB).later bx)
  replace T1 := hide ((unhide T1).later bx)
  replace X1 := hide ((bx.block _ (heapLt (unhide X1))).trans (unhide X1))
  clear bx ho
  clear W2
  obtain ⟨p0, p1, p2⟩ : _ ∧ _ ∧ _ := ⟨cellOf (unhide X1) 0, cellOf (unhide X1) 1, cellOf (unhide X1) 2⟩
  obtain ⟨q0, q1, q2⟩ : _ ∧ _ ∧ _ := ⟨cellOf (unhide X2) 0, cellOf (unhide X2) 1, cellOf (unhide X2) 2⟩
  go_wp2_with fail
  refine (implIdxText_any _ a b _ ms (unhide T1) (unhide TB)).mono ?_
  generalize hQ : w3.heap.size = Q at *
  generalize w3.alloc _ = W3 at *
  clear hQ
  clear w3
  rintro e w4 ⟨rfl, bb⟩
  replace BW := hide ((unhide BW).trans (bb.mono (unhide BW).size))
  replace TB := hide ((unhide TB).later bb)
  replace T1 := hide ((unhide T1).later bb)
  replace X1 := hide ((bb.block _ (heapLt (unhide X1))).trans (unhide X1))
  replace T2 := hide ((unhide T2).later bb)
  replace X2 := hide ((bb.block _ (heapLt (unhide X2))).trans (unhide X2))
  clear bb
  clear p0 p1 p2 q0 q1 q2
  clear W3
  obtain ⟨s, hs⟩ : ∃ s : ByteArray, (⟨(Ix.text a b ms).toArray⟩ : ByteArray) = s := ⟨_, rfl⟩
  rw [hs]
  have HS := hide hs
  have hse : (s != s) = false := by rw [bne, beq_yes s]; rfl
  have hse2 : (s == s) = true := beq_yes s
  clear hs
  obtain ⟨p0, p1, p2⟩ : _ ∧ _ ∧ _ := ⟨cellOf (unhide X1) 0, cellOf (unhide X1) 1, cellOf (unhide X1) 2⟩
  obtain ⟨q0, q1, q2⟩ : _ ∧ _ ∧ _ := ⟨cellOf (unhide X2) 0, cellOf (unhide X2) 1, cellOf (unhide X2) 2⟩
  go_wp2_with fail
  refine (implIdxText_any _ c d _ ns (unhide T2) (unhide TB)).mono ?_
  rintro e w5 ⟨rfl, bb⟩
  replace BW := hide ((unhide BW).trans (bb.mono (unhide BW).size))
  replace TB := hide ((unhide TB).later bb)
  replace T1 := hide ((unhide T1).later bb)
  replace X1 := hide ((bb.block _ (heapLt (unhide X1))).trans (unhide X1))
  replace T2 := hide ((unhide T2).later bb)
  replace X2 := hide ((bb.block _ (heapLt (unhide X2))).trans (unhide X2))
  clear bb
  clear p0 p1 p2 q0 q1 q2
  obtain ⟨t, ht⟩ : ∃ s : ByteArray, (⟨(Ix.text c d ns).toArray⟩ : ByteArray) = s := ⟨_, rfl⟩
  rw [ht]
  have HT := hide ht
  have hte : (t != t) = false := by rw [bne, beq_yes t]; rfl
  have hte2 : (t == t) = true := beq_yes t
  clear ht
  obtain ⟨p0, p1, p2⟩ : _ ∧ _ ∧ _ := ⟨cellOf (unhide X1) 0, cellOf (unhide X1) 1, cellOf (unhide X1) 2⟩
  obtain ⟨q0, q1, q2⟩ : _ ∧ _ ∧ _ := ⟨cellOf (unhide X2) 0, cellOf (unhide X2) 1, cellOf (unhide X2) 2⟩
  go_wp2_with fail
  refine (indexText_any _ a b _ ms (unhide T1)).mono ?_
  rw [unhide HS]
  rintro e w6 ⟨rfl, bb⟩
  replace BW := hide ((unhide BW).trans (bb.mono (unhide BW).size))
  replace TB := hide ((unhide TB).later bb)
  replace T1 := hide ((unhide T1).later bb)
  replace X1 := hide ((bb.block _ (heapLt (unhide X1))).trans (unhide X1))
  replace T2 := hide ((unhide T2).later bb)
  replace X2 := hide ((bb.block _ (heapLt (unhide X2))).trans (unhide X2))
  clear bb
  clear p0 p1 p2 q0 q1 q2
  obtain ⟨p0, p1, p2⟩ : _ ∧ _ ∧ _ := ⟨cellOf (unhide X1) 0, cellOf (unhide X1) 1, cellOf (unhide X1) 2⟩
  obtain ⟨q0, q1, q2⟩ : _ ∧ _ ∧ _ := ⟨cellOf (unhide X2) 0, cellOf (unhide X2) 1, cellOf (unhide X2) 2⟩
  go_wp2_with fail
  refine (indexText_any _ c d _ ns (unhide T2)).mono ?_
  rw [unhide HT]
  rintro e w7 ⟨rfl, bb⟩
  replace BW := hide ((unhide BW).trans (bb.mono (unhide BW).size))
  replace TB := hide ((unhide TB).later bb)
  replace T1 := hide ((unhide T1).later bb)
  replace X1 := hide ((bb.block _ (heapLt (unhide X1))).trans (unhide X1))
  replace T2 := hide ((unhide T2).later bb)
  replace X2 := hide ((bb.block _ (heapLt (unhide X2))).trans (unhide X2))
  clear bb
  clear p0 p1 p2 q0 q1 q2
  obtain ⟨p0, p1, p2⟩ : _ ∧ _ ∧ _ := ⟨cellOf (unhide X1) 0, cellOf (unhide X1) 1, cellOf (unhide X1) 2⟩
  obtain ⟨q0, q1, q2⟩ : _ ∧ _ ∧ _ := ⟨cellOf (unhide X2) 0, cellOf (unhide X2) 1, cellOf (unhide X2) 2⟩
  cases hok : Ix.idxOk a b ms
  · have hem : s.toList.isEmpty = true := by
      rw [← unhide HS, Ix.text_bad hok, ByteArray.toList_eq]
      rfl
    clear hok
    go_wp2_with fail
    refine (indexText_any _ a b _ ms (unhide T1)).mono ?_
    rw [unhide HS]
    rintro e w8 ⟨rfl, bb⟩
    replace BW := hide ((unhide BW).trans (bb.mono (unhide BW).size))
    replace TB := hide ((unhide TB).later bb)
    replace T1 := hide ((unhide T1).later bb)
    replace X1 := hide ((bb.block _ (heapLt (unhide X1))).trans (unhide X1))
    replace T2 := hide ((unhide T2).later bb)
    replace X2 := hide ((bb.block _ (heapLt (unhide X2))).trans (unhide X2))
    clear bb
    clear p0 p1 p2 q0 q1 q2
    obtain ⟨p0, p1, p2⟩ : _ ∧ _ ∧ _ := ⟨cellOf (unhide X1) 0, cellOf (unhide X1) 1, cellOf (unhide X1) 2⟩
    obtain ⟨q0, q1, q2⟩ : _ ∧ _ ∧ _ := ⟨cellOf (unhide X2) 0, cellOf (unhide X2) 1, cellOf (unhide X2) 2⟩
    go_wp2_with fail
    refine (indexText_any _ c d _ ns (unhide T2)).mono ?_
    rw [unhide HT]
    rintro e w9 ⟨rfl, bb⟩
    replace BW := hide ((unhide BW).trans (bb.mono (unhide BW).size))
    replace TB := hide ((unhide TB).later bb)
    replace T1 := hide ((unhide T1).later bb)
    replace X1 := hide ((bb.block _ (heapLt (unhide X1))).trans (unhide X1))
    replace T2 := hide ((unhide T2).later bb)
    replace X2 := hide ((bb.block _ (heapLt (unhide X2))).trans (unhide X2))
    clear bb
    go_wp2
    go_ret
    exact ⟨rfl, unhide BW⟩
  have hem : s.toList.isEmpty = false := by
    rw [← unhide HS, ByteArray.toList_eq, List.isEmpty_eq_false_iff]
    exact Ix.text_ne hok
  cases hok2 : Ix.idxOk c d ns
  · have hem2 : t.toList.isEmpty = true := by
      rw [← unhide HT, Ix.text_bad hok2, ByteArray.toList_eq]
      rfl
    clear hok hok2
    go_wp2_with fail
    refine (indexText_any _ a b _ ms (unhide T1)).mono ?_
    rw [unhide HS]
    rintro e w8 ⟨rfl, bb⟩
    replace BW := hide ((unhide BW).trans (bb.mono (unhide BW).size))
    replace TB := hide ((unhide TB).later bb)
    replace T1 := hide ((unhide T1).later bb)
    replace X1 := hide ((bb.block _ (heapLt (unhide X1))).trans (unhide X1))
    replace T2 := hide ((unhide T2).later bb)
    replace X2 := hide ((bb.block _ (heapLt (unhide X2))).trans (unhide X2))
    clear bb
    clear p0 p1 p2 q0 q1 q2
    obtain ⟨p0, p1, p2⟩ : _ ∧ _ ∧ _ := ⟨cellOf (unhide X1) 0, cellOf (unhide X1) 1, cellOf (unhide X1) 2⟩
    obtain ⟨q0, q1, q2⟩ : _ ∧ _ ∧ _ := ⟨cellOf (unhide X2) 0, cellOf (unhide X2) 1, cellOf (unhide X2) 2⟩
    go_wp2_with fail
    refine (indexText_any _ c d _ ns (unhide T2)).mono ?_
    rw [unhide HT]
    rintro e w9 ⟨rfl, bb⟩
    replace BW := hide ((unhide BW).trans (bb.mono (unhide BW).size))
    replace TB := hide ((unhide TB).later bb)
    replace T1 := hide ((unhide T1).later bb)
    replace X1 := hide ((bb.block _ (heapLt (unhide X1))).trans (unhide X1))
    replace T2 := hide ((unhide T2).later bb)
    replace X2 := hide ((bb.block _ (heapLt (unhide X2))).trans (unhide X2))
    clear bb
    go_wp2
    go_ret
    exact ⟨rfl, unhide BW⟩
  have hem2 : t.toList.isEmpty = false := by
    rw [← unhide HT, ByteArray.toList_eq, List.isEmpty_eq_false_iff]
    exact Ix.text_ne hok2
  have hiff : (s = t) ↔ (a = c ∧ b = d ∧ ms = ns) := by
    rw [← unhide HS, ← unhide HT]
    exact ⟨fun e => (Ix.text_inj hok hok2).1 (arr_inj e), fun e => by rw [(Ix.text_inj hok hok2).2 e]⟩
  have HL := hide (luIndex_any _ a b c d _ _ ms ns (unhide T1) (unhide T2))
  clear hok hok2
  by_cases hst : s = t
  · have e1 : (s == t) = true := by rw [hst]; exact beq_yes t
    have e2 : (s.toList == t.toList) = true := by rw [hst]; exact beq_self_eq_true _
    rw [decide_eq_true (hiff.1 hst)] at HL
    clear hst hiff
    go_wp2_with fail
    refine (unhide HL).mono ?_
    rintro e w8 ⟨rfl, bb⟩
    replace BW := hide ((unhide BW).trans (bb.mono (unhide BW).size))
    clear bb HL
    go_wp2
    go_ret
    exact ⟨rfl, unhide BW⟩
  · have e1 : (s == t) = false := beq_no hst
    have e2 : (s.toList == t.toList) = false := by rw [← beq_toListBytes]; exact e1
    rw [decide_eq_false (fun h => hst (hiff.2 h))] at HL
    clear hst hiff
    go_wp2_with fail
    refine (unhide HL).mono ?_
    rintro e w8 ⟨rfl, bb⟩
    replace BW := hide ((unhide BW).trans (bb.mono (unhide BW).size))
    clear bb HL
    go_wp2
    go_ret
    exact ⟨rfl, unhide BW⟩
end Go.Proofs.YtnoghnkhfgiloaaDoor
