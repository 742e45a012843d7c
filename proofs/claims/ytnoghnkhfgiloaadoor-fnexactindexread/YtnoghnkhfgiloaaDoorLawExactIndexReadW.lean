import Derived.Test.YtnoghnkhfgiloaaDoorSpecIReadW
import Derived.Test.YtnoghnkhfgiloaaDoorMixG
import Derived.Test.YtnoghnkhfgiloaaDoorMarkRW
/- The walk of laws.FnExactIndexRead: it returns true. -/
namespace Go.Proofs.YtnoghnkhfgiloaaDoor
open Go.RowKit

attribute [local go_sem ↓] Go.wp_at_zero Go.wp_at_succ

theorem rx_outExactRead {s : ByteArray} {w w' : World} {e : Ending} (h : RxAns s w e w') : ∃ a b ms b2 fa fc, Ix.rxD s.data.toList = (a, b, ms) ∧ (Ix.rx s.data.toList).isSome = b2 ∧ ms.length ≤ 8 ∧ (b2 = true → Ix.idxOk a b ms = true ∧ Ix.text a b ms = s.data.toList) ∧ e = .returned (.tuple #[.agg #[.int .i64 a, .int .i64 b, .slice fa ms.length fc], .bool b2]) ∧ w'.ownsRow w.heap.size 45 3 (.slice fa ms.length fc) ms.length (flat3 ms) ∧ Below w.heap.size w w' := by
  obtain ⟨mv, he, ho, hb⟩ := h
  obtain ⟨fa, fc, hv⟩ := own_formS ho
  subst hv
  refine ⟨(Ix.rxD s.data.toList).1, (Ix.rxD s.data.toList).2.1, (Ix.rxD s.data.toList).2.2, _, fa, fc, rfl, rfl, Ix.rxD_len _, fun hb2 => ?_, he, ho, hb⟩
  obtain ⟨q, hq⟩ := Option.isSome_iff_exists.1 hb2
  have e : Ix.rxD s.data.toList = q := by unfold Ix.rxD; rw [hq]; rfl
  rw [e]
  exact Ix.rx_some.1 hq

set_option maxHeartbeats 8000000 in
set_option maxRecDepth 100000 in
theorem exactIndexRead_walk (w : World) (s : ByteArray) (ev : Addr) (g : Gl w ev) (hTab : Tab w) :
    Calls Tryd.prog 7 #[.string s] w fun e w' => e = .returned (.bool true) ∧ Below w.heap.size w w' := by
  have BW := hide (Below.refl w.heap.size w)
  have G := hide g
  have TB := hide hTab
  clear g hTab
  by_cases g0 : s.size ≤ 1048576
  rotate_left
  · have g0' : decide ((1048576 : Int) < (s.size : Int)) = true := by simp; omega
    go_enter Tryd.func7, Tryd.ntmps7
    go_wp2
    go_ret
    exact ⟨rfl, Below.refl _ _⟩
  go_enter Tryd.func7, Tryd.ntmps7
  go_wp2_with fail
  refine (specIRead_any s _).mono ?_
  intro e w2 h2
  obtain ⟨a, b, ms, b2, fa, fc, hD, hS, hml, hok, rfl, ho, bb⟩ := rx_outExactRead h2
  clear h2
  have HOK := hide hok
  have HD := hide (And.intro hD hS)
  have hbb : (b2 != b2) = false := by cases b2 <;> rfl
  clear hok hD hS
  replace BW := hide ((unhide BW).trans (bb.mono (unhide BW).size))
  replace G := hide ((unhide G).later bb)
  replace TB := hide ((unhide TB).later bb)
  clear bb
  have bx := below1 w2 (.cells #[.int .i64 a, .int .i64 b, .slice fa ms.length fc] 25)
  have T1 := hide ((Trs.own ho (by omega)).later bx)
  have X1 := hide (heap_alloc_new w2 (.cells #[.int .i64 a, .int .i64 b, .slice fa ms.length fc] 25))
  replace BW := hide ((unhide BW).trans (bx.mono (unhide BW).size))
  replace G := hide ((unhide G).later bx)
  replace TB := hide ((unhide TB).later bx)
  clear bx ho
  go_wp2_with fail
  refine (implIRead_any s _ ev (unhide G) (unhide TB)).mono ?_
  generalize hQ : w2.heap.size = P at *
  generalize w2.alloc _ = W2 at *
  clear hQ
  clear w2
  have BV := hide (Below.refl W2.heap.size W2)
  intro e w3 h3
  obtain ⟨a', b', ms', b2', ga, gc, hD, hS, hml', hok, rfl, ho, bb⟩ := rx_outExactRead h3
  clear h3
  obtain ⟨rfl, rfl, rfl⟩ : a = a' ∧ b = b' ∧ ms = ms' := by
    have := (unhide HD).1.symm.trans hD
    injection this with e1 e2
    injection e2 with e2 e3
    exact ⟨e1, e2, e3⟩
  obtain rfl : b2 = b2' := (unhide HD).2.symm.trans hS
  clear hD hS hok hml'
  replace BV := hide ((unhide BV).trans (bb.mono (unhide BV).size))
  clear bb
  have OG := hide ho
  clear ho
  have bx := below1 w3 (.cells #[.int .i64 a, .int .i64 b, .slice ga ms.length gc] 25)
  have X2 := hide (heap_alloc_new w3 (.cells #[.int .i64 a, .int .i64 b, .slice ga ms.length gc] 25))
  replace BV := hide ((unhide BV).trans (bx.mono (unhide BV).size))
  replace OG := hide (own_later (unhide OG) bx)
  clear bx
  have X1N := hide ((Below.block (unhide BV) _ (heapLt (unhide X1))).trans (unhide X1))
  obtain ⟨p0, p1, p2⟩ : _ ∧ _ ∧ _ := ⟨cellOf (unhide X1N) 0, cellOf (unhide X1N) 1, cellOf (unhide X1N) 2⟩
  have CE := hide (eqIndex_any _ a b _ _ ms (Trs.own (unhide OG) (by omega)) ((unhide T1).later (unhide BV)))
  go_wp2_with fail
  clear X1N
  refine (unhide CE).mono ?_
  clear CE
  generalize hQ : w3.heap.size = Q at *
  generalize w3.alloc _ = W3 at *
  clear hQ
  clear w3
  rintro e w4 ⟨rfl, bb⟩
  replace BV := hide ((unhide BV).trans (bb.mono (unhide BV).size))
  replace OG := hide (own_later (unhide OG) bb)
  replace X2 := hide ((bb.block _ (heapLt (unhide X2))).trans (unhide X2))
  clear bb p0 p1 p2
  clear W3
  obtain ⟨q0, q1, q2⟩ : _ ∧ _ ∧ _ := ⟨cellOf (unhide X2) 0, cellOf (unhide X2) 1, cellOf (unhide X2) 2⟩
  have hvs := (unhide BV).size
  have CM := hide (markIndex_any w4 a b _ ms W2.heap.size 1 (unhide OG) (by omega) (by omega) (by omega))
  have NX := hide (own_ne (unhide OG) (unhide X2) (by decide))
  have LO := hide (fun k hk => (own_row (unhide OG) k hk).1)
  go_wp2_with fail
  refine (unhide CM).mono ?_
  rintro e w5 ⟨rfl, hf, fr⟩
  replace X2 := hide ((fr.block _ (heapLt (unhide X2)) (unhide NX)).trans (unhide X2))
  replace BV := hide ((unhide BV).trans (fr.below (unhide BV).size (fun k hk => unhide LO k hk)))
  replace OG := hide hf
  have hq : ¬ ((1 : Int) + 3 * (ms.length : Int)) < 0 := by omega
  have hqn : (((1 : Int) + 3 * (ms.length : Int)) != ((1 : Int) + 3 * (ms.length : Int))) = false := by simp
  clear CM NX LO hf fr q0 q1 q2
  obtain ⟨q0, q1, q2⟩ : _ ∧ _ ∧ _ := ⟨cellOf (unhide X2) 0, cellOf (unhide X2) 1, cellOf (unhide X2) 2⟩
  go_wp2_with fail
  refine (heldIndex_any _ a b _ ms.length W2.heap.size 1 (unhide OG) (by omega) (by omega) (by omega)).mono ?_
  rintro e w6 ⟨rfl, bb⟩
  replace BV := hide ((unhide BV).trans (bb.mono (unhide BV).size))
  replace OG := hide (own_later (unhide OG) bb)
  replace X2 := hide ((bb.block _ (heapLt (unhide X2))).trans (unhide X2))
  clear bb q0 q1 q2
  go_wp2_with fail
  refine (implIRead_any s _ ev ((unhide G).later (unhide BV)) ((unhide TB).later (unhide BV))).mono ?_
  intro e w7 h7
  obtain ⟨a', b', ms', b2', ha, hc, hD, hS, hml', hok, rfl, ho, bb⟩ := rx_outExactRead h7
  clear h7
  obtain ⟨rfl, rfl, rfl⟩ : a = a' ∧ b = b' ∧ ms = ms' := by
    have := (unhide HD).1.symm.trans hD
    injection this with e1 e2
    injection e2 with e2 e3
    exact ⟨e1, e2, e3⟩
  obtain rfl : b2 = b2' := (unhide HD).2.symm.trans hS
  clear hD hS hok hml'
  replace BV := hide ((unhide BV).trans (bb.mono (unhide BV).size))
  replace OG := hide (own_later (unhide OG) bb)
  replace X2 := hide ((bb.block _ (heapLt (unhide X2))).trans (unhide X2))
  clear bb
  have bx := below1 w7 (.cells #[.int .i64 a, .int .i64 b, .slice ha ms.length hc] 25)
  have T3 := hide ((Trs.own ho (by omega)).later bx)
  replace BV := hide ((unhide BV).trans (bx.mono (unhide BV).size))
  replace OG := hide (own_later (unhide OG) bx)
  replace X2 := hide ((bx.block _ (heapLt (unhide X2))).trans (unhide X2))
  clear bx ho
  have X1N := hide ((Below.block (unhide BV) _ (heapLt (unhide X1))).trans (unhide X1))
  obtain ⟨p0, p1, p2⟩ : _ ∧ _ ∧ _ := ⟨cellOf (unhide X1N) 0, cellOf (unhide X1N) 1, cellOf (unhide X1N) 2⟩
  have CE := hide (eqIndex_any _ a b _ _ ms (unhide T3) ((unhide T1).later (unhide BV)))
  clear X1N T3
  go_wp2_with fail
  refine (unhide CE).mono ?_
  clear CE
  generalize hQ : w7.heap.size = R at *
  generalize w7.alloc _ = W7 at *
  clear hQ
  clear w7
  rintro e w8 ⟨rfl, bb⟩
  replace BV := hide ((unhide BV).trans (bb.mono (unhide BV).size))
  replace OG := hide (own_later (unhide OG) bb)
  replace X2 := hide ((bb.block _ (heapLt (unhide X2))).trans (unhide X2))
  clear bb p0 p1 p2
  clear W7
  obtain ⟨q0, q1, q2⟩ : _ ∧ _ ∧ _ := ⟨cellOf (unhide X2) 0, cellOf (unhide X2) 1, cellOf (unhide X2) 2⟩
  go_wp2_with fail
  refine (heldIndex_any _ a b _ ms.length W2.heap.size 1 (unhide OG) (by omega) (by omega) (by omega)).mono ?_
  rintro e w9 ⟨rfl, bb⟩
  replace BV := hide ((unhide BV).trans (bb.mono (unhide BV).size))
  replace OG := hide (own_later (unhide OG) bb)
  replace X2 := hide ((bb.block _ (heapLt (unhide X2))).trans (unhide X2))
  clear bb q0 q1 q2
  have HB : Hid (Below w.heap.size w w9) := (unhide BW).trans ((unhide BV).mono (unhide BW).size)
  go_wp2
  go_ret
  exact ⟨rfl, unhide HB⟩
end Go.Proofs.YtnoghnkhfgiloaaDoor
