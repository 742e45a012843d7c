/- The walk of laws.FnIndexCut: it returns true. -/
import Derived.Test.YtnoghnkhfgiloaaDoorImplIReadW
import Derived.Test.YtnoghnkhfgiloaaDoorIReadDrawW
import Derived.Test.YtnoghnkhfgiloaaDoorLuTW
import Derived.Test.YtnoghnkhfgiloaaDoorInjW
import Derived.Test.YtnoghnkhfgiloaaDoorIdxCutMath
namespace Go.Proofs.YtnoghnkhfgiloaaDoor
open Go.RowKit

attribute [local go_sem ↓] Go.wp_at_zero Go.wp_at_succ

theorem rx_outCut {s : ByteArray} {w w' : World} {e : Ending} (h : RxAns s w e w') : ∃ a b ms b2 fa fc, Ix.rxD s.data.toList = (a, b, ms) ∧ (Ix.rx s.data.toList).isSome = b2 ∧ ms.length ≤ 8 ∧ (b2 = true → Ix.idxOk a b ms = true ∧ Ix.text a b ms = s.data.toList) ∧ e = .returned (.tuple #[.agg #[.int .i64 a, .int .i64 b, .slice fa ms.length fc], .bool b2]) ∧ w'.ownsRow w.heap.size 45 3 (.slice fa ms.length fc) ms.length (flat3 ms) ∧ Below w.heap.size w w' := by
  obtain ⟨mv, he, ho, hb⟩ := h
  obtain ⟨fa, fc, hv⟩ := own_formS ho
  subst hv
  refine ⟨(Ix.rxD s.data.toList).1, (Ix.rxD s.data.toList).2.1, (Ix.rxD s.data.toList).2.2, _, fa, fc, rfl, rfl, Ix.rxD_len _, fun hb2 => ?_, he, ho, hb⟩
  obtain ⟨q, hq⟩ := Option.isSome_iff_exists.1 hb2
  have e : Ix.rxD s.data.toList = q := by unfold Ix.rxD; rw [hq]; rfl
  rw [e]
  exact Ix.rx_some.1 hq

theorem ext_take (s : ByteArray) (k : Nat) : (s.extract 0 k).data.toList = s.data.toList.take k := by
  rw [ByteArray.data_extract, Array.toList_extract, List.extract_eq_take_drop]
  simp
theorem own_roomC {w : World} {B sz n c : Nat} {t : TypeId} {a : Option Addr} {xs : List Value} (h : w.ownsRow B t sz (.slice a n c) n xs) : n ≤ c ∧ c ≤ maxLen := by
  rcases h.2 with ⟨hv, hn⟩ | ⟨g, cap, cur, hv, _, _, h1, h2, _⟩
  · injection hv with _ _ e
    subst e hn
    exact ⟨Nat.le_refl _, by unfold maxLen; omega⟩
  · injection hv with _ _ e
    subst e
    exact ⟨h1, h2⟩
theorem Trs.takeC {w : World} {a : Option Addr} {c k : Nat} {l : List Ix.M} (h : Trs w (.slice a l.length c) l) (hk : k ≤ l.length) : Trs w (.slice a (l.take k).length c) (l.take k) := by
  obtain ⟨a', c', hv, hl, hr⟩ := h
  injection hv with e1 _ e3
  subst e1 e3
  have hlk : (l.take k).length = k := by rw [List.length_take]; omega
  refine ⟨a, c, rfl, by omega, fun hp => ?_⟩
  obtain ⟨b, off, ha, hb, hc⟩ := hr (by omega)
  refine ⟨b, off, ha, hb, fun i hi => ?_⟩
  have e : ∀ (l : List Ix.M) (k i : Nat), i < k → (l.take k).getD i (0, 0, 0) = l.getD i (0, 0, 0) := fun l k i hi => by rw [List.getD_eq_getElem?_getD, List.getD_eq_getElem?_getD, List.getElem?_take_of_lt hi]
  have := hc i (by omega)
  unfold Ix.nm Ix.vr Ix.sm at this ⊢
  rw [e l k i (by omega)]
  exact this

set_option maxHeartbeats 8000000 in
set_option maxRecDepth 100000 in
theorem indexCut_walk (w : World) (a0 : Option Addr) (len0 cap0 : Nat) (w0 : Bytes w a0 len0 cap0) (ev : Addr) (g : Gl w ev) (hTab : Tab w) :
    Calls Tryd.prog 6 #[.slice a0 len0 cap0] w fun e w' => e = .returned (.bool true) ∧ Below w.heap.size w w' := by
  have W0 := hide w0
  have BW := hide (Below.refl w.heap.size w)
  have G := hide g
  have TB := hide hTab
  clear w0 g hTab
  by_cases g0 : len0 ≤ 1048576
  rotate_left
  · have g0' : decide ((1048576 : Int) < (len0 : Int)) = true := by simp; omega
    go_enter Tryd.func6, Tryd.ntmps6
    go_wp2
    go_ret
    exact ⟨rfl, Below.refl _ _⟩
  go_enter Tryd.func6, Tryd.ntmps6
  go_wp2_with fail
  refine (drawIText_any w a0 len0 cap0 (unhide W0)).mono ?_
  rintro e w1 ⟨a, b, fa, fc, ms, rfl, hml, ho, bb⟩
  replace BW := hide ((unhide BW).trans (bb.mono (unhide BW).size))
  replace G := hide ((unhide G).later bb)
  replace TB := hide ((unhide TB).later bb)
  clear bb W0
  obtain ⟨hroom, hmax⟩ := own_roomC ho
  have bx := below1 w1 (.cells #[.int .i64 a, .int .i64 b, .slice fa ms.length fc] 25)
  have T1 := hide ((Trs.own ho (by omega)).later bx)
  have X1 := hide (heap_alloc_new w1 (.cells #[.int .i64 a, .int .i64 b, .slice fa ms.length fc] 25))
  replace BW := hide ((unhide BW).trans (bx.mono (unhide BW).size))
  replace G := hide ((unhide G).later bx)
  replace TB := hide ((unhide TB).later bx)
  clear bx ho
  go_wp2_with fail
  refine (implIdxText_any _ a b _ ms (unhide T1) (unhide TB)).mono ?_
  generalize hQ : w1.heap.size = P at *
  generalize w1.alloc _ = W1 at *
  clear hQ
  clear w1
  rintro e w2 ⟨rfl, bb⟩
  replace BW := hide ((unhide BW).trans (bb.mono (unhide BW).size))
  replace G := hide ((unhide G).later bb)
  replace TB := hide ((unhide TB).later bb)
  replace T1 := hide ((unhide T1).later bb)
  replace X1 := hide ((bb.block _ (heapLt (unhide X1))).trans (unhide X1))
  clear bb
  clear W1
  obtain ⟨s, hs⟩ : ∃ s : ByteArray, (⟨(Ix.text a b ms).toArray⟩ : ByteArray) = s := ⟨_, rfl⟩
  rw [hs]
  have HS := hide hs
  have hse : (s != s) = false := by rw [bne, beq_yes s]; rfl
  have hse2 : (s == s) = true := beq_yes s
  clear hs
  obtain ⟨p0, p1, p2⟩ : _ ∧ _ ∧ _ := ⟨cellOf (unhide X1) 0, cellOf (unhide X1) 1, cellOf (unhide X1) 2⟩
  go_wp2_with fail
  refine (indexText_any _ a b _ ms (unhide T1)).mono ?_
  rw [unhide HS]
  rintro e w3 ⟨rfl, bb⟩
  replace BW := hide ((unhide BW).trans (bb.mono (unhide BW).size))
  replace G := hide ((unhide G).later bb)
  replace TB := hide ((unhide TB).later bb)
  replace T1 := hide ((unhide T1).later bb)
  replace X1 := hide ((bb.block _ (heapLt (unhide X1))).trans (unhide X1))
  clear bb p0 p1 p2
  obtain ⟨p0, p1, p2⟩ : _ ∧ _ ∧ _ := ⟨cellOf (unhide X1) 0, cellOf (unhide X1) 1, cellOf (unhide X1) 2⟩
  cases hok : Ix.idxOk a b ms
  · have hem : s.toList.isEmpty = true := by
      rw [← unhide HS, Ix.text_bad hok, ByteArray.toList_eq]
      rfl
    clear hok
    go_wp2_with fail
    refine (indexText_any _ a b _ ms (unhide T1)).mono ?_
    rw [unhide HS]
    rintro e w4 ⟨rfl, bb⟩
    replace BW := hide ((unhide BW).trans (bb.mono (unhide BW).size))
    replace G := hide ((unhide G).later bb)
    replace TB := hide ((unhide TB).later bb)
    replace T1 := hide ((unhide T1).later bb)
    replace X1 := hide ((bb.block _ (heapLt (unhide X1))).trans (unhide X1))
    go_wp2
    go_ret
    exact ⟨rfl, unhide BW⟩
  have hem : s.toList.isEmpty = false := by
    rw [← unhide HS, ByteArray.toList_eq, List.isEmpty_eq_false_iff]
    exact Ix.text_ne hok
  obtain ⟨pre, line, htx, hl0, hl1, hpre, hz0, hz1⟩ := Ix.cut_text hok
  have hsl : s.data.toList = pre ++ line ++ [10] := by rw [← unhide HS]; exact htx
  have hsz : s.size = pre.length + line.length + 1 := by
    have : s.data.toList.length = s.size := Array.length_toList
    rw [hsl] at this
    rw [← this]
    simp
    omega
  have hs120 : s.size ≤ 120 := by
    have : s.data.toList.length = s.size := Array.length_toList
    rw [← this, ← unhide HS]
    exact Ix.text_le120 hok
  obtain ⟨m, hm⟩ : ∃ m : Nat, m = pre.length + line.length := ⟨_, rfl⟩
  rw [← hm] at hsz
  have hsi : (s.size : Int) = (m : Int) + 1 := by omega
  have ew : IntKind.i64.wrap ((m : Int) + 1 - 1) = (m : Int) := by simp [IntKind.wrap, IntKind.bits, IntKind.signed]; omega
  have ew' : IntKind.i64.wrap ((s.size : Int) - 1) = (m : Int) := by simp [IntKind.wrap, IntKind.bits, IntKind.signed]; omega
  have hm0 : (0 : Int) ≤ (m : Int) := by omega
  have hm1 : (m : Int) ≤ (s.size : Int) := by omega
  have hr1 : Ix.rx (s.extract 0 m).data.toList = none := by
    rw [ext_take, hsl, List.take_left' (by rw [List.length_append]; exact hm.symm)]
    exact Ix.rx_noend hl0 hl1
  have HR1 := hide hr1
  have HAT := hide (fun (k : Nat) => Ix.at_one (k := k) hl1 hpre)
  rw [← hsl, ← hm] at HAT
  have HPL : Hid (pre.length ≤ m) := by show _ ≤ _; omega
  have HPX : Hid ((s.extract 0 pre.length).data.toList = pre) := by
    show _ = _
    rw [ext_take, hsl, List.append_assoc, List.take_left]
  have HZ0 := hide hz0
  have HZ1 := hide hz1
  have HSL := hide hsl
  have HM := hide hm
  have HSI := hide hsz
  clear htx hl0 hl1 hpre hz0 hz1 hsl hsz hm hr1 hok p0 p1 p2 hsi ew
  have hsm : s.size = m + 1 := unhide HSI
  clear hsm
  go_wp2_with fail
  refine (implIRead_any _ _ ev (unhide G) (unhide TB)).mono ?_
  intro e w4 h4
  obtain ⟨a1, b1, ms1, c1, ga, gc, hD, hS, hml', hok2, rfl, ho, bb⟩ := rx_outCut h4
  obtain rfl : c1 = false := by rw [← hS, unhide HR1]; rfl
  clear h4 hok2 hD hS
  replace BW := hide ((unhide BW).trans (bb.mono (unhide BW).size))
  replace G := hide ((unhide G).later bb)
  replace TB := hide ((unhide TB).later bb)
  replace T1 := hide ((unhide T1).later bb)
  replace X1 := hide ((bb.block _ (heapLt (unhide X1))).trans (unhide X1))
  clear bb
  have bx := below1 w4 (.cells #[.int .i64 a1, .int .i64 b1, .slice ga ms1.length gc] 25)
  replace BW := hide ((unhide BW).trans (bx.mono (unhide BW).size))
  replace G := hide ((unhide G).later bx)
  replace TB := hide ((unhide TB).later bx)
  replace T1 := hide ((unhide T1).later bx)
  replace X1 := hide ((bx.block _ (heapLt (unhide X1))).trans (unhide X1))
  clear bx ho hml'
  go_wp2_with fail
  generalize hQ : w4.heap.size = Q at *
  generalize w4.alloc _ = W4 at *
  clear hQ
  clear w4
  go_loopw [7] (fun i w' => ∃ k : Nat, k ≤ m ∧ i = .int .i64 k ∧ Below W4.heap.size W4 w' ∧ ∀ j, k ≤ j → j < m → s.data.toList[j]? ≠ some 10) (fun i _ => (intOf i).toNat)
  case atStart => exact ⟨m, Nat.le_refl _, rfl, Below.refl _ _, fun j h1 h2 => by omega⟩
  case round =>
    obtain ⟨k, hk, rfl, hw, hno⟩ := hrel
    have HW := hide hw
    clear hw
    have HNO := hide hno
    clear hno
    have hgo : ∀ (hk' : k = pre.length), Ix.rx (s.extract 0 k).data.toList = Ix.rx pre := fun hk' => by rw [hk', unhide HPX]
    have HGO := hide hgo
    clear hgo
    by_cases hk0 : k = 0
    · have hkp : k = pre.length := unhide HAT _ hk (unhide HNO) (.inl hk0)
      have HKP := hide hkp
      have HK0 := hide hk0
      have hi0 : ¬ (0 : Int) < (k : Int) := by omega
      clear hkp hk0
      replace BW := hide ((unhide BW).trans ((unhide HW).mono (unhide BW).size))
      replace T1 := hide ((unhide T1).later (unhide HW))
      replace X1 := hide (((unhide HW).block _ (heapLt (unhide X1))).trans (unhide X1))
      replace G := hide ((unhide G).later (unhide HW))
      replace TB := hide ((unhide TB).later (unhide HW))
      clear HW
      go_wp2_with fail
      refine (implIRead_any _ _ ev (unhide G) (unhide TB)).mono ?_
      intro e w5 h5
      obtain ⟨a2, b2, ms2, c2, ha, hc, hD, hS, hml2, hok2, rfl, ho, bb⟩ := rx_outCut h5
      rw [unhide HGO (unhide HKP)] at hS
      have hrp : Ix.rxD (s.extract 0 k).data.toList = (Ix.rx pre).getD (0, 0, []) := by unfold Ix.rxD; rw [unhide HGO (unhide HKP)]
      rw [hrp] at hD
      clear h5 hok2 hrp
      replace BW := hide ((unhide BW).trans (bb.mono (unhide BW).size))
      replace T1 := hide ((unhide T1).later bb)
      replace X1 := hide ((bb.block _ (heapLt (unhide X1))).trans (unhide X1))
      clear bb
      have bx := below1 w5 (.cells #[.int .i64 a2, .int .i64 b2, .slice ha ms2.length hc] 25)
      have T2 := hide ((Trs.own ho (by omega)).later bx)
      have X2 := hide (heap_alloc_new w5 (.cells #[.int .i64 a2, .int .i64 b2, .slice ha ms2.length hc] 25))
      replace BW := hide ((unhide BW).trans (bx.mono (unhide BW).size))
      replace T1 := hide ((unhide T1).later bx)
      replace X1 := hide ((bx.block _ (heapLt (unhide X1))).trans (unhide X1))
      have HDS := hide (And.intro hD hS)
      clear bx ho hD hS
      have x2 := cellOf (unhide X1) 2
      rcases Nat.eq_zero_or_pos ms.length with hz | hz
      · have hcf : c2 = false := by
          have := (unhide HDS).2
          rw [unhide HZ0 hz] at this
          exact this.symm
        subst hcf
        have hzi : ((ms.length : Int) == 0) = true := by rw [beq_iff_eq]; omega
        clear hz
        go_wp2
        go_ret
        exact ⟨rfl, unhide BW⟩
      · have hrx := unhide HZ1 hz
        obtain ⟨rfl, rfl, hzs⟩ : a = a2 ∧ b = b2 ∧ ms.take (ms.length - 1) = ms2 := by
          have := (unhide HDS).1
          rw [hrx] at this
          injection this with e1 e2
          injection e2 with e2 e3
          exact ⟨e1, e2, e3⟩
        have hct : c2 = true := by
          have := (unhide HDS).2
          rw [hrx] at this
          exact this.symm
        subst hct
        obtain ⟨n, hn⟩ : ∃ n, ms.length = n + 1 := ⟨ms.length - 1, by omega⟩
        have hlt : ms2.length = n := by rw [← hzs, List.length_take]; omega
        have TZ := hide ((unhide T1).takeC (k := ms.length - 1) (by omega))
        rw [hzs] at TZ
        have HLN := hide (And.intro hlt hn)
        have hzi : ((ms.length : Int) == 0) = false := by rw [beq_eq_false_iff_ne]; omega
        have ewn : IntKind.i64.wrap ((ms.length : Int) - 1) = (n : Int) := by simp [IntKind.wrap, IntKind.bits, IntKind.signed]; omega
        have hn0 : (0 : Int) ≤ (n : Int) := by omega
        have hn1 : (n : Int) ≤ (fc : Int) := by omega
        have hck : ¬ fc = 0 := by omega
        clear hz hrx hzs hn hlt HDS
        obtain ⟨x0, x1⟩ : _ ∧ _ := ⟨cellOf (unhide X1) 0, cellOf (unhide X1) 1⟩
        have bz := below1 (w5.alloc (.cells #[.int .i64 a, .int .i64 b, .slice ha ms2.length hc] 25)) (.cells #[.int .i64 a, .int .i64 b, .slice fa ms.length fc] 25)
        have hZ := heap_alloc_new (w5.alloc (.cells #[.int .i64 a, .int .i64 b, .slice ha ms2.length hc] 25)) (.cells #[.int .i64 a, .int .i64 b, .slice fa ms.length fc] 25)
        have hX1z := (bz.block _ (heapLt (unhide X1))).trans (unhide X1)
        have x2z := cellOf hX1z 2
        rw [sz1] at hZ
        obtain ⟨z0, z1, z2⟩ : _ ∧ _ ∧ _ := ⟨cellOf hZ 0, cellOf hZ 1, cellOf hZ 2⟩
        have f2 := frozenOf hZ 2
        have HZB := hide (And.intro hZ (And.intro hX1z bz))
        have x2y := cellOf ((bz.block _ (heapLt (unhide X2))).trans (unhide X2)) 2
        clear bz hZ hX1z
        go_wp2_with fail
        have bq := below1 (w5.alloc (.cells #[.int .i64 a, .int .i64 b, .slice ha ms2.length hc] 25)) (.cells #[.int .i64 a, .int .i64 b, .slice fa n fc] 25)
        have TY : Trs (w5.alloc (.cells #[.int .i64 a, .int .i64 b, .slice ha ms2.length hc] 25)) (.slice fa n fc) ms2 := Eq.mp (congrArg (fun z : Nat => Trs (w5.alloc (.cells #[.int .i64 a, .int .i64 b, .slice ha ms2.length hc] 25)) (.slice fa z fc) ms2) (unhide HLN).1) (unhide TZ)
        refine (luIndex_same _ a b _ _ ms2 ((unhide T2).later bq) (TY.later bq)).mono ?_
        rintro e w7 ⟨rfl, bb⟩
        replace BW := hide ((unhide BW).trans ((bq.trans (bb.mono bq.size)).mono (unhide BW).size))
        clear bb bq TY
        go_wp2
        go_ret
        exact ⟨rfl, unhide BW⟩
    · obtain ⟨q, rfl⟩ : ∃ q, k = q + 1 := ⟨k - 1, by omega⟩
      have hq : q < s.size := by have := unhide HSI; omega
      have hi0 : (0 : Int) < (q : Int) + 1 := by omega
      have hi1 : (0 : Int) ≤ (q : Int) := by omega
      have hi2 : (q : Int) < (s.size : Int) := by omega
      have ew2 : IntKind.i64.wrap ((q : Int) + 1 - 1) = (q : Int) := by simp [IntKind.wrap, IntKind.bits, IntKind.signed]; omega
      have ew3 : IntKind.i64.wrap (q : Int) = (q : Int) := by simp [IntKind.wrap, IntKind.bits, IntKind.signed]; omega
      have HG : Hid (s.data.toList[q]? = some s[q]) := by
        show _ = _
        rw [List.getElem?_eq_getElem (by rw [Array.length_toList]; exact hq)]
        rfl
      by_cases h10 : s[q] = 10
      · have hkp : q + 1 = pre.length := unhide HAT _ hk (unhide HNO) (.inr (by rw [show q + 1 - 1 = q by omega, unhide HG, h10]))
        have HKP := hide hkp
        have hb : (((s[q].toNat : Nat) : Int) != 10) = false := by rw [h10]; rfl
        clear hkp h10 hk0
        replace BW := hide ((unhide BW).trans ((unhide HW).mono (unhide BW).size))
        replace T1 := hide ((unhide T1).later (unhide HW))
        replace X1 := hide (((unhide HW).block _ (heapLt (unhide X1))).trans (unhide X1))
        replace G := hide ((unhide G).later (unhide HW))
        replace TB := hide ((unhide TB).later (unhide HW))
        clear HW
        go_wp2_with fail
        refine (implIRead_any _ _ ev (unhide G) (unhide TB)).mono ?_
        intro e w5 h5
        obtain ⟨a2, b2, ms2, c2, ha, hc, hD, hS, hml2, hok2, rfl, ho, bb⟩ := rx_outCut h5
        rw [unhide HGO (unhide HKP)] at hS
        have hrp : Ix.rxD (s.extract 0 (q + 1)).data.toList = (Ix.rx pre).getD (0, 0, []) := by unfold Ix.rxD; rw [unhide HGO (unhide HKP)]
        rw [hrp] at hD
        clear h5 hok2 hrp
        replace BW := hide ((unhide BW).trans (bb.mono (unhide BW).size))
        replace T1 := hide ((unhide T1).later bb)
        replace X1 := hide ((bb.block _ (heapLt (unhide X1))).trans (unhide X1))
        clear bb
        have bx := below1 w5 (.cells #[.int .i64 a2, .int .i64 b2, .slice ha ms2.length hc] 25)
        have T2 := hide ((Trs.own ho (by omega)).later bx)
        have X2 := hide (heap_alloc_new w5 (.cells #[.int .i64 a2, .int .i64 b2, .slice ha ms2.length hc] 25))
        replace BW := hide ((unhide BW).trans (bx.mono (unhide BW).size))
        replace T1 := hide ((unhide T1).later bx)
        replace X1 := hide ((bx.block _ (heapLt (unhide X1))).trans (unhide X1))
        have HDS := hide (And.intro hD hS)
        clear bx ho hD hS
        have x2 := cellOf (unhide X1) 2
        rcases Nat.eq_zero_or_pos ms.length with hz | hz
        · have hcf : c2 = false := by
            have := (unhide HDS).2
            rw [unhide HZ0 hz] at this
            exact this.symm
          subst hcf
          have hzi : ((ms.length : Int) == 0) = true := by rw [beq_iff_eq]; omega
          clear hz
          go_wp2
          go_ret
          exact ⟨rfl, unhide BW⟩
        · have hrx := unhide HZ1 hz
          obtain ⟨rfl, rfl, hzs⟩ : a = a2 ∧ b = b2 ∧ ms.take (ms.length - 1) = ms2 := by
            have := (unhide HDS).1
            rw [hrx] at this
            injection this with e1 e2
            injection e2 with e2 e3
            exact ⟨e1, e2, e3⟩
          have hct : c2 = true := by
            have := (unhide HDS).2
            rw [hrx] at this
            exact this.symm
          subst hct
          obtain ⟨n, hn⟩ : ∃ n, ms.length = n + 1 := ⟨ms.length - 1, by omega⟩
          have hlt : ms2.length = n := by rw [← hzs, List.length_take]; omega
          have TZ := hide ((unhide T1).takeC (k := ms.length - 1) (by omega))
          rw [hzs] at TZ
          have HLN := hide (And.intro hlt hn)
          have hzi : ((ms.length : Int) == 0) = false := by rw [beq_eq_false_iff_ne]; omega
          have ewn : IntKind.i64.wrap ((ms.length : Int) - 1) = (n : Int) := by simp [IntKind.wrap, IntKind.bits, IntKind.signed]; omega
          have hn0 : (0 : Int) ≤ (n : Int) := by omega
          have hn1 : (n : Int) ≤ (fc : Int) := by omega
          have hck : ¬ fc = 0 := by omega
          clear hz hrx hzs hn hlt HDS
          obtain ⟨x0, x1⟩ : _ ∧ _ := ⟨cellOf (unhide X1) 0, cellOf (unhide X1) 1⟩
          have bz := below1 (w5.alloc (.cells #[.int .i64 a, .int .i64 b, .slice ha ms2.length hc] 25)) (.cells #[.int .i64 a, .int .i64 b, .slice fa ms.length fc] 25)
          have hZ := heap_alloc_new (w5.alloc (.cells #[.int .i64 a, .int .i64 b, .slice ha ms2.length hc] 25)) (.cells #[.int .i64 a, .int .i64 b, .slice fa ms.length fc] 25)
          have hX1z := (bz.block _ (heapLt (unhide X1))).trans (unhide X1)
          have x2z := cellOf hX1z 2
          rw [sz1] at hZ
          obtain ⟨z0, z1, z2⟩ : _ ∧ _ ∧ _ := ⟨cellOf hZ 0, cellOf hZ 1, cellOf hZ 2⟩
          have f2 := frozenOf hZ 2
          have HZB := hide (And.intro hZ (And.intro hX1z bz))
          have x2y := cellOf ((bz.block _ (heapLt (unhide X2))).trans (unhide X2)) 2
          clear bz hZ hX1z
          go_wp2_with fail
          have bq := below1 (w5.alloc (.cells #[.int .i64 a, .int .i64 b, .slice ha ms2.length hc] 25)) (.cells #[.int .i64 a, .int .i64 b, .slice fa n fc] 25)
          have TY : Trs (w5.alloc (.cells #[.int .i64 a, .int .i64 b, .slice ha ms2.length hc] 25)) (.slice fa n fc) ms2 := Eq.mp (congrArg (fun z : Nat => Trs (w5.alloc (.cells #[.int .i64 a, .int .i64 b, .slice ha ms2.length hc] 25)) (.slice fa z fc) ms2) (unhide HLN).1) (unhide TZ)
          refine (luIndex_same _ a b _ _ ms2 ((unhide T2).later bq) (TY.later bq)).mono ?_
          rintro e w7 ⟨rfl, bb⟩
          replace BW := hide ((unhide BW).trans ((bq.trans (bb.mono bq.size)).mono (unhide BW).size))
          clear bb bq TY
          go_wp2
          go_ret
          exact ⟨rfl, unhide BW⟩
      · have hb : (((s[q].toNat : Nat) : Int) != 10) = true := by
          rw [bne_iff_ne]
          intro e
          exact h10 (UInt8.toNat_inj.1 (by show _ = 10; omega))
        have HH : Hid (s.data.toList[q]? ≠ some 10) := fun e => by
          rw [unhide HG] at e
          injection e with e
          exact h10 e
        clear h10 hk0
        go_wp2
        go_roundw
        case rel => exact ⟨q, by omega, by go_num, unhide HW, fun j h1 h2 => by
          rcases Nat.lt_or_ge q j with h | h
          · exact unhide HNO j (by omega) h2
          · obtain rfl : j = q := by omega
            exact unhide HH⟩
        case measure => simp [intOf]
end Go.Proofs.YtnoghnkhfgiloaaDoor
