/- What spec's l13Is and l13Pick return; for every row of packages that can be read. -/
import Derived.Test.YtlidgoomlllonaaDoorSNewW
import Derived.Test.YtlidgoomlllonaaDoorForMath
namespace Go.Proofs.YtlidgoomlllonaaDoor
open Go.RowKit

set_option maxHeartbeats 4000000 in
set_option maxRecDepth 100000 in
theorem l13Is_any {N : Nat → Prop} (w : World) (v : Value) (l : List Ix.Pg) (x : Int) (h : Pks N w v l) :
    Calls Tryd.prog 43 #[v, .int .i64 x] w fun e w' => e = .returned (.bool (Ix.isN l x)) ∧ Below w.heap.size w w' := by
  have HP := hide h
  obtain ⟨a, cap, hv⟩ := h.slice
  subst hv
  clear h
  unfold Ix.isN
  have CN := hide (l12Newest_any _ _ l x (unhide HP))
  generalize Ix.orNone (Ix.newest l x) = an at *
  obtain ⟨⟨nm, vr, fs, ds⟩, bo⟩ := an
  dsimp only
  go_enter Tryd.func43, Tryd.ntmps43
  go_wp2_with fail
  refine (unhide CN).mono ?_
  rintro e w1 ⟨u, rfl, ⟨fv, dv, rfl, ho⟩, b1⟩
  obtain ⟨fa, fc, da, dc, h1, h2⟩ := ho.forms
  dsimp only at h1 h2
  subst h1 h2
  dsimp only
  have b2 := below1 w1 (.cells #[.int .i64 nm, .int .i64 vr, .slice fa fs.length fc, .slice da ds.length dc] 30)
  have HB2 := hide (b1.trans (b2.mono b1.size))
  clear ho b1 b2
  go_wp2
  go_ret
  exact ⟨rfl, unhide HB2⟩

set_option maxHeartbeats 4000000 in
set_option maxRecDepth 100000 in
theorem l13Pick_any {N : Nat → Prop} (w : World) (v u : Value) (st ha : List Ix.Pg) (x : Int) (h : Pks N w v st) (h' : Pks N w u ha) :
    Calls Tryd.prog 44 #[v, u, .int .i64 x] w fun e w' => ∃ r, e = .returned r ∧ NewAns w.heap.size w' r (Ix.pick13 st ha x) ∧ Below w.heap.size w w' := by
  have B0 := below1 w (.cells #[.int .i64 0, .int .i64 0, .slice none 0 0, .slice none 0 0] 30)
  have HA0 := hide (And.intro (heap_alloc_new w (.cells #[.int .i64 0, .int .i64 0, .slice none 0 0, .slice none 0 0] 30)) B0)
  have H0 := hide (h.later B0)
  have H0' := hide (h'.later B0)
  obtain ⟨va, vc, hv⟩ := h.slice
  obtain ⟨ua, uc, hu⟩ := h'.slice
  subst hv hu
  clear h h' B0
  have C1 := hide (fun W hW => l12Newest_any (N := N) W (.slice va st.length vc) st x hW)
  have C2 := hide (fun W hW => l12Newest_any (N := N) W (.slice ua ha.length uc) ha x hW)
  have HPD : Ix.pick13 st ha x = (if ((Ix.orNone (Ix.newest st x)).2 && (!(Ix.orNone (Ix.newest ha x)).2 || decide ((Ix.orNone (Ix.newest ha x)).1.2.1 < (Ix.orNone (Ix.newest st x)).1.2.1))) = true then ((Ix.orNone (Ix.newest st x)).1, true) else Ix.orNone (Ix.newest ha x)) := rfl
  generalize Ix.pick13 st ha x = pd at *
  generalize Ix.orNone (Ix.newest st x) = an at *
  generalize Ix.orNone (Ix.newest ha x) = bn at *
  obtain ⟨⟨nm, vr, fs, ds⟩, bo⟩ := an
  obtain ⟨⟨nm', vr', fs', ds'⟩, bo'⟩ := bn
  dsimp only at HPD
  have HPX := hide HPD
  clear HPD
  go_enter Tryd.func44, Tryd.ntmps44
  go_wp2_with fail
  refine (unhide C1 _ (unhide H0)).mono ?_
  generalize World.alloc _ _ = W0 at *
  rintro e w1 ⟨r1, rfl, ⟨fv, dv, rfl, ho⟩, b1⟩
  obtain ⟨fa, fc, da, dc, h1, h2⟩ := ho.forms
  dsimp only at h1 h2
  subst h1 h2
  dsimp only
  have b2 := below1 w1 (.cells #[.int .i64 nm, .int .i64 vr, .slice fa fs.length fc, .slice da ds.length dc] 30)
  have hb12 := b1.trans (b2.mono b1.size)
  have HX2 := hide (heap_alloc_new w1 (.cells #[.int .i64 nm, .int .i64 vr, .slice fa fs.length fc, .slice da ds.length dc] 30))
  have HR2 := hide ((hb12.block _ (heapLt (unhide HA0).1)).trans (unhide HA0).1)
  have HB2 := hide ((unhide HA0).2.trans (hb12.mono (unhide HA0).2.size))
  have HO2 := hide ((ho.later b2).base (unhide HA0).2.size)
  have H2' := hide ((unhide H0').later hb12)
  have hw1 : w.heap.size < w1.heap.size := Nat.lt_of_lt_of_le (heapLt (unhide HA0).1) b1.size
  clear ho b1 b2 hb12 HA0 H0 H0' C1
  clear W0
  go_wp2_with fail
  refine (unhide C2 _ (unhide H2')).mono ?_
  generalize hXe : w1.heap.size = X at *
  clear hXe
  generalize World.alloc _ _ = W2 at *
  clear w1
  rintro e w3 ⟨r3, rfl, ⟨fv', dv', rfl, ho'⟩, b3⟩
  obtain ⟨fa', fc', da', dc', h1, h2⟩ := ho'.forms
  dsimp only at h1 h2
  subst h1 h2
  dsimp only
  have b4 := below1 w3 (.cells #[.int .i64 nm', .int .i64 vr', .slice fa' fs'.length fc', .slice da' ds'.length dc'] 30)
  have hb34 := b3.trans (b4.mono b3.size)
  have hX4 := (hb34.block _ (heapLt (unhide HX2))).trans (unhide HX2)
  have hY4 := heap_alloc_new w3 (.cells #[.int .i64 nm', .int .i64 vr', .slice fa' fs'.length fc', .slice da' ds'.length dc'] 30)
  have hR4 := (hb34.block _ (heapLt (unhide HR2))).trans (unhide HR2)
  have HB4 := hide ((unhide HB2).trans (hb34.mono (unhide HB2).size))
  have HO4 := hide ((unhide HO2).later hb34)
  have HO4' := hide ((ho'.later b4).base (unhide HB2).size)
  have hXY : X < w3.heap.size := Nat.lt_of_lt_of_le (heapLt (unhide HX2)) b3.size
  obtain ⟨x0, x1, x2, x3⟩ : _ ∧ _ ∧ _ ∧ _ := ⟨cellOf hX4 0, cellOf hX4 1, cellOf hX4 2, cellOf hX4 3⟩
  obtain ⟨y0, y1, y2, y3⟩ : _ ∧ _ ∧ _ ∧ _ := ⟨cellOf hY4 0, cellOf hY4 1, cellOf hY4 2, cellOf hY4 3⟩
  obtain ⟨r0, r1, r2, r3⟩ : _ ∧ _ ∧ _ ∧ _ := ⟨cellOf hR4 0, cellOf hR4 1, cellOf hR4 2, cellOf hR4 3⟩
  obtain ⟨s0, s1, s2, s3⟩ : _ ∧ _ ∧ _ ∧ _ := ⟨frozenOf hR4 0, frozenOf hR4 1, frozenOf hR4 2, frozenOf hR4 3⟩
  have HR4 := hide hR4
  have hYw : w.heap.size < w3.heap.size := by omega
  clear ho' b3 b4 hb34 HB2 HO2 HX2 HR2 H2' C2 hX4 hY4 hR4
  generalize hYe : w3.heap.size = Y at *
  clear hYe
  by_cases hc : (bo && (!bo' || decide (vr' < vr))) = true
  · rw [if_pos hc] at HPX
    rw [Bool.and_eq_true] at hc
    obtain ⟨hb1, hb2⟩ := hc
    subst hb1
    cases bo'
    all_goals
      simp only [Bool.not_true, Bool.not_false, Bool.false_or, Bool.true_or, decide_eq_true_eq] at hb2
      go_wp2_with fail
      generalize World.alloc _ _ = W4 at *
      obtain ⟨⟨q0, q1, q2, q3⟩, hans, hbel⟩ := newAns_box (a := ((nm, vr, fs, ds), true)) (unhide HR4) (Nat.le_refl _) (unhide HB4) (unhide HO4) rfl
      dsimp only at q0 q1 q2 q3
      exact bodyPost_ret (v := .tuple #[.agg #[.int .i64 nm, .int .i64 vr, .slice fa fs.length fc, .slice da ds.length dc], .bool true]) (by simp [results, Tryd.results44, go_sem, q0, q1, q2, q3]) rfl ⟨_, rfl, by rw [unhide HPX]; exact hans, hbel⟩
  · rw [if_neg hc] at HPX
    cases bo
    · clear hc
      go_wp2_with fail
      generalize World.alloc _ _ = W4 at *
      obtain ⟨⟨q0, q1, q2, q3⟩, hans, hbel⟩ := newAns_box (a := ((nm', vr', fs', ds'), bo')) (unhide HR4) (Nat.le_refl _) (unhide HB4) (unhide HO4') rfl
      dsimp only at q0 q1 q2 q3
      exact bodyPost_ret (v := .tuple #[.agg #[.int .i64 nm', .int .i64 vr', .slice fa' fs'.length fc', .slice da' ds'.length dc'], .bool bo']) (by simp [results, Tryd.results44, go_sem, q0, q1, q2, q3]) rfl ⟨_, rfl, by rw [unhide HPX]; exact hans, hbel⟩
    · simp only [Bool.true_and, Bool.or_eq_true, Bool.not_eq_true', decide_eq_true_eq, not_or, Bool.not_eq_false] at hc
      obtain ⟨hc1, hc2⟩ := hc
      subst hc1
      go_wp2_with fail
      generalize World.alloc _ _ = W4 at *
      obtain ⟨⟨q0, q1, q2, q3⟩, hans, hbel⟩ := newAns_box (a := ((nm', vr', fs', ds'), true)) (unhide HR4) (Nat.le_refl _) (unhide HB4) (unhide HO4') rfl
      dsimp only at q0 q1 q2 q3
      exact bodyPost_ret (v := .tuple #[.agg #[.int .i64 nm', .int .i64 vr', .slice fa' fs'.length fc', .slice da' ds'.length dc'], .bool true]) (by simp [results, Tryd.results44, go_sem, q0, q1, q2, q3]) rfl ⟨_, rfl, by rw [unhide HPX]; exact hans, hbel⟩
end Go.Proofs.YtlidgoomlllonaaDoor
