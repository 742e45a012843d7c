/- What laws.luInts, luRoot, luMetas, luIndex and luTrust return of the same data: true. -/
import Derived.Test.YtkgeekjclcpbpaaTrustOkW
import Derived.Test.YtkgeekjclcpbpaaMathW
import Derived.Test.YtkgeekjclcpbpaaQuiW
namespace Go.Proofs.Ytkgeekjclcpbpaa
open Go.RowKit

set_option maxHeartbeats 2000000 in
set_option maxRecDepth 100000 in
theorem luInts_same (w : World) (va vb : Value) (l : List Int) (ha : Ins w va l) (hb : Ins w vb l) :
    Calls Try.prog 61 #[va, vb] w fun e w' => e = .returned (.bool true) ∧ Below w.heap.size w w' := by
  obtain ⟨a, ca, rfl, hla, hra⟩ := ha
  obtain ⟨b, cb, rfl, _, hrb⟩ := hb
  have HA := hide hra
  have HB := hide hrb
  clear hra hrb
  have hne : ((l.length : Int) != (l.length : Int)) = false := by simp
  go_enter Try.func61, Try.ntmps61
  go_wp2
  go_loopw [5] (fun i w' => ∃ k : Nat, k ≤ l.length ∧ i = .int .i64 k ∧ Below w.heap.size w w') (fun i _ => l.length - (intOf i).toNat)
  case atStart => exact ⟨0, Nat.zero_le _, rfl, Below.refl _ _⟩
  case round =>
    obtain ⟨k, hk, rfl, hw⟩ := hrel
    have HW := hide hw
    clear hw
    by_cases hlt : k < l.length
    · obtain ⟨x, ox, rfl, hx, cx⟩ := unhide HA (by omega)
      obtain ⟨y, oy, rfl, hy, cy⟩ := unhide HB (by omega)
      have hi0 : (0 : Int) ≤ (k : Int) := Int.natCast_nonneg _
      have hi1 : (k : Int) < (l.length : Int) := by omega
      have kk : ∀ w', Below wr.heap.size wr w' → w'.cell? ⟨x, ox + k, none⟩ = some (.int .i64 (Ky.nth l k)) ∧ w'.cell? ⟨y, oy + k, none⟩ = some (.int .i64 (Ky.nth l k)) := fun w' hw' => by
        have hb2 := (unhide HW).trans (hw'.mono (unhide HW).size)
        rw [hb2.cell hx, hb2.cell hy]
        exact ⟨cx k hlt, cy k hlt⟩
      have KK := hide kk
      clear kk cx cy
      generalize Ky.nth l k = z at *
      go_wp2_with fail
      refine wq_region (by kernel_rfl) (by kernel_rfl) ?_
      refine wq_move (d := some 17) rfl rfl (by rfl) rfl ?_
      simp only [Act.put, List.setIfInBounds_toArray, List.set_cons_zero, List.set_cons_succ, List.getElem_toArray, List.getElem_cons_zero]
      refine wq_move (d := some 18) rfl rfl (by rfl) rfl ?_
      simp only [Act.put, List.setIfInBounds_toArray, List.set_cons_zero, List.set_cons_succ, List.getElem_toArray, List.getElem_cons_zero, List.getElem_cons_succ]
      refine wq_take (d := some 19) rfl (by rfl) (v := ?_) ?_ ?_
      rotate_left
      · (intro w hCw; have hKw := (unhide KK) w hCw; go_simp <;> with_reducible rfl)
      simp only [Act.put, List.setIfInBounds_toArray, List.set_cons_zero, List.set_cons_succ]
      refine wq_take (d := some 20) rfl (by rfl) (v := ?_) ?_ ?_
      rotate_left
      · (intro w hCw; have hKw := (unhide KK) w hCw; go_simp <;> with_reducible rfl)
      simp only [Act.put, List.setIfInBounds_toArray, List.set_cons_zero, List.set_cons_succ]
      refine wq_move (d := some 21) rfl rfl (by rfl) rfl ?_
      simp only [Act.put, List.setIfInBounds_toArray, List.set_cons_zero, List.set_cons_succ, List.getElem_toArray, List.getElem_cons_zero, List.getElem_cons_succ]
      refine wq_move (d := some 22) rfl rfl (by rfl) rfl ?_
      simp only [Act.put, List.setIfInBounds_toArray, List.set_cons_zero, List.set_cons_succ, List.getElem_toArray, List.getElem_cons_zero, List.getElem_cons_succ]
      refine wq_take (d := some 23) rfl (by rfl) (v := ?_) ?_ ?_
      rotate_left
      · (intro w hCw; have hKw := (unhide KK) w hCw; go_simp <;> with_reducible rfl)
      simp only [Act.put, List.setIfInBounds_toArray, List.set_cons_zero, List.set_cons_succ]
      refine wq_take (d := some 24) rfl (by rfl) (v := ?_) ?_ ?_
      rotate_left
      · (intro w hCw; have hKw := (unhide KK) w hCw; go_simp <;> with_reducible rfl)
      simp only [Act.put, List.setIfInBounds_toArray, List.set_cons_zero, List.set_cons_succ]
      refine wq_take (d := some 25) rfl (by rfl) (v := (.bool false)) ?_ ?_
      · (intro w hCw; go_simp <;> omega)
      simp only [Act.put, List.setIfInBounds_toArray, List.set_cons_zero, List.set_cons_succ]
      refine wq_nil ?_
      intro w9 hw9
      go_wp2
      go_roundw
      case rel => exact ⟨k + 1, by omega, by go_num, (unhide HW).trans (hw9.mono (unhide HW).size)⟩
      case measure => simp [intOf]; omega
    · go_wp2
      go_ret
      exact ⟨rfl, unhide HW⟩

set_option maxHeartbeats 2000000 in
set_option maxRecDepth 100000 in
theorem luMetas_same (w : World) (va vb : Value) (l : List Ix.M) (ha : Trs w va l) (hb : Trs w vb l) :
    Calls Try.prog 60 #[va, vb] w fun e w' => e = .returned (.bool true) ∧ Below w.heap.size w w' := by
  obtain ⟨a, ca, rfl, hla, hra⟩ := ha
  obtain ⟨b, cb, rfl, _, hrb⟩ := hb
  have HA := hide hra
  have HB := hide hrb
  clear hra hrb
  have hne : ((l.length : Int) != (l.length : Int)) = false := by simp
  go_enter Try.func60, Try.ntmps60
  go_wp2
  go_loopw [5] (fun i w' => ∃ k : Nat, k ≤ l.length ∧ i = .int .i64 k ∧ Below w.heap.size w w') (fun i _ => l.length - (intOf i).toNat)
  case atStart => exact ⟨0, Nat.zero_le _, rfl, Below.refl _ _⟩
  case round =>
    obtain ⟨k, hk, rfl, hw⟩ := hrel
    have HW := hide hw
    clear hw
    by_cases hlt : k < l.length
    · obtain ⟨x, ox, rfl, hx, cx⟩ := unhide HA (by omega)
      obtain ⟨y, oy, rfl, hy, cy⟩ := unhide HB (by omega)
      have hi0 : (0 : Int) ≤ (k : Int) := Int.natCast_nonneg _
      have hi1 : (k : Int) < (l.length : Int) := by omega
      have kk : ∀ w', Below wr.heap.size wr w' → (w'.cell? ⟨x, ox + k * 3, none⟩ = some (.int .i64 (Ix.nm l k)) ∧ w'.cell? ⟨x, ox + k * 3 + 1, none⟩ = some (.int .i64 (Ix.vr l k)) ∧ w'.cell? ⟨x, ox + k * 3 + 2, none⟩ = some (.int .i64 (Ix.sm l k))) ∧ (w'.cell? ⟨y, oy + k * 3, none⟩ = some (.int .i64 (Ix.nm l k)) ∧ w'.cell? ⟨y, oy + k * 3 + 1, none⟩ = some (.int .i64 (Ix.vr l k)) ∧ w'.cell? ⟨y, oy + k * 3 + 2, none⟩ = some (.int .i64 (Ix.sm l k))) := fun w' hw' => by
        have hb2 := (unhide HW).trans (hw'.mono (unhide HW).size)
        rw [hb2.cell hx, hb2.cell hx, hb2.cell hx, hb2.cell hy, hb2.cell hy, hb2.cell hy]
        exact ⟨cx k hlt, cy k hlt⟩
      have KK := hide kk
      clear kk cx cy
      generalize Ix.nm l k = z1 at *
      generalize Ix.vr l k = z2 at *
      generalize Ix.sm l k = z3 at *
      go_wp2_with fail
      refine wq_region (by kernel_rfl) (by kernel_rfl) ?_
      refine wq_move (d := some 17) rfl rfl (by rfl) rfl ?_
      simp only [Act.put, List.setIfInBounds_toArray, List.set_cons_zero, List.set_cons_succ, List.getElem_toArray, List.getElem_cons_zero]
      refine wq_move (d := some 18) rfl rfl (by rfl) rfl ?_
      simp only [Act.put, List.setIfInBounds_toArray, List.set_cons_zero, List.set_cons_succ, List.getElem_toArray, List.getElem_cons_zero, List.getElem_cons_succ]
      refine wq_take (d := some 19) rfl (by rfl) (v := ?_) ?_ ?_
      rotate_left
      · (intro w hCw; have hKw := (unhide KK) w hCw; go_simp <;> with_reducible rfl)
      simp only [Act.put, List.setIfInBounds_toArray, List.set_cons_zero, List.set_cons_succ]
      refine wq_take (d := some 20) rfl (by rfl) (v := ?_) ?_ ?_
      rotate_left
      · (intro w hCw; have hKw := (unhide KK) w hCw; go_simp <;> with_reducible rfl)
      simp only [Act.put, List.setIfInBounds_toArray, List.set_cons_zero, List.set_cons_succ]
      refine wq_move (d := some 21) rfl rfl (by rfl) rfl ?_
      simp only [Act.put, List.setIfInBounds_toArray, List.set_cons_zero, List.set_cons_succ, List.getElem_toArray, List.getElem_cons_zero, List.getElem_cons_succ]
      refine wq_move (d := some 22) rfl rfl (by rfl) rfl ?_
      simp only [Act.put, List.setIfInBounds_toArray, List.set_cons_zero, List.set_cons_succ, List.getElem_toArray, List.getElem_cons_zero, List.getElem_cons_succ]
      refine wq_take (d := some 23) rfl (by rfl) (v := ?_) ?_ ?_
      rotate_left
      · (intro w hCw; have hKw := (unhide KK) w hCw; go_simp <;> with_reducible rfl)
      simp only [Act.put, List.setIfInBounds_toArray, List.set_cons_zero, List.set_cons_succ]
      refine wq_take (d := some 24) rfl (by rfl) (v := ?_) ?_ ?_
      rotate_left
      · (intro w hCw; have hKw := (unhide KK) w hCw; go_simp <;> with_reducible rfl)
      simp only [Act.put, List.setIfInBounds_toArray, List.set_cons_zero, List.set_cons_succ]
      refine wq_take (d := some 25) rfl (by rfl) (v := (.bool false)) ?_ ?_
      · (intro w hCw; go_simp <;> omega)
      simp only [Act.put, List.setIfInBounds_toArray, List.set_cons_zero, List.set_cons_succ]
      refine wq_nil ?_
      intro w9 hw9
      go_wp2
      go_roundw
      case rel => exact ⟨k + 1, by omega, by go_num, (unhide HW).trans (hw9.mono (unhide HW).size)⟩
      case measure => simp [intOf]; omega
    · go_wp2
      go_ret
      exact ⟨rfl, unhide HW⟩

set_option maxHeartbeats 2000000 in
set_option maxRecDepth 100000 in
theorem luRoot_same (w : World) (n d : Int) (va vb : Value) (l : List Int) (ha : Ins w va l) (hb : Ins w vb l) :
    Calls Try.prog 17 #[.agg #[.int .i64 n, va, .int .i64 d], .agg #[.int .i64 n, vb, .int .i64 d]] w fun e w' => e = .returned (.bool true) ∧ Below w.heap.size w w' := by
  obtain ⟨a, ca, hva⟩ := ha.slice
  obtain ⟨b, cb, hvb⟩ := hb.slice
  subst hva hvb
  have B1 := below1 w (.cells #[.int .i64 n, .slice a l.length ca, .int .i64 d] 25)
  have B2 := B1.trans ((below1 (w.alloc (.cells #[.int .i64 n, .slice a l.length ca, .int .i64 d] 25)) (.cells #[.int .i64 n, .slice b l.length cb, .int .i64 d] 25)).mono B1.size)
  have I2 := hide (And.intro (ha.later B2) (hb.later B2))
  have HB2 := hide B2
  have h1 : (n == n) = true := by simp
  have h2 : (d == d) = true := by simp
  clear ha hb B1 B2
  go_enter Try.func17, Try.ntmps17
  go_wp2_with fail
  refine (luInts_same _ _ _ l (unhide I2).1 (unhide I2).2).mono ?_
  generalize World.alloc _ _ = W2 at *
  rintro e w3 ⟨rfl, b3⟩
  have B3 := hide ((unhide HB2).trans (b3.mono (unhide HB2).size))
  clear b3 I2 HB2
  go_wp2
  go_ret
  exact ⟨rfl, unhide B3⟩

set_option maxHeartbeats 2000000 in
set_option maxRecDepth 100000 in
theorem luIndex_same (w : World) (n d : Int) (va vb : Value) (l : List Ix.M) (ha : Trs w va l) (hb : Trs w vb l) :
    Calls Try.prog 16 #[.agg #[.int .i64 n, .int .i64 d, va], .agg #[.int .i64 n, .int .i64 d, vb]] w fun e w' => e = .returned (.bool true) ∧ Below w.heap.size w w' := by
  obtain ⟨a, ca, hva⟩ := ha.slice
  obtain ⟨b, cb, hvb⟩ := hb.slice
  subst hva hvb
  have B1 := below1 w (.cells #[.int .i64 n, .int .i64 d, .slice a l.length ca] 28)
  have B2 := B1.trans ((below1 (w.alloc (.cells #[.int .i64 n, .int .i64 d, .slice a l.length ca] 28)) (.cells #[.int .i64 n, .int .i64 d, .slice b l.length cb] 28)).mono B1.size)
  have I2 := hide (And.intro (ha.later B2) (hb.later B2))
  have HB2 := hide B2
  have h1 : (n == n) = true := by simp
  have h2 : (d == d) = true := by simp
  clear ha hb B1 B2
  go_enter Try.func16, Try.ntmps16
  go_wp2_with fail
  refine (luMetas_same _ _ _ l (unhide I2).1 (unhide I2).2).mono ?_
  generalize World.alloc _ _ = W2 at *
  rintro e w3 ⟨rfl, b3⟩
  have B3 := hide ((unhide HB2).trans (b3.mono (unhide HB2).size))
  clear b3 I2 HB2
  go_wp2
  go_ret
  exact ⟨rfl, unhide B3⟩

/-- Trust as a value. -/
abbrev tvT (t : Tr.T) (kv mv : Value) : Value := tv t.n t.d kv t.has t.num t.til mv

set_option maxHeartbeats 2000000 in
set_option maxRecDepth 100000 in
theorem luTrust_same (w : World) (t : Tr.T) (k1 m1 k2 m2 : Value) (hk1 : Ins w k1 t.ks) (hm1 : Trs w m1 t.ms) (hk2 : Ins w k2 t.ks) (hm2 : Trs w m2 t.ms) :
    Calls Try.prog 13 #[tvT t k1 m1, tvT t k2 m2] w fun e w' => e = .returned (.bool true) ∧ Below w.heap.size w w' := by
  obtain ⟨n, ks, d, has, num, til, ms⟩ := t
  dsimp only [tvT, tv] at *
  obtain ⟨a1, c1, e1⟩ := hk1.slice
  obtain ⟨a2, c2, e2⟩ := hm1.slice
  obtain ⟨a3, c3, e3⟩ := hk2.slice
  obtain ⟨a4, c4, e4⟩ := hm2.slice
  subst e1 e2 e3 e4
  have Y1 := Tb.new (n := n) (d := d) (has := has) (num := num) (til := til) hk1 hm1 30
  have B1 := below1 w (.cells #[.int .i64 n, .slice a1 ks.length c1, .int .i64 d, .bool has, .int .i64 num, .int .i64 til, .slice a2 ms.length c2] 30)
  have z1 := sz1' w (.cells #[.int .i64 n, .slice a1 ks.length c1, .int .i64 d, .bool has, .int .i64 num, .int .i64 til, .slice a2 ms.length c2] 30)
  have hk2' := hk2.later B1
  have hm2' := hm2.later B1
  have key : ∀ W1 : World, W1.heap.size = w.heap.size + 1 → Tb W1 w.heap.size n d (.slice a1 ks.length c1) ks has num til (.slice a2 ms.length c2) ms → Below w.heap.size w W1 → Ins W1 (.slice a3 ks.length c3) ks → Trs W1 (.slice a4 ms.length c4) ms →
      Tb (W1.alloc (.cells #[.int .i64 n, .slice a3 ks.length c3, .int .i64 d, .bool has, .int .i64 num, .int .i64 til, .slice a4 ms.length c4] 30)) w.heap.size n d (.slice a1 ks.length c1) ks has num til (.slice a2 ms.length c2) ms ∧ Tb (W1.alloc (.cells #[.int .i64 n, .slice a3 ks.length c3, .int .i64 d, .bool has, .int .i64 num, .int .i64 til, .slice a4 ms.length c4] 30)) (w.heap.size + 1) n d (.slice a3 ks.length c3) ks has num til (.slice a4 ms.length c4) ms ∧ Below w.heap.size w (W1.alloc (.cells #[.int .i64 n, .slice a3 ks.length c3, .int .i64 d, .bool has, .int .i64 num, .int .i64 til, .slice a4 ms.length c4] 30)) := fun W1 z Y B hk hm =>
    ⟨Y.later (below1 _ _), z ▸ Tb.new hk hm _, B.trans ((below1 _ _).mono B.size)⟩
  have H2 := hide (key _ z1 Y1 B1 hk2' hm2')
  clear key Y1 B1 z1 hk2' hm2' hk1 hm1 hk2 hm2
  have hh : (has == has) = true := by simp
  go_enter Try.func13, Try.ntmps13
  go_wp2_with fail
  refine (luRoot_same _ n d _ _ ks (unhide H2).1.ins (unhide H2).2.1.ins).mono ?_
  generalize World.alloc _ _ = W2 at *
  rintro e w3 ⟨rfl, b3⟩
  have X3 := hide ((unhide H2).1.later b3)
  have Y3 := hide ((unhide H2).2.1.later b3)
  have B3 := hide ((unhide H2).2.2.trans (b3.mono (unhide H2).2.2.size))
  clear b3 H2
  obtain ⟨x0, x1, x2, x3, x4, x5, x6⟩ := (unhide X3).cells
  obtain ⟨y0, y1, y2, y3, y4, y5, y6⟩ := (unhide Y3).cells
  go_wp2_with fail
  refine (luIndex_same _ num til _ _ ms (unhide X3).trs (unhide Y3).trs).mono ?_
  rintro e w4 ⟨rfl, b4⟩
  have B4 := hide ((unhide B3).trans (b4.mono (unhide B3).size))
  clear b4 X3 Y3
  go_wp2
  go_ret
  exact ⟨rfl, unhide B4⟩
end Go.Proofs.Ytkgeekjclcpbpaa
