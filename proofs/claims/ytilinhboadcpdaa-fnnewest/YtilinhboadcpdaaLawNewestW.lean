/- The walk of FnNewest: it returns true and leaves what was there; for every row of bytes. -/
import Derived.Test.YtilinhboadcpdaaNewestPreW
namespace Go.Proofs.Ytilinhboadcpdaa
open Go.RowKit

attribute [local go_sem ↓] Go.wp_at_zero Go.wp_at_succ

set_option maxHeartbeats 8000000 in
set_option maxRecDepth 100000 in
theorem newest_walk (w : World) (a : Option Addr) (len cap : Nat) (h : Bytes w a len cap) :
    Calls Try.prog 3 #[.slice a len cap] w fun e w' => e = .returned (.bool true) ∧ Below w.heap.size w w' := by
  by_cases hbig : (1048576 : Int) < (len : Int)
  · go_enter Try.func3, Try.ntmps3
    go_wp2
    go_ret
    exact ⟨rfl, Below.refl _ _⟩
  have CD := hide (drawStoreNewest_any w a len cap h)
  clear h
  go_enter Try.func3, Try.ntmps3
  go_wp2_with fail
  refine (unhide CD).mono ?_
  rintro e w1 ⟨v, els, x, rfl, hpo, hms, x1, x2, b1⟩
  obtain ⟨ma, mc, hmv⟩ := own_formS hpo.own
  subst hmv
  have HPO := hide hpo
  have I1 := hide (POwn.pks (N := fun _ => True) (hpo.weak (fun _ _ => trivial)) (fun _ _ => trivial) (by omega))
  have B1 := hide b1
  clear hpo b1 CD
  obtain ⟨l, hl⟩ : ∃ l : List Ix.Pg, l = els.map (·.1) := ⟨_, rfl⟩
  have HL := hide hl
  rw [← hl] at I1
  clear hl
  obtain ⟨hln1, hln2⟩ := Ix.newA_lens l x
  go_wp2_with fail
  refine (specStoreNewest_any _ _ l x (unhide I1)).mono ?_
  rintro e w2 ⟨u2, rfl, ⟨fv, dv, rfl, ho2⟩, b2⟩
  obtain ⟨fa, fc, da, dc, h1, h2⟩ := ho2.forms
  subst h1 h2
  have I2 := hide ((unhide I1).later b2)
  have P2 := hide (ho2.prs (by omega) (by omega))
  have BB2 := hide b2
  clear ho2 b2
  have HLAW := hide (fun hk => Ix.newest_law (l := l) (x := x) hk)
  have CN := hide (fun (W : World) hW => implStoreNewest_any (N := fun _ => True) W (.slice ma els.length mc) l x hW (by omega) (by omega))
  have HAN : ∃ an, an = Ix.newA l x := ⟨_, rfl⟩
  obtain ⟨an, han⟩ := HAN
  have HANQ := hide han
  rw [← han] at P2 HLAW CN hln1 hln2 ⊢
  clear han
  obtain ⟨⟨nm, vr, fs, ds⟩, bo⟩ := an
  dsimp only at P2 HLAW hln1 hln2 ⊢
  have b3 := below1 w2 (.cells #[.int .i64 nm, .int .i64 vr, .slice fa fs.length fc, .slice da ds.length dc] 29)
  have HX3 := hide (heap_alloc_new w2 (.cells #[.int .i64 nm, .int .i64 vr, .slice fa fs.length fc, .slice da ds.length dc] 29))
  have I3 := hide ((unhide I2).later b3)
  have P3 := hide (And.intro ((unhide P2).1.later b3) ((unhide P2).2.later b3))
  have BB3 := hide ((unhide BB2).trans (b3.mono (unhide BB2).size))
  clear b3 I2 P2 BB2
  go_wp2_with fail
  refine (unhide CN _ (unhide I3)).mono ?_
  generalize hX : w2.heap.size = X at *
  clear hX
  generalize w2.alloc _ = W3 at *
  clear w2
  rintro e w4 ⟨u4, rfl, ⟨fv, dv, rfl, ho4⟩, b4⟩
  obtain ⟨ga, gc, ha, hc, h1, h2⟩ := ho4.forms
  dsimp only at h1 h2
  subst h1 h2
  have b5 := below1 w4 (.cells #[.int .i64 nm, .int .i64 vr, .slice ga fs.length gc, .slice ha ds.length hc] 29)
  have b45 := b4.trans (b5.mono b4.size)
  have HX5 := hide ((b45.block _ (heapLt (unhide HX3))).trans (unhide HX3))
  have HY5 := hide (heap_alloc_new w4 (.cells #[.int .i64 nm, .int .i64 vr, .slice ga fs.length gc, .slice ha ds.length hc] 29))
  have I5 := hide ((unhide I3).later b45)
  have P5 := hide (And.intro ((unhide P3).1.later b45) ((unhide P3).2.later b45))
  have hp4 := ho4.prs (by dsimp only; omega) (by dsimp only; omega)
  have Q5 : Hid (Prs (w4.alloc (.cells #[.int .i64 nm, .int .i64 vr, .slice ga fs.length gc, .slice ha ds.length hc] 29)) (.slice ga fs.length gc) fs ∧ Prs (w4.alloc (.cells #[.int .i64 nm, .int .i64 vr, .slice ga fs.length gc, .slice ha ds.length hc] 29)) (.slice ha ds.length hc) ds) := ⟨hp4.1.later b5, hp4.2.later b5⟩
  have BB5 := hide ((unhide BB3).trans (b45.mono (unhide BB3).size))
  have hXY : X < w4.heap.size := by have := heapLt (unhide HX3); have := b4.size; omega
  clear hp4 ho4 b4 b5 b45 HX3 I3 P3 BB3 CN I1
  clear W3
  have hne : (bo != bo) = false := by simp
  have heq : (bo == bo) = true := by simp
  dsimp only
  have x5 : _ ∧ _ ∧ _ ∧ _ := ⟨cellOf (unhide HX5) 0, cellOf (unhide HX5) 1, cellOf (unhide HX5) 2, cellOf (unhide HX5) 3⟩
  obtain ⟨p0, p1, p2, p3⟩ := x5
  have CLU := hide (fun (W : World) h1 h2 h3 h4 => lu_any W nm vr nm vr (.slice ga fs.length gc) (.slice ha ds.length hc) (.slice fa fs.length fc) (.slice da ds.length dc) fs ds fs ds h1 h2 h3 h4)
  rw [show same nm vr nm vr fs ds fs ds = true from same_yes ⟨rfl, rfl, rfl, rfl⟩] at CLU
  go_wp2_with fail
  refine (unhide CLU _ (unhide Q5).1 (unhide Q5).2 (unhide P5).1 (unhide P5).2).mono ?_
  generalize hYe : w4.heap.size = Y at *
  clear hYe
  generalize w4.alloc _ = W5 at *
  clear w4 p0 p1 p2 p3
  rintro e w6 ⟨rfl, b6⟩
  have HX6 := hide ((b6.block _ (heapLt (unhide HX5))).trans (unhide HX5))
  have HY6 := hide ((b6.block _ (heapLt (unhide HY5))).trans (unhide HY5))
  have I6 := hide ((unhide I5).later b6)
  have P6 := hide (And.intro ((unhide P5).1.later b6) ((unhide P5).2.later b6))
  have Q6 := hide (And.intro ((unhide Q5).1.later b6) ((unhide Q5).2.later b6))
  have BB6 := hide ((unhide BB5).trans (b6.mono (unhide BB5).size))
  clear b6 HX5 HY5 I5 P5 Q5 BB5
  clear W5
  obtain ⟨c0, c1, c2, c3⟩ : _ ∧ _ ∧ _ ∧ _ := ⟨cellOf (unhide HX6) 0, cellOf (unhide HX6) 1, cellOf (unhide HX6) 2, cellOf (unhide HX6) 3⟩
  obtain ⟨y0, y1, y2, y3⟩ : _ ∧ _ ∧ _ ∧ _ := ⟨cellOf (unhide HY6) 0, cellOf (unhide HY6) 1, cellOf (unhide HY6) 2, cellOf (unhide HY6) 3⟩
  go_wp2_with fail
  refine (specStoreOk_any _ _ l (unhide I6)).mono ?_
  rintro e w7 ⟨rfl, b7⟩
  have HX7 := hide ((b7.block _ (heapLt (unhide HX6))).trans (unhide HX6))
  have HY7 := hide ((b7.block _ (heapLt (unhide HY6))).trans (unhide HY6))
  have I7 := hide ((unhide I6).later b7)
  have P7 := hide (And.intro ((unhide P6).1.later b7) ((unhide P6).2.later b7))
  have Q7 := hide (And.intro ((unhide Q6).1.later b7) ((unhide Q6).2.later b7))
  have BB7 := hide ((unhide BB6).trans (b7.mono (unhide BB6).size))
  clear b7 HX6 HY6 I6 P6 Q6 BB6 c0 c1 c2 c3 y0 y1 y2 y3
  cases hk : Ix.pkgsOk l
  · obtain ⟨c0, c1, c2, c3⟩ : _ ∧ _ ∧ _ ∧ _ := ⟨cellOf (unhide HX7) 0, cellOf (unhide HX7) 1, cellOf (unhide HX7) 2, cellOf (unhide HX7) 3⟩
    obtain ⟨y0, y1, y2, y3⟩ : _ ∧ _ ∧ _ ∧ _ := ⟨cellOf (unhide HY7) 0, cellOf (unhide HY7) 1, cellOf (unhide HY7) 2, cellOf (unhide HY7) 3⟩
    go_wp2_with fail
    refine (unhide CLU _ (unhide Q7).1 (unhide Q7).2 (unhide P7).1 (unhide P7).2).mono ?_
    rintro e w8 ⟨rfl, b8⟩
    have B8 := hide ((unhide B1).trans (((unhide BB7).trans (b8.mono (unhide BB7).size)).mono (unhide B1).size))
    clear b8
    go_wp2
    go_ret
    exact ⟨rfl, unhide B8⟩
  have HL2 := hide (unhide HLAW hk)
  clear hk HLAW CLU hne heq
  obtain ⟨pa, pc, hmv, hml, hrow⟩ := unhide I7
  injection hmv with hmv1 hmv2 hmv3
  have hll : l.length = els.length := by rw [hmv2]
  subst hmv1 hmv3
  clear hmv2
  have HLL := hide hll
  go_wp2_with fail
  go_loopw [9, 10] (fun y i w' => ∃ k : Nat, k ≤ l.length ∧ i = .int .i64 k ∧ y = .bool (Ix.anyN l x k) ∧ Below w7.heap.size w7 w') (fun _ i _ => l.length - (intOf i).toNat)
  case atStart => exact ⟨0, Nat.zero_le _, rfl, rfl, Below.refl _ _⟩
  case round =>
    obtain ⟨k, hk, rfl, rfl, hw⟩ := hrel
    have HW := hide hw
    clear hw
    by_cases hlt : k < l.length
    · obtain ⟨b, off, hpa, hb, _, hcx⟩ := hrow (by omega)
      subst hpa
      obtain ⟨fv, dv, hAt, _, _⟩ := hcx k hlt
      clear hcx hrow
      obtain ⟨n2, v2, f2, d2, hpk⟩ : ∃ nm vr fs ds, Ix.pg l k = (nm, vr, fs, ds) := ⟨_, _, _, _, rfl⟩
      rw [hpk] at hAt
      have hi0 : (0 : Int) ≤ (k : Int) := Int.natCast_nonneg _
      have hi1 : (k : Int) < (els.length : Int) := by omega
      have kk : ∀ w', Below wr.heap.size wr w' → (w'.cell? ⟨b, off + k * 4, none⟩ = some (.int .i64 n2) ∧ w'.cell? ⟨b, off + k * 4 + 1, none⟩ = some (.int .i64 v2)) ∧ w'.cell? ⟨Y, 1, none⟩ = some (.int .i64 vr) := fun w' hw' => by
        have hB := (unhide HW).trans (hw'.mono (unhide HW).size)
        have hx := (hB.block _ (heapLt (unhide HY7))).trans (unhide HY7)
        have hat := hAt.keep (hB.block b hb)
        exact ⟨⟨hat.1, hat.2.1⟩, cellOf hx 1⟩
      have HK := hide kk
      have d0 := (kk wr (Below.refl _ _)).1.1
      have es := Ix.anyN_succ l x k
      rw [hpk] at es
      have HES := hide es
      have HT := hide ((unhide HL2).1 k hlt)
      rw [hpk] at HT
      clear kk hAt hpk es
      by_cases hx : n2 = x
      · obtain ⟨hbo, hle⟩ := unhide HT hx
        dsimp only at hbo hle
        subst hbo hx
        have ex : (n2 == n2) = true := by simp
        have hgt : ¬ vr < v2 := by omega
        have hge : decide (vr < v2) = false := by simpa using hgt
        have er : IntKind.i64.wrap ((k : Int) + 1) = (k : Int) + 1 := by simp [IntKind.wrap, IntKind.bits, IntKind.signed]; omega
        have ea : Ix.anyN l n2 (k + 1) = true := by rw [unhide HES, ex, Bool.or_true]
        have HEA := hide ea
        clear ea hle hgt
        cases hA : Ix.anyN l n2 k
        all_goals
          go_wp2_with fail
          refine wq_region (by kernel_rfl) (by kernel_rfl) ?_
          refine wq_move (d := some 69) rfl rfl (by rfl) rfl ?_
          simp only [Act.put, List.setIfInBounds_toArray, List.set_cons_zero, List.set_cons_succ, List.getElem_toArray, List.getElem_cons_zero, List.getElem_cons_succ]
          refine wq_move (d := some 70) rfl rfl (by rfl) rfl ?_
          simp only [Act.put, List.setIfInBounds_toArray, List.set_cons_zero, List.set_cons_succ, List.getElem_toArray, List.getElem_cons_zero, List.getElem_cons_succ]
          refine wq_take (d := some 71) rfl (by rfl) (v := ?_) ?_ ?_
          rotate_left
          · (intro w hCw; have hKw := (unhide HK) w hCw; go_simp <;> with_reducible rfl)
          simp only [Act.put, List.setIfInBounds_toArray, List.set_cons_zero, List.set_cons_succ]
          refine wq_take (d := some 72) rfl (by rfl) (v := ?_) ?_ ?_
          rotate_left
          · (intro w hCw; have hKw := (unhide HK) w hCw; go_simp <;> with_reducible rfl)
          simp only [Act.put, List.setIfInBounds_toArray, List.set_cons_zero, List.set_cons_succ]
          refine wq_take (d := some 73) rfl (by rfl) (v := ?_) ?_ ?_
          rotate_left
          · (intro w hCw; have hKw := (unhide HK) w hCw; go_simp <;> with_reducible rfl)
          simp only [Act.put, List.setIfInBounds_toArray, List.set_cons_zero, List.set_cons_succ]
          refine wq_move (d := some 74) rfl rfl (by rfl) rfl ?_
          simp only [Act.put, List.setIfInBounds_toArray, List.set_cons_zero, List.set_cons_succ, List.getElem_toArray, List.getElem_cons_zero, List.getElem_cons_succ]
          refine wq_take (d := some 75) rfl (by rfl) (v := ?_) ?_ ?_
          rotate_left
          · (intro w hCw; have hKw := (unhide HK) w hCw; go_simp <;> with_reducible rfl)
          simp only [Act.put, List.setIfInBounds_toArray, List.set_cons_zero, List.set_cons_succ]
          refine wq_move (d := some 76) rfl rfl (by rfl) rfl ?_
          simp only [Act.put, List.setIfInBounds_toArray, List.set_cons_zero, List.set_cons_succ, List.getElem_toArray, List.getElem_cons_zero, List.getElem_cons_succ]
          refine wq_move (d := some 77) rfl rfl (by rfl) rfl ?_
          simp only [Act.put, List.setIfInBounds_toArray, List.set_cons_zero, List.set_cons_succ, List.getElem_toArray, List.getElem_cons_zero, List.getElem_cons_succ]
          refine wq_take (d := some 78) rfl (by rfl) (v := ?_) ?_ ?_
          rotate_left
          · (intro w hCw; have hKw := (unhide HK) w hCw; go_simp <;> with_reducible rfl)
          simp only [Act.put, List.setIfInBounds_toArray, List.set_cons_zero, List.set_cons_succ]
          refine wq_move (d := some 79) rfl rfl (by rfl) rfl ?_
          simp only [Act.put, List.setIfInBounds_toArray, List.set_cons_zero, List.set_cons_succ, List.getElem_toArray, List.getElem_cons_zero, List.getElem_cons_succ]
          refine wq_move (d := some 80) rfl rfl (by rfl) rfl ?_
          simp only [Act.put, List.setIfInBounds_toArray, List.set_cons_zero, List.set_cons_succ, List.getElem_toArray, List.getElem_cons_zero, List.getElem_cons_succ]
          refine wq_move (d := some 81) rfl rfl (by rfl) rfl ?_
          simp only [Act.put, List.setIfInBounds_toArray, List.set_cons_zero, List.set_cons_succ, List.getElem_toArray, List.getElem_cons_zero, List.getElem_cons_succ]
          refine wq_take (d := some 82) rfl (by rfl) (v := ?_) ?_ ?_
          rotate_left
          · (intro w hCw; have hKw := (unhide HK) w hCw; go_simp <;> with_reducible rfl)
          simp only [Act.put, List.setIfInBounds_toArray, List.set_cons_zero, List.set_cons_succ]
          refine wq_take (d := some 83) rfl (by rfl) (v := ?_) ?_ ?_
          rotate_left
          · (intro w hCw; have hKw := (unhide HK) w hCw; go_simp <;> with_reducible rfl)
          simp only [Act.put, List.setIfInBounds_toArray, List.set_cons_zero, List.set_cons_succ]
          refine wq_take (d := some 84) rfl (by rfl) (v := ?_) ?_ ?_
          rotate_left
          · (intro w hCw; have hKw := (unhide HK) w hCw; go_simp <;> with_reducible rfl)
          simp only [Act.put, List.setIfInBounds_toArray, List.set_cons_zero, List.set_cons_succ]
          refine wq_take (d := some 85) rfl (by rfl) (v := ?_) ?_ ?_
          rotate_left
          · (intro w hCw; have hKw := (unhide HK) w hCw; go_simp <;> with_reducible rfl)
          simp only [Act.put, List.setIfInBounds_toArray, List.set_cons_zero, List.set_cons_succ]
          refine wq_take (d := some 86) rfl (by rfl) (v := ?_) ?_ ?_
          rotate_left
          · (intro w hCw; have hKw := (unhide HK) w hCw; go_simp <;> with_reducible rfl)
          simp only [Act.put, List.setIfInBounds_toArray, List.set_cons_zero, List.set_cons_succ]
          refine wq_take (d := some 87) rfl (by rfl) (v := ?_) ?_ ?_
          rotate_left
          · (intro w hCw; have hKw := (unhide HK) w hCw; go_simp <;> with_reducible rfl)
          simp only [Act.put, List.setIfInBounds_toArray, List.set_cons_zero, List.set_cons_succ]
          refine wq_take (d := some 88) rfl (by rfl) (v := ?_) ?_ ?_
          rotate_left
          · (intro w hCw; have hKw := (unhide HK) w hCw; go_simp <;> with_reducible rfl)
          simp only [Act.put, List.setIfInBounds_toArray, List.set_cons_zero, List.set_cons_succ]
          refine wq_take (d := some 89) rfl (by rfl) (v := ?_) ?_ ?_
          rotate_left
          · (intro w hCw; have hKw := (unhide HK) w hCw; go_simp <;> with_reducible rfl)
          simp only [Act.put, List.setIfInBounds_toArray, List.set_cons_zero, List.set_cons_succ]
          refine wq_nil ?_
          intro w9 hw9
          go_wp2
          go_roundw
          case rel => exact ⟨k + 1, by omega, by go_num, by rw [unhide HEA], (unhide HW).trans (hw9.mono (unhide HW).size)⟩
          case measure => simp [intOf]; omega
      · have ex : (n2 == x) = false := by simpa using hx
        have er : IntKind.i64.wrap ((k : Int) + 1) = (k : Int) + 1 := by simp [IntKind.wrap, IntKind.bits, IntKind.signed]; omega
        have ea : Ix.anyN l x (k + 1) = Ix.anyN l x k := by rw [unhide HES, ex, Bool.or_false]
        have HEA := hide ea
        clear ea
        cases hA : Ix.anyN l x k
        all_goals
          rw [hA] at HEA
          go_wp2_with fail
          refine wq_region (by kernel_rfl) (by kernel_rfl) ?_
          refine wq_move (d := some 69) rfl rfl (by rfl) rfl ?_
          simp only [Act.put, List.setIfInBounds_toArray, List.set_cons_zero, List.set_cons_succ, List.getElem_toArray, List.getElem_cons_zero, List.getElem_cons_succ]
          refine wq_move (d := some 70) rfl rfl (by rfl) rfl ?_
          simp only [Act.put, List.setIfInBounds_toArray, List.set_cons_zero, List.set_cons_succ, List.getElem_toArray, List.getElem_cons_zero, List.getElem_cons_succ]
          refine wq_take (d := some 71) rfl (by rfl) (v := ?_) ?_ ?_
          rotate_left
          · (intro w hCw; have hKw := (unhide HK) w hCw; go_simp <;> with_reducible rfl)
          simp only [Act.put, List.setIfInBounds_toArray, List.set_cons_zero, List.set_cons_succ]
          refine wq_take (d := some 72) rfl (by rfl) (v := ?_) ?_ ?_
          rotate_left
          · (intro w hCw; have hKw := (unhide HK) w hCw; go_simp <;> with_reducible rfl)
          simp only [Act.put, List.setIfInBounds_toArray, List.set_cons_zero, List.set_cons_succ]
          refine wq_take (d := some 73) rfl (by rfl) (v := ?_) ?_ ?_
          rotate_left
          · (intro w hCw; have hKw := (unhide HK) w hCw; go_simp <;> with_reducible rfl)
          simp only [Act.put, List.setIfInBounds_toArray, List.set_cons_zero, List.set_cons_succ]
          refine wq_move (d := some 74) rfl rfl (by rfl) rfl ?_
          simp only [Act.put, List.setIfInBounds_toArray, List.set_cons_zero, List.set_cons_succ, List.getElem_toArray, List.getElem_cons_zero, List.getElem_cons_succ]
          refine wq_take (d := some 75) rfl (by rfl) (v := ?_) ?_ ?_
          rotate_left
          · (intro w hCw; have hKw := (unhide HK) w hCw; go_simp <;> with_reducible rfl)
          simp only [Act.put, List.setIfInBounds_toArray, List.set_cons_zero, List.set_cons_succ]
          refine wq_move (d := some 76) rfl rfl (by rfl) rfl ?_
          simp only [Act.put, List.setIfInBounds_toArray, List.set_cons_zero, List.set_cons_succ, List.getElem_toArray, List.getElem_cons_zero, List.getElem_cons_succ]
          refine wq_skip (d := some 77) rfl (by rfl) ?_
          simp only [Act.put, List.setIfInBounds_toArray, List.set_cons_zero, List.set_cons_succ]
          refine wq_skip (d := some 78) rfl (by rfl) ?_
          simp only [Act.put, List.setIfInBounds_toArray, List.set_cons_zero, List.set_cons_succ]
          refine wq_skip (d := some 79) rfl (by rfl) ?_
          simp only [Act.put, List.setIfInBounds_toArray, List.set_cons_zero, List.set_cons_succ]
          refine wq_skip (d := some 80) rfl (by rfl) ?_
          simp only [Act.put, List.setIfInBounds_toArray, List.set_cons_zero, List.set_cons_succ]
          refine wq_skip (d := some 81) rfl (by rfl) ?_
          simp only [Act.put, List.setIfInBounds_toArray, List.set_cons_zero, List.set_cons_succ]
          refine wq_skip (d := some 82) rfl (by rfl) ?_
          simp only [Act.put, List.setIfInBounds_toArray, List.set_cons_zero, List.set_cons_succ]
          refine wq_skip (d := some 83) rfl (by rfl) ?_
          simp only [Act.put, List.setIfInBounds_toArray, List.set_cons_zero, List.set_cons_succ]
          refine wq_skip (d := some 84) rfl (by rfl) ?_
          simp only [Act.put, List.setIfInBounds_toArray, List.set_cons_zero, List.set_cons_succ]
          refine wq_skip (d := some 85) rfl (by rfl) ?_
          simp only [Act.put, List.setIfInBounds_toArray, List.set_cons_zero, List.set_cons_succ]
          refine wq_skip (d := some 86) rfl (by rfl) ?_
          simp only [Act.put, List.setIfInBounds_toArray, List.set_cons_zero, List.set_cons_succ]
          refine wq_skip (d := some 87) rfl (by rfl) ?_
          simp only [Act.put, List.setIfInBounds_toArray, List.set_cons_zero, List.set_cons_succ]
          refine wq_skip (d := some 88) rfl (by rfl) ?_
          simp only [Act.put, List.setIfInBounds_toArray, List.set_cons_zero, List.set_cons_succ]
          refine wq_take (d := some 89) rfl (by rfl) (v := ?_) ?_ ?_
          rotate_left
          · (intro w hCw; have hKw := (unhide HK) w hCw; go_simp <;> with_reducible rfl)
          simp only [Act.put, List.setIfInBounds_toArray, List.set_cons_zero, List.set_cons_succ]
          refine wq_nil ?_
          intro w9 hw9
          go_wp2
          go_roundw
          case rel => exact ⟨k + 1, by omega, by go_num, by rw [unhide HEA], (unhide HW).trans (hw9.mono (unhide HW).size)⟩
          case measure => simp [intOf]; omega
    · obtain rfl : k = l.length := by omega
      clear hlt hrow
      have hbo := (unhide HL2).2.1
      rw [← hbo]
      have hbe : (bo == bo) = true := by simp
      have BBw := (unhide BB7).trans ((unhide HW).mono (unhide BB7).size)
      have Bw := (unhide B1).trans (BBw.mono (unhide B1).size)
      have HBw := hide Bw
      have HYw := ((unhide HW).block _ (heapLt (unhide HY7))).trans (unhide HY7)
      have Iw := hide ((unhide I7).later (unhide HW))
      have Qw := hide (And.intro ((unhide Q7).1.later (unhide HW)) ((unhide Q7).2.later (unhide HW)))
      obtain ⟨y0, y1, y2, y3⟩ : _ ∧ _ ∧ _ ∧ _ := ⟨cellOf HYw 0, cellOf HYw 1, cellOf HYw 2, cellOf HYw 3⟩
      have HYW := hide HYw
      clear BBw Bw HYw hbo
      cases bo
      · go_wp2
        go_ret
        exact ⟨rfl, unhide HBw⟩
      · obtain ⟨hin, hnx⟩ := (unhide HL2).2.2 rfl
        have CI := hide (luIn_any wr _ l nm vr _ _ fs ds (unhide Iw) (unhide Qw).1 (unhide Qw).2)
        rw [decide_eq_true hin] at CI
        clear hin
        subst hnx
        have enx : (nm == nm) = true := by simp
        go_wp2_with fail
        refine (unhide CI).mono ?_
        rintro e w9 ⟨rfl, b9⟩
        have HY9 := (b9.block _ (heapLt (unhide HYW))).trans (unhide HYW)
        have B9 := hide ((unhide HBw).trans (b9.mono (unhide HBw).size))
        have z0 := cellOf HY9 0
        clear b9 HY9
        go_wp2
        go_ret
        exact ⟨rfl, unhide B9⟩
end Go.Proofs.Ytilinhboadcpdaa
