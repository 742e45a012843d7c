/- The walk of FnSignedCount: it returns true and leaves what was there; for every row of bytes. -/
import Derived.Test.YtneaceieaafjdaaKeysDrawW
import Derived.Test.YtneaceieaafjdaaKeyMath2
namespace Go.Proofs.Ytneaceieaafjdaa
open Go.RowKit

attribute [local go_sem ↓] Go.wp_at_zero Go.wp_at_succ

set_option maxHeartbeats 1000000 in
theorem signedCount_walk (w : World) (a : Option Addr) (len cap : Nat) (h : Bytes w a len cap) :
    Calls Try.prog 7 #[.slice a len cap] w fun e w' => e = .returned (.bool true) ∧ Below w.heap.size w w' := by
  by_cases hs : len ≤ 1048576
  · have hs' : (len : Int) ≤ 1048576 := by omega
    go_enter Try.func7, Try.ntmps7
    go_wp2_with fail
    refine (drawRootSigned_any w a len cap h).mono ?_
    rintro e w1 ⟨n, d, v, vb, k, by', rfl, hl, hlb, ik, ib, b1⟩
    obtain ⟨ak, ck, hv⟩ := ik.slice
    obtain ⟨ab, cb, hvb⟩ := ib.slice
    subst hv hvb
    have X2 := hide (Bx.new (n := n) (d := d) ik 32)
    have b2 := below1 w1 (.cells #[.int .i64 n, .slice ak k.length ck, .int .i64 d] 32)
    have Y2 := hide (ib.later b2)
    have B2 := hide (b1.trans (b2.mono b1.size))
    clear ik ib b1 b2 h
    go_wp2_with fail
    refine (implRootSigned_any _ n d _ _ k by' (unhide X2).ins (unhide Y2)).mono ?_
    generalize w1.alloc _ = W2 at *
    rintro e w3 ⟨rfl, b3⟩
    have X3 := hide ((unhide X2).later b3)
    have Y3 := hide ((unhide Y2).later b3)
    have B3 := hide ((unhide B2).trans (b3.mono (unhide B2).size))
    clear X2 Y2 B2 b3
    clear W2
    generalize w1.heap.size = g at *
    obtain ⟨p0, p1, p2⟩ := (unhide X3).cells
    go_wp2_with fail
    refine (specRootSigned_any _ n d _ _ k by' (unhide X3).ins (unhide Y3)).mono ?_
    rintro e w4 ⟨rfl, b4⟩
    have X4 := hide ((unhide X3).later b4)
    have Y4 := hide ((unhide Y3).later b4)
    have B4 := hide ((unhide B3).trans (b4.mono (unhide B3).size))
    clear X3 Y3 B3 b4 p0 p1 p2
    have hne : (Ky.signed n k d by' != Ky.signed n k d by') = false := by simp
    have HQ := hide (show Ky.signed n k d by' = (Ky.rootOk n k d && Ky.keysOk by' && decide (d ≤ (Ky.cnt k by' : Int))) from rfl)
    obtain ⟨p0, p1, p2⟩ := (unhide X4).cells
    cases hA : Ky.rootOk n k d
    · have hq : Ky.signed n k d by' = false := by rw [unhide HQ, hA]; rfl
      rw [hq]
      clear hne hq
      go_wp2_with fail
      refine wp_region_held_drew (S := (fun w' => w'.cell? ⟨g, 0, none⟩ = some (.int .i64 n) ∧ w'.cell? ⟨g, 1, none⟩ = some (.slice ak k.length ck) ∧ w'.cell? ⟨g, 2, none⟩ = some (.int .i64 d))) (by kernel_rfl) ?_ (fun hHeld => ?_)
      · exact ⟨p0, p1, p2⟩
      refine anyH_at (i := 0) (d := some 22) rfl rfl (by kernel_rfl) (by kernel_rfl) (by kernel_rfl) (fun _ _ _ h => h) (by rfl) (v := ?_) ?_ (by assumption) ?_
      rotate_left
      · (intro w hSw; (try dsimp only at hSw); go_simp <;> with_reducible rfl)
      simp only [Act.put, List.setIfInBounds_toArray, List.set_cons_zero, List.set_cons_succ]
      refine anyH_at (i := 1) (d := some 23) rfl rfl (by kernel_rfl) (by kernel_rfl) (by kernel_rfl) (fun _ _ _ h => h) (by rfl) (v := ?_) ?_ (by assumption) ?_
      rotate_left
      · (intro w hSw; (try dsimp only at hSw); go_simp <;> with_reducible rfl)
      simp only [Act.put, List.setIfInBounds_toArray, List.set_cons_zero, List.set_cons_succ]
      refine wpAnyH_ready (rs := [2]) (by kernel_rfl) (by simp) ?_
      refine AllReadyH.cons rfl (fun K hK => ?_) AllReadyH.nil
      go_simp
      refine (implRootOk_b _ n d _ k hA (by exact (unhide X4).drew.ins)).mono ?_
      rintro e w5 ⟨rfl, b5⟩
      have X5 := hide ((unhide X4).drew.later b5)
      go_wp2_with fail
      refine hK.out _ _ ?_ (fun hHeld => ?_)
      · exact (unhide X5).cells
      clear hK K
      try simp only [Act.put, List.setIfInBounds_toArray, List.set_cons_zero, List.set_cons_succ]
      refine anyH_at (i := 3) (d := some 25) rfl rfl (by kernel_rfl) (by kernel_rfl) (by kernel_rfl) (fun _ _ _ h => h) (by rfl) (v := ?_) ?_ (by assumption) ?_
      rotate_left
      · (intro w hSw; (try dsimp only at hSw); go_simp <;> with_reducible rfl)
      simp only [Act.put, List.setIfInBounds_toArray, List.set_cons_zero, List.set_cons_succ]
      refine anyH_skip (i := 4) rfl (by kernel_rfl) (by kernel_rfl) (by kernel_rfl) (fun _ _ _ h => h) (by rfl) (by rfl) (by assumption) ?_
      refine anyH_skip (i := 5) rfl (by kernel_rfl) (by kernel_rfl) (by kernel_rfl) (fun _ _ _ h => h) (by rfl) (by rfl) (by assumption) ?_
      refine anyH_at (i := 6) (d := some 28) rfl rfl (by kernel_rfl) (by kernel_rfl) (by kernel_rfl) (fun _ _ _ h => h) (by rfl) (v := ?_) ?_ (by assumption) ?_
      rotate_left
      · (intro w hSw; (try dsimp only at hSw); go_simp <;> with_reducible rfl)
      simp only [Act.put, List.setIfInBounds_toArray, List.set_cons_zero, List.set_cons_succ]
      refine anyH_at (i := 7) (d := some 29) rfl rfl (by kernel_rfl) (by kernel_rfl) (by kernel_rfl) (fun _ _ _ h => h) (by rfl) (v := ?_) ?_ (by assumption) ?_
      rotate_left
      · (intro w hSw; (try dsimp only at hSw); go_simp <;> with_reducible rfl)
      simp only [Act.put, List.setIfInBounds_toArray, List.set_cons_zero, List.set_cons_succ]
      refine anyH_skip (i := 8) rfl (by kernel_rfl) (by kernel_rfl) (by kernel_rfl) (fun _ _ _ h => h) (by rfl) (by rfl) (by assumption) ?_
      refine anyH_skip (i := 9) rfl (by kernel_rfl) (by kernel_rfl) (by kernel_rfl) (fun _ _ _ h => h) (by rfl) (by rfl) (by assumption) ?_
      refine anyH_skip (i := 10) rfl (by kernel_rfl) (by kernel_rfl) (by kernel_rfl) (fun _ _ _ h => h) (by rfl) (by rfl) (by assumption) ?_
      refine anyH_skip (i := 11) rfl (by kernel_rfl) (by kernel_rfl) (by kernel_rfl) (fun _ _ _ h => h) (by rfl) (by rfl) (by assumption) ?_
      refine anyH_skip (i := 12) rfl (by kernel_rfl) (by kernel_rfl) (by kernel_rfl) (fun _ _ _ h => h) (by rfl) (by rfl) (by assumption) ?_
      refine anyH_skip (i := 13) rfl (by kernel_rfl) (by kernel_rfl) (by kernel_rfl) (fun _ _ _ h => h) (by rfl) (by rfl) (by assumption) ?_
      refine anyH_skip (i := 14) rfl (by kernel_rfl) (by kernel_rfl) (by kernel_rfl) (fun _ _ _ h => h) (by rfl) (by rfl) (by assumption) ?_
      refine anyH_at (i := 15) (d := some 37) rfl rfl (by kernel_rfl) (by kernel_rfl) (by kernel_rfl) (fun _ _ _ h => h) (by rfl) (v := ?_) ?_ (by assumption) ?_
      rotate_left
      · (intro w hSw; (try dsimp only at hSw); go_simp <;> with_reducible rfl)
      simp only [Act.put, List.setIfInBounds_toArray, List.set_cons_zero, List.set_cons_succ]
      refine anyH_at (i := 16) (d := some 38) rfl rfl (by kernel_rfl) (by kernel_rfl) (by kernel_rfl) (fun _ _ _ h => h) (by rfl) (v := ?_) ?_ (by assumption) ?_
      rotate_left
      · (intro w hSw; (try dsimp only at hSw); go_simp <;> with_reducible rfl)
      simp only [Act.put, List.setIfInBounds_toArray, List.set_cons_zero, List.set_cons_succ]
      refine anyH_at (i := 17) (d := some 2) rfl rfl (by kernel_rfl) (by kernel_rfl) (by kernel_rfl) (fun _ _ _ h => h) (by rfl) (v := ?_) ?_ (by assumption) ?_
      rotate_left
      · (intro w hSw; (try dsimp only at hSw); go_simp <;> with_reducible rfl)
      simp only [Act.put, List.setIfInBounds_toArray, List.set_cons_zero, List.set_cons_succ]
      refine wpAnyH_done (by kernel_rfl) ?_ _
      have B5 := hide ((unhide B4).drew.trans (b5.mono (unhide B4).size))
      clear b5 p0 p1 p2
      go_wp2
      go_ret
      exact ⟨rfl, unhide B5⟩
    cases hB : Ky.keysOk by'
    · have hq : Ky.signed n k d by' = false := by rw [unhide HQ, hB, Bool.and_false]; rfl
      rw [hq]
      clear hne hq
      go_wp2_with fail
      refine wp_region_held_drew (S := (fun w' => w'.cell? ⟨g, 0, none⟩ = some (.int .i64 n) ∧ w'.cell? ⟨g, 1, none⟩ = some (.slice ak k.length ck) ∧ w'.cell? ⟨g, 2, none⟩ = some (.int .i64 d))) (by kernel_rfl) ?_ (fun hHeld => ?_)
      · exact ⟨p0, p1, p2⟩
      refine anyH_at (i := 0) (d := some 22) rfl rfl (by kernel_rfl) (by kernel_rfl) (by kernel_rfl) (fun _ _ _ h => h) (by rfl) (v := ?_) ?_ (by assumption) ?_
      rotate_left
      · (intro w hSw; (try dsimp only at hSw); go_simp <;> with_reducible rfl)
      simp only [Act.put, List.setIfInBounds_toArray, List.set_cons_zero, List.set_cons_succ]
      refine anyH_at (i := 1) (d := some 23) rfl rfl (by kernel_rfl) (by kernel_rfl) (by kernel_rfl) (fun _ _ _ h => h) (by rfl) (v := ?_) ?_ (by assumption) ?_
      rotate_left
      · (intro w hSw; (try dsimp only at hSw); go_simp <;> with_reducible rfl)
      simp only [Act.put, List.setIfInBounds_toArray, List.set_cons_zero, List.set_cons_succ]
      refine wpAnyH_ready (rs := [2]) (by kernel_rfl) (by simp) ?_
      refine AllReadyH.cons rfl (fun K hK => ?_) AllReadyH.nil
      go_simp
      refine (implRootOk_b _ n d _ k hA (by exact (unhide X4).drew.ins)).mono ?_
      rintro e w5 ⟨rfl, b5⟩
      have X5 := hide ((unhide X4).drew.later b5)
      go_wp2_with fail
      refine hK.out _ _ ?_ (fun hHeld => ?_)
      · exact (unhide X5).cells
      clear hK K
      try simp only [Act.put, List.setIfInBounds_toArray, List.set_cons_zero, List.set_cons_succ]
      refine anyH_at (i := 3) (d := some 25) rfl rfl (by kernel_rfl) (by kernel_rfl) (by kernel_rfl) (fun _ _ _ h => h) (by rfl) (v := ?_) ?_ (by assumption) ?_
      rotate_left
      · (intro w hSw; (try dsimp only at hSw); go_simp <;> with_reducible rfl)
      simp only [Act.put, List.setIfInBounds_toArray, List.set_cons_zero, List.set_cons_succ]
      refine anyH_at (i := 4) (d := some 26) rfl rfl (by kernel_rfl) (by kernel_rfl) (by kernel_rfl) (fun _ _ _ h => h) (by rfl) (v := ?_) ?_ (by assumption) ?_
      rotate_left
      · (intro w hSw; (try dsimp only at hSw); go_simp <;> with_reducible rfl)
      simp only [Act.put, List.setIfInBounds_toArray, List.set_cons_zero, List.set_cons_succ]
      refine wpAnyH_ready (rs := [5]) (by kernel_rfl) (by simp) ?_
      refine AllReadyH.cons rfl (fun K hK => ?_) AllReadyH.nil
      go_simp
      refine (implKeysOk_b _ _ by' hB (by exact (unhide Y4).drew.later b5)).mono ?_
      rintro e w6 ⟨rfl, b6⟩
      have X6 := hide ((unhide X5).later b6)
      go_wp2_with fail
      refine hK.out _ _ ?_ (fun hHeld => ?_)
      · exact (unhide X6).cells
      clear hK K
      try simp only [Act.put, List.setIfInBounds_toArray, List.set_cons_zero, List.set_cons_succ]
      refine anyH_at (i := 6) (d := some 28) rfl rfl (by kernel_rfl) (by kernel_rfl) (by kernel_rfl) (fun _ _ _ h => h) (by rfl) (v := ?_) ?_ (by assumption) ?_
      rotate_left
      · (intro w hSw; (try dsimp only at hSw); go_simp <;> with_reducible rfl)
      simp only [Act.put, List.setIfInBounds_toArray, List.set_cons_zero, List.set_cons_succ]
      refine anyH_at (i := 7) (d := some 29) rfl rfl (by kernel_rfl) (by kernel_rfl) (by kernel_rfl) (fun _ _ _ h => h) (by rfl) (v := ?_) ?_ (by assumption) ?_
      rotate_left
      · (intro w hSw; (try dsimp only at hSw); go_simp <;> with_reducible rfl)
      simp only [Act.put, List.setIfInBounds_toArray, List.set_cons_zero, List.set_cons_succ]
      refine anyH_skip (i := 8) rfl (by kernel_rfl) (by kernel_rfl) (by kernel_rfl) (fun _ _ _ h => h) (by rfl) (by rfl) (by assumption) ?_
      refine anyH_skip (i := 9) rfl (by kernel_rfl) (by kernel_rfl) (by kernel_rfl) (fun _ _ _ h => h) (by rfl) (by rfl) (by assumption) ?_
      refine anyH_skip (i := 10) rfl (by kernel_rfl) (by kernel_rfl) (by kernel_rfl) (fun _ _ _ h => h) (by rfl) (by rfl) (by assumption) ?_
      refine anyH_skip (i := 11) rfl (by kernel_rfl) (by kernel_rfl) (by kernel_rfl) (fun _ _ _ h => h) (by rfl) (by rfl) (by assumption) ?_
      refine anyH_skip (i := 12) rfl (by kernel_rfl) (by kernel_rfl) (by kernel_rfl) (fun _ _ _ h => h) (by rfl) (by rfl) (by assumption) ?_
      refine anyH_skip (i := 13) rfl (by kernel_rfl) (by kernel_rfl) (by kernel_rfl) (fun _ _ _ h => h) (by rfl) (by rfl) (by assumption) ?_
      refine anyH_skip (i := 14) rfl (by kernel_rfl) (by kernel_rfl) (by kernel_rfl) (fun _ _ _ h => h) (by rfl) (by rfl) (by assumption) ?_
      refine anyH_at (i := 15) (d := some 37) rfl rfl (by kernel_rfl) (by kernel_rfl) (by kernel_rfl) (fun _ _ _ h => h) (by rfl) (v := ?_) ?_ (by assumption) ?_
      rotate_left
      · (intro w hSw; (try dsimp only at hSw); go_simp <;> with_reducible rfl)
      simp only [Act.put, List.setIfInBounds_toArray, List.set_cons_zero, List.set_cons_succ]
      refine anyH_at (i := 16) (d := some 38) rfl rfl (by kernel_rfl) (by kernel_rfl) (by kernel_rfl) (fun _ _ _ h => h) (by rfl) (v := ?_) ?_ (by assumption) ?_
      rotate_left
      · (intro w hSw; (try dsimp only at hSw); go_simp <;> with_reducible rfl)
      simp only [Act.put, List.setIfInBounds_toArray, List.set_cons_zero, List.set_cons_succ]
      refine anyH_at (i := 17) (d := some 2) rfl rfl (by kernel_rfl) (by kernel_rfl) (by kernel_rfl) (fun _ _ _ h => h) (by rfl) (v := ?_) ?_ (by assumption) ?_
      rotate_left
      · (intro w hSw; (try dsimp only at hSw); go_simp <;> with_reducible rfl)
      simp only [Act.put, List.setIfInBounds_toArray, List.set_cons_zero, List.set_cons_succ]
      refine wpAnyH_done (by kernel_rfl) ?_ _
      have B5 := hide ((unhide B4).drew.trans (b5.mono (unhide B4).size))
      have B6 := hide ((unhide B5).trans (b6.mono (unhide B5).size))
      clear b5 b6 p0 p1 p2
      go_wp2
      go_ret
      exact ⟨rfl, unhide B6⟩
    · have hK := Ky.kboth_ok (rootOk_keys hA) hB
      have hq : Ky.signed n k d by' = decide (d ≤ (Ky.cnt k by' : Int)) := by rw [unhide HQ, hA, hB]; rfl
      have heq : (decide (d ≤ (Ky.cnt k by' : Int)) == decide (d ≤ (Ky.cnt k by' : Int))) = true := by simp
      have HK := hide hK
      rw [hq]
      rw [hq] at hne
      clear hq hK
      generalize Ky.cnt k by' = N at *
      generalize hZ : decide (d ≤ (N : Int)) = z at *
      go_wp2_with fail
      go_region_held3 (fun w' => w'.cell? ⟨g, 0, none⟩ = some (.int .i64 n) ∧ w'.cell? ⟨g, 1, none⟩ = some (.slice ak k.length ck) ∧ w'.cell? ⟨g, 2, none⟩ = some (.int .i64 d))
        (first
          | (go_keep; done)
          | exact (unhide X7).cells
          | exact (unhide X6).cells
          | exact (unhide X5).cells
          | fail)
        (first
          | (go_at_call 25; refine (implRootOk_b _ n d _ k hA (by exact (unhide X4).drew.ins)).mono ?_; rintro e w5 ⟨rfl, b5⟩; have X5 := hide ((unhide X4).drew.later b5))
          | (go_at_call 23; refine (implKeysOk_b _ _ by' hB (by exact (unhide Y4).drew.later b5)).mono ?_; rintro e w6 ⟨rfl, b6⟩; have X6 := hide ((unhide X5).later b6))
          | (go_at_call 19; refine (implKeysBoth_b _ _ _ k by' (unhide HK) (by exact (unhide X6).ins) (by exact ((unhide Y4).drew.later b5).later b6)).mono ?_; rintro e w7 ⟨rfl, b7⟩; have X7 := hide ((unhide X6).later b7)))
      have B5 := hide ((unhide B4).drew.trans (b5.mono (unhide B4).size))
      have B6 := hide ((unhide B5).trans (b6.mono (unhide B5).size))
      have B7 := hide ((unhide B6).trans (b7.mono (unhide B6).size))
      clear b5 b6 b7 p0 p1 p2
      go_wp2
      go_ret
      exact ⟨ret_bool (by simp), unhide B7⟩
  · have hs' : (1048576 : Int) < (len : Int) := by omega
    go_enter Try.func7, Try.ntmps7
    go_wp2
    go_ret
    exact ⟨rfl, Below.refl _ _⟩
end Go.Proofs.Ytneaceieaafjdaa
