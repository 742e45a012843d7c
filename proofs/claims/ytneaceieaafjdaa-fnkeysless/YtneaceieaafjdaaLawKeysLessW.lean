/- The walk of FnKeysLess: it returns true and leaves what was there; for every two rows of bytes. -/
import Derived.Test.YtneaceieaafjdaaKeysDrawW
import Derived.Test.YtneaceieaafjdaaKeyMath2
import Derived.Test.YtneaceieaafjdaaGrowW
import Derived.Test.YtneaceieaafjdaaSkipW
namespace Go.Proofs.Ytneaceieaafjdaa
open Go.RowKit

attribute [local go_sem ↓] Go.wp_at_zero Go.wp_at_succ

theorem Ins.spotL {w : World} {a : Option Addr} {n c : Nat} {k : List Int} (h : Ins w (.slice a n c) k) (hn : 0 < n) : ∃ b off, a = some ⟨b, off, none⟩ ∧ b < w.heap.size ∧ ∀ i, i < n → w.cell? ⟨b, off + i, none⟩ = some (.int .i64 (Ky.nth k i)) := by
  obtain ⟨a', c', hv, hl, hr⟩ := h
  injection hv with e1 e2 e3
  subst e1 e2 e3
  obtain ⟨b, off, ha, hb, hc⟩ := hr hn
  exact ⟨b, off, ha, hb, hc⟩

theorem addI (b off i : Nat) : (⟨b, off, none⟩ : Addr).add i = ⟨b, off + i, none⟩ := by unfold Addr.add; split <;> simp_all
/-- What an append reads of keys: the first ones, the last ones. -/
theorem news_take {w w' : World} {b off n m i : Nat} {k : List Int} (hc : ∀ i, i < n → w.cell? ⟨b, off + i, none⟩ = some (.int .i64 (Ky.nth k i))) (hi : i ≤ n) (hb : Below m w w') (hbm : b < m) : ∀ j u, ((k.take i).map (Value.int .i64))[j]? = some u → w'.cell? ((⟨b, off, none⟩ : Addr).add j) = some u := by
  intro j u hu
  have hj : j < ((k.take i).map (Value.int .i64)).length := (List.getElem?_eq_some_iff.1 hu).1
  rw [List.length_map, List.length_take] at hj
  rw [addI, hb.cell hbm, hc j (by omega), ← hu, List.getElem?_map, List.getElem?_take_of_lt (by omega), List.getElem?_eq_getElem (by omega), Ky.nth_get k j (by omega)]
  rfl
theorem news_drop {w w' : World} {b off m i : Nat} {k : List Int} (hc : ∀ i, i < k.length → w.cell? ⟨b, off + i, none⟩ = some (.int .i64 (Ky.nth k i))) (hb : Below m w w') (hbm : b < m) : ∀ j u, ((k.drop i).map (Value.int .i64))[j]? = some u → w'.cell? ((⟨b, off + i, none⟩ : Addr).add j) = some u := by
  intro j u hu
  have hj : j < ((k.drop i).map (Value.int .i64)).length := (List.getElem?_eq_some_iff.1 hu).1
  rw [List.length_map, List.length_drop] at hj
  rw [addI, hb.cell hbm, Nat.add_assoc, hc (i + j) (by omega), ← hu, List.getElem?_map, List.getElem?_drop, List.getElem?_eq_getElem (by omega), Ky.nth_get k (i + j) (by omega)]
  rfl
theorem less_own {B : Nat} {w : World} {v : Value} {k : List Int} {i : Nat} (h : w.ownsRow B 3 1 v (0 + i) ([] ++ (k.take i).map (Value.int .i64))) (hi : i ≤ k.length) : OwnI B w v (k.take i) := by
  unfold OwnI
  rw [List.length_take, Nat.min_eq_left hi, ← Nat.zero_add i]
  simpa using h
theorem without_own {B : Nat} {w : World} {v : Value} {k : List Int} {i m : Nat} (h : w.ownsRow B 3 1 v ((k.take i).length + m) ((k.take i).map (Value.int .i64) ++ (k.drop (i + 1)).map (Value.int .i64))) (hm : m = (k.drop (i + 1)).length) : OwnI B w v (Ky.without k i) := by
  unfold OwnI Ky.without
  rw [List.length_append, List.map_append, ← hm]
  exact h
theorem news_all {w w' : World} {b off m : Nat} {k : List Int} (hc : ∀ i, i < k.length → w.cell? ⟨b, off + i, none⟩ = some (.int .i64 (Ky.nth k i))) (hb : Below m w w') (hbm : b < m) : ∀ j u, (k.map (Value.int .i64))[j]? = some u → w'.cell? ((⟨b, off, none⟩ : Addr).add j) = some u := by
  have := news_take (i := k.length) hc (Nat.le_refl _) hb hbm
  rwa [List.take_of_length_le (Nat.le_refl _)] at this
theorem all_own' {B : Nat} {w : World} {v : Value} {k : List Int} (h : w.ownsRow B 3 1 v (0 + k.length) ([] ++ k.map (Value.int .i64))) : OwnI B w v k := by
  unfold OwnI
  simpa using h
theorem twice_own {B : Nat} {w : World} {v : Value} {k : List Int} {x : Int} (h : w.ownsRow B 3 1 v (k.length + 1) (k.map (Value.int .i64) ++ [.int .i64 x])) : OwnI B w v (k ++ [x]) := by
  unfold OwnI
  rw [List.length_append, List.map_append]
  exact h
theorem below2 (w : World) (o o2 : Obj) : Below w.heap.size w ((w.alloc o).alloc o2) := ((Below.refl _ _).alloc (Nat.le_refl _) _).alloc (by rw [sz1']; omega) _
theorem own_empty2 (w : World) (o : Obj) : OwnI w.heap.size ((w.alloc o).alloc (.cells #[] 3)) (.slice (some ⟨w.heap.size + 1, 0, none⟩) 0 0) [] := by
  have h := (OwnI.empty (w.alloc o)).mono (B' := w.heap.size) (by rw [sz1']; omega)
  rw [sz1'] at h
  exact h
theorem one_cell {w : World} {g : Nat} {x : Value} {t : TypeId} (h : w.heap[g]? = some (.cells #[x] t (0, 0))) : ∀ j u, [x][j]? = some u → w.cell? ((⟨g, 0, none⟩ : Addr).add j) = some u := by
  intro j u hu
  rw [addI, Nat.zero_add, cellOf h]
  simpa using hu

set_option maxHeartbeats 2000000 in
set_option linter.unusedSimpArgs false in
theorem keysLess_walk (w : World) (a : Option Addr) (len cap : Nat) (a1 : Option Addr) (len1 cap1 : Nat) (h : Bytes w a len cap) (_h1 : Bytes w a1 len1 cap1) :
    Calls Try.prog 4 #[.slice a len cap, .slice a1 len1 cap1] w fun e w' => e = .returned (.bool true) ∧ Below w.heap.size w w' := by
  obtain ⟨i0, hi0, hz0, hz1, hz2⟩ := info_parts infoI
  by_cases hs : len ≤ 1048576
  case neg =>
    have hs' : (1048576 : Int) < (len : Int) := by omega
    go_enter Try.func4, Try.ntmps4
    go_wp2
    go_ret
    exact ⟨rfl, Below.refl _ _⟩
  by_cases ht : len1 ≤ 1048576
  case neg =>
    have hs' : (len : Int) ≤ 1048576 := by omega
    have ht' : (1048576 : Int) < (len1 : Int) := by omega
    go_enter Try.func4, Try.ntmps4
    go_wp2
    go_ret
    exact ⟨rfl, Below.refl _ _⟩
  have hs' : (len : Int) ≤ 1048576 := by omega
  have ht' : (len1 : Int) ≤ 1048576 := by omega
  go_enter Try.func4, Try.ntmps4
  go_wp2_with fail
  refine (drawKeysOk_any w a len cap h).mono ?_
  rintro e w1 ⟨v, k, rfl, hl, hcap, ik, b1⟩
  obtain ⟨ak, ck, hv, hc1, hc2⟩ := hcap
  subst hv
  have I1 := hide ik
  have B1 := hide b1
  clear ik b1 h _h1
  go_wp2_with fail
  refine (implKeysOk_b _ _ k rfl (unhide I1)).mono ?_
  rintro e w3 ⟨rfl, b3⟩
  have I3 := hide ((unhide I1).later b3)
  have B3 := hide ((unhide B1).trans (b3.mono (unhide B1).size))
  clear I1 B1 b3
  go_wp2_with fail
  refine (specKeysOk_b _ _ k rfl (unhide I3)).mono ?_
  rintro e w4 ⟨rfl, b4⟩
  have I4 := hide ((unhide I3).later b4)
  have B4 := hide ((unhide B3).trans (b4.mono (unhide B3).size))
  clear I3 B3 b4
  cases hA : Ky.keysOk k
  · go_wp2_with fail
    refine (specKeysOk_b _ _ k hA (unhide I4)).mono ?_
    rintro e w5 ⟨rfl, b5⟩
    have B5 := hide ((unhide B4).trans (b5.mono (unhide B4).size))
    clear I4 B4 b5
    go_wp2
    go_ret
    exact ⟨rfl, unhide B5⟩
  by_cases hkl : k.length = 0
  · have hkz : ((k.length : Int) == 0) = true := by rw [hkl]; rfl
    have HKL := hide hkl
    clear hkl
    go_wp2_with fail
    refine (specKeysOk_b _ _ k hA (unhide I4)).mono ?_
    rintro e w5 ⟨rfl, b5⟩
    have B5 := hide ((unhide B4).trans (b5.mono (unhide B4).size))
    clear I4 B4 b5
    go_wp2
    go_ret
    exact ⟨rfl, unhide B5⟩
  · obtain ⟨bk, ok, hak, hbk, hcells⟩ := (unhide I4).spotL (by omega)
    subst hak
    have HC := hide hcells
    clear hcells
    obtain ⟨i, hi, hrem⟩ : ∃ i : Nat, i < k.length ∧ (len1 : Int) % (k.length : Int) = (i : Int) := ⟨len1 % k.length, Nat.mod_lt _ (by omega), by simp⟩
    have hkz : ((k.length : Int) == 0) = false := by rw [beq_eq_false_iff_ne]; omega
    have hkz' : ¬ (k.length : Int) = 0 := by omega
    have E1 := hide (Ky.without_ok hA hi)
    have E2 := hide (Ky.twice_bad hA hi)
    have hi0' : (0 : Int) ≤ (i : Int) := by omega
    have hi1 : (i : Int) ≤ (ck : Int) := by omega
    have hi2 : (0 : Int) ≤ (i : Int) + 1 := by omega
    have hi3 : (i : Int) + 1 ≤ (k.length : Int) := by omega
    have hi4 : (i : Int) < (k.length : Int) := by omega
    have hck : ¬ ck = 0 := by omega
    have ew : IntKind.i64.wrap ((i : Int) + 1) = (i : Int) + 1 := by simp [IntKind.wrap, IntKind.bits, IntKind.signed]; omega
    have et : ((i : Int) + 1).toNat = i + 1 := by omega
    have wl := Nat.le_of_eq (Ky.without_len hi)
    have hwl : (Ky.without k i).length ≤ 8 := by omega
    by_cases hce : ck = i + 1
    · have HCE := hide hce
      clear hce
      go_wp2_with fail
      simp only [hrem]
      clear hrem hkz hkz'
      refine wp_region_held_drew (S := fun _ => True) (by kernel_rfl) ?_ (fun hHeld => ?_)
      · exact True.intro
      refine anyH_at (i := 1) (d := some 45) rfl rfl (by kernel_rfl) (by kernel_rfl) (by kernel_rfl) (fun _ _ _ h => h) (by rfl) (v := ?_) ?_ (by assumption) ?_
      rotate_left
      · (intro w hSw; (try dsimp only at hSw); go_simp <;> with_reducible rfl)
      simp only [Act.put, List.setIfInBounds_toArray, List.set_cons_zero, List.set_cons_succ]
      refine anyH_at (i := 2) (d := some 46) rfl rfl (by kernel_rfl) (by kernel_rfl) (by kernel_rfl) (fun _ _ _ h => h) (by rfl) (v := ?_) ?_ (by assumption) ?_
      rotate_left
      · (intro w hSw; (try dsimp only at hSw); go_simp <;> with_reducible rfl)
      simp only [Act.put, List.setIfInBounds_toArray, List.set_cons_zero, List.set_cons_succ]
      refine anyH_at (i := 3) (d := some 47) rfl rfl (by kernel_rfl) (by kernel_rfl) (by kernel_rfl) (fun _ _ _ h => h) (by rfl) (v := ?_) ?_ (by assumption) ?_
      rotate_left
      · (intro w hSw; (try dsimp only at hSw); go_simp <;> with_reducible rfl)
      simp only [Act.put, List.setIfInBounds_toArray, List.set_cons_zero, List.set_cons_succ]
      refine anyH_at (i := 5) (d := some 49) rfl rfl (by kernel_rfl) (by kernel_rfl) (by kernel_rfl) (fun _ _ _ h => h) (by rfl) (v := ?_) ?_ (by assumption) ?_
      rotate_left
      · (intro w hSw; (try dsimp only at hSw); go_simp <;> with_reducible rfl)
      simp only [Act.put, List.setIfInBounds_toArray, List.set_cons_zero, List.set_cons_succ]
      refine anyH_at (i := 6) (d := some 50) rfl rfl (by kernel_rfl) (by kernel_rfl) (by kernel_rfl) (fun _ _ _ h => h) (by rfl) (v := ?_) ?_ (by assumption) ?_
      rotate_left
      · (intro w hSw; (try dsimp only at hSw); go_simp <;> with_reducible rfl)
      simp only [Act.put, List.setIfInBounds_toArray, List.set_cons_zero, List.set_cons_succ]
      refine anyH_at (i := 7) (d := some 51) rfl rfl (by kernel_rfl) (by kernel_rfl) (by kernel_rfl) (fun _ _ _ h => h) (by rfl) (v := ?_) ?_ (by assumption) ?_
      rotate_left
      · (intro w hSw; (try dsimp only at hSw); go_simp <;> with_reducible rfl)
      simp only [Act.put, List.setIfInBounds_toArray, List.set_cons_zero, List.set_cons_succ]
      refine anyH_at (i := 8) (d := some 52) rfl rfl (by kernel_rfl) (by kernel_rfl) (by kernel_rfl) (fun _ _ _ h => h) (by rfl) (v := ?_) ?_ (by assumption) ?_
      rotate_left
      · (intro w hSw; (try dsimp only at hSw); have hce := unhide HCE; go_simp <;> with_reducible rfl)
      simp only [Act.put, List.setIfInBounds_toArray, List.set_cons_zero, List.set_cons_succ]
      refine wpAnyH_ready (rs := [0]) (by kernel_rfl) (by simp) ?_
      refine AllReadyH.cons rfl (fun K hK => ?_) AllReadyH.nil
      go_simp
      refine hK.out _ _ ?_ (fun hHeldN => ?_)
      · exact True.intro
      clear hHeld
      have hHeld := hHeldN
      clear hHeldN
      clear hK K
      try simp only [Act.put, List.setIfInBounds_toArray, List.set_cons_zero, List.set_cons_succ]
      refine wpAnyH_ready (rs := [4]) (by kernel_rfl) (by simp) ?_
      refine AllReadyH.cons rfl (fun K hK => ?_) AllReadyH.nil
      rw [if_pos (by rfl)]
      have b5 := (below1 w4 (.cells #[] 3)).drew
      refine wp_append_own _ _ _ 23 rfl w4.heap.size 3 i0 (.int .i64 0) 1 8 Try.underlying23 hi0 hz0 hz1 hz2 rfl (by decide) _ 0 [] rfl (World.ownsRow.drew (OwnI.empty w4)) ⟨bk, ok, none⟩ i ck ((k.take i).map (Value.int .i64)) rfl (by simp; omega) (news_take (unhide HC) (by omega) b5 hbk) (ints_oneCell .i64 (k.take i)) (by unfold maxLen; omega) (by omega) (by simp) ?_
      intro v6 w6 hown6 hgrow6 hnil6
      clear hnil6
      have O6 := hide (less_own hown6 (by omega))
      have G6 := hide (b5.grown hgrow6 (by simp) (fun j hj => (own_lt (OwnI.empty w4) hj).1))
      have s6 := (unhide G6).size
      clear hown6 hgrow6 b5
      change K (Act.put _ (some 48) _) _
      refine hK.out _ _ ?_ (fun hHeldN => ?_)
      · exact True.intro
      clear hHeld
      have hHeld := hHeldN
      clear hHeldN
      clear hK K
      try simp only [Act.put, List.setIfInBounds_toArray, List.set_cons_zero, List.set_cons_succ]
      refine wpAnyH_ready (rs := [9]) (by kernel_rfl) (by simp) ?_
      refine AllReadyH.cons rfl (fun K hK => ?_) AllReadyH.nil
      rw [if_pos (by rfl)]
      refine wp_append_own _ _ _ 23 rfl w4.heap.size 3 i0 (.int .i64 0) 1 8 Try.underlying23 hi0 hz0 hz1 hz2 rfl (by decide) _ (k.take i).length ((k.take i).map (Value.int .i64)) rfl (unhide O6) ⟨bk, ok, none⟩ _ _ ((k.drop (i + 1)).map (Value.int .i64)) rfl (by have hce := unhide HCE; simp only [List.length_map, List.length_drop, Nat.mul_one] <;> omega) (fun j u hu => by have hce := unhide HCE; rw [List.getElem?_eq_none (by simp; omega)] at hu; cases hu) (ints_oneCell .i64 (k.drop (i + 1))) (by simp; unfold maxLen; omega) (by simp; omega) (by omega) ?_
      intro v7 w7 hown7 hgrow7 hnil7
      clear hnil7
      have O7 := hide (without_own hown7 (by have hce := unhide HCE; simp only [List.length_drop] <;> omega))
      have G7 := hide ((unhide G6).grown hgrow7 s6 (fun j hj => (own_lt (unhide O6) hj).1))
      clear hown7 hgrow7 O6
      change K (Act.put _ (some 53) _) _
      refine hK.out _ _ ?_ (fun hHeldN => ?_)
      · exact True.intro
      clear hHeld
      have hHeld := hHeldN
      clear hHeldN
      clear hK K
      try simp only [Act.put, List.setIfInBounds_toArray, List.set_cons_zero, List.set_cons_succ]
      refine anyH_at (i := 10) (d := some 8) rfl rfl (by kernel_rfl) (by kernel_rfl) (by kernel_rfl) (fun _ _ _ h => h) (by rfl) (v := ?_) ?_ (by assumption) ?_
      rotate_left
      · (intro w hSw; (try dsimp only at hSw); go_simp <;> with_reducible rfl)
      simp only [Act.put, List.setIfInBounds_toArray, List.set_cons_zero, List.set_cons_succ]
      refine wpAnyH_done (by kernel_rfl) ?_ _
      clear hHeld
      obtain ⟨a7, c7', hv7⟩ := (unhide O7).form
      subst hv7
      have L7 := hide ((unhide O7).ins (by omega))
      have I7 := hide ((unhide I4).later (unhide G7))
      have B7 := hide ((unhide B4).trans ((unhide G7).mono (unhide B4).size))
      have hbk7 : bk < w7.heap.size := Nat.lt_of_lt_of_le hbk (unhide G7).size
      have HC7 : Hid (∀ i, i < k.length → w7.cell? ⟨bk, ok + i, none⟩ = some (.int .i64 (Ky.nth k i))) := fun i hi => ((unhide G7).cell hbk).trans (unhide HC i hi)
      have c7 := unhide HC7 i hi
      clear O7 G7 G6 I7 s6
      go_wp2_with fail
      refine wp_region_held_drew (S := (fun w' => w'.cell? ⟨bk, ok + i, none⟩ = some (.int .i64 (Ky.nth k i)))) (by kernel_rfl) ?_ (fun hHeld => ?_)
      · exact c7
      refine anyH_at (i := 1) (d := some 55) rfl rfl (by kernel_rfl) (by kernel_rfl) (by kernel_rfl) (fun _ _ _ h => h) (by rfl) (v := ?_) ?_ (by assumption) ?_
      rotate_left
      · (intro w hSw; (try dsimp only at hSw); go_simp <;> with_reducible rfl)
      simp only [Act.put, List.setIfInBounds_toArray, List.set_cons_zero, List.set_cons_succ]
      refine anyH_at (i := 3) (d := some 57) rfl rfl (by kernel_rfl) (by kernel_rfl) (by kernel_rfl) (fun _ _ _ h => h) (by rfl) (v := ?_) ?_ (by assumption) ?_
      rotate_left
      · (intro w hSw; (try dsimp only at hSw); go_simp <;> with_reducible rfl)
      simp only [Act.put, List.setIfInBounds_toArray, List.set_cons_zero, List.set_cons_succ]
      refine anyH_at (i := 4) (d := some 58) rfl rfl (by kernel_rfl) (by kernel_rfl) (by kernel_rfl) (fun _ _ _ h => h) (by rfl) (v := ?_) ?_ (by assumption) ?_
      rotate_left
      · (intro w hSw; (try dsimp only at hSw); go_simp <;> with_reducible rfl)
      simp only [Act.put, List.setIfInBounds_toArray, List.set_cons_zero, List.set_cons_succ]
      refine anyH_at (i := 5) (d := some 59) rfl rfl (by kernel_rfl) (by kernel_rfl) (by kernel_rfl) (fun _ _ _ h => h) (by rfl) (v := ?_) ?_ (by assumption) ?_
      rotate_left
      · (intro w hSw; (try dsimp only at hSw); go_simp <;> with_reducible rfl)
      simp only [Act.put, List.setIfInBounds_toArray, List.set_cons_zero, List.set_cons_succ]
      refine anyH_at (i := 6) (d := some 60) rfl rfl (by kernel_rfl) (by kernel_rfl) (by kernel_rfl) (fun _ _ _ h => h) (by rfl) (v := ?_) ?_ (by assumption) ?_
      rotate_left
      · (intro w hSw; (try dsimp only at hSw); go_simp <;> with_reducible rfl)
      simp only [Act.put, List.setIfInBounds_toArray, List.set_cons_zero, List.set_cons_succ]
      refine wpAnyH_ready (rs := [0, 7]) (by kernel_rfl) (by simp) ?_
      refine AllReadyH.cons rfl (fun K hK => ?_) (AllReadyH.cons rfl (fun K hK => ?_) AllReadyH.nil)
      · go_simp
        refine hK.out _ _ ?_ (fun hHeldN => ?_)
        · exact (((below1 w7 (.cells #[] 3)).drew).cell hbk7).trans c7
        clear hHeld
        have hHeld := hHeldN
        clear hHeldN
        clear hK K
        try simp only [Act.put, List.setIfInBounds_toArray, List.set_cons_zero, List.set_cons_succ]
        refine wpAnyH_ready (rs := [2, 7]) (by kernel_rfl) (by simp) ?_
        refine AllReadyH.cons rfl (fun K hK => ?_) (AllReadyH.cons rfl (fun K hK => ?_) AllReadyH.nil)
        · rw [if_pos (by rfl)]
          refine wp_append_own _ _ _ 23 rfl w7.heap.size 3 i0 (.int .i64 0) 1 8 Try.underlying23 hi0 hz0 hz1 hz2 rfl (by decide) _ 0 [] rfl (World.ownsRow.drew (OwnI.empty w7)) ⟨bk, ok, none⟩ k.length ck (k.map (Value.int .i64)) rfl (by simp) (news_all (unhide HC7) ((below1 w7 (.cells #[] 3)).drew) hbk7) (ints_oneCell .i64 k) (by unfold maxLen; omega) (by omega) (by first | omega | (simp; omega) | simp) ?_
          intro v8 w8 hown8 hgrow8 hnil8
          clear hnil8
          have O8 := hide (all_own' hown8)
          have G8 := hide (((below1 w7 (.cells #[] 3)).drew).grown hgrow8 (by first | omega | (simp; omega) | simp) (fun j hj => (own_lt (World.ownsRow.drew (OwnI.empty w7)) hj).1))
          have s8 := (unhide G8).size
          clear hown8 hgrow8
          change K (Act.put _ (some 56) _) _
          refine hK.out _ _ ?_ (fun hHeldN => ?_)
          · exact ((unhide G8).cell hbk7).trans c7
          clear hHeld
          have hHeld := hHeldN
          clear hHeldN
          clear hK K
          try simp only [Act.put, List.setIfInBounds_toArray, List.set_cons_zero, List.set_cons_succ]
          refine wpAnyH_ready (rs := [7]) (by kernel_rfl) (by simp) ?_
          refine AllReadyH.cons rfl (fun K hK => ?_) AllReadyH.nil
          go_simp
          refine hK.out _ _ ?_ (fun hHeldN => ?_)
          · exact (((unhide G8).trans ((below1 w8 (.cells #[.int .i64 (Ky.nth k i)] 3)).mono s8)).cell hbk7).trans c7
          clear hHeld
          have hHeld := hHeldN
          clear hHeldN
          clear hK K
          try simp only [Act.put, List.setIfInBounds_toArray, List.set_cons_zero, List.set_cons_succ]
          refine wpAnyH_ready (rs := [8]) (by kernel_rfl) (by simp) ?_
          refine AllReadyH.cons rfl (fun K hK => ?_) AllReadyH.nil
          rw [if_pos (by rfl)]
          refine wp_append_own _ _ _ 23 rfl w7.heap.size 3 i0 (.int .i64 0) 1 8 Try.underlying23 hi0 hz0 hz1 hz2 rfl (by decide) _ k.length (k.map (Value.int .i64)) rfl ((unhide O8).later (below1 w8 (.cells #[.int .i64 (Ky.nth k i)] 3))) ⟨w8.heap.size, 0, none⟩ 1 1 [.int .i64 (Ky.nth k i)] rfl rfl (one_cell (heap_alloc_new w8 _)) (ints_oneCell .i64 [Ky.nth k i]) (by unfold maxLen; omega) (by omega) (by first | omega | (simp; omega) | simp) ?_
          intro v9 w9 hown9 hgrow9 hnil9
          clear hnil9
          have O9 := hide (twice_own hown9)
          have G9 := hide (((unhide G8).trans ((below1 w8 (.cells #[.int .i64 (Ky.nth k i)] 3)).mono s8)).grown hgrow9 (by first | omega | (simp; omega) | simp) (fun j hj => (own_lt ((unhide O8).later (below1 w8 (.cells #[.int .i64 (Ky.nth k i)] 3))) hj).1))
          clear hown9 hgrow9
          change K (Act.put _ (some 62) _) _
          refine hK.out _ _ ?_ (fun hHeldN => ?_)
          · exact ((unhide G9).cell hbk7).trans c7
          clear hHeld
          have hHeld := hHeldN
          clear hHeldN
          clear hK K
          try simp only [Act.put, List.setIfInBounds_toArray, List.set_cons_zero, List.set_cons_succ]
          refine anyH_at (i := 9) (d := some 9) rfl rfl (by kernel_rfl) (by kernel_rfl) (by kernel_rfl) (fun _ _ _ h => h) (by rfl) (v := ?_) ?_ (by assumption) ?_
          rotate_left
          · (intro w hSw; (try dsimp only at hSw); go_simp <;> with_reducible rfl)
          simp only [Act.put, List.setIfInBounds_toArray, List.set_cons_zero, List.set_cons_succ]
          refine wpAnyH_done (by kernel_rfl) ?_ _
          clear hHeld
          have I9 := hide ((unhide O9).ins (by rw [List.length_append]; simp; omega))
          have L9 := hide ((unhide L7).later (unhide G9))
          have B9 := hide ((unhide B7).trans ((unhide G9).mono (unhide B7).size))
          clear O9 G9 L7 B7
          go_wp2_with fail
          refine (implKeysOk_b _ _ (Ky.without k i) (unhide E1) (unhide L9)).mono ?_
          rintro e wA ⟨rfl, bA⟩
          have IA := hide ((unhide I9).later bA)
          have BA := hide ((unhide B9).trans (bA.mono (unhide B9).size))
          clear I9 L9 B9 bA
          go_wp2_with fail
          refine (implKeysOk_b _ _ (k ++ [Ky.nth k i]) (unhide E2) (unhide IA)).mono ?_
          rintro e wB ⟨rfl, bB⟩
          have BB := hide ((unhide BA).trans (bB.mono (unhide BA).size))
          clear IA BA bB
          go_wp2
          go_ret
          exact ⟨rfl, unhide BB⟩
        · go_simp
          refine hK.out _ _ ?_ (fun hHeldN => ?_)
          · exact (((below2 w7 (.cells #[] 3) (.cells #[.int .i64 (Ky.nth k i)] 3)).drew).cell hbk7).trans c7
          clear hHeld
          have hHeld := hHeldN
          clear hHeldN
          clear hK K
          try simp only [Act.put, List.setIfInBounds_toArray, List.set_cons_zero, List.set_cons_succ]
          refine wpAnyH_ready (rs := [2]) (by kernel_rfl) (by simp) ?_
          refine AllReadyH.cons rfl (fun K hK => ?_) AllReadyH.nil
          rw [if_pos (by rfl)]
          have n7 : ((w7.alloc (.cells #[] 3)).alloc (.cells #[.int .i64 (Ky.nth k i)] 3)).heap[w7.heap.size + 1]? = some (.cells #[.int .i64 (Ky.nth k i)] 3 (0, 0)) := by
            have e : w7.heap.size + 1 = (w7.alloc (.cells #[] 3)).heap.size := by rw [sz1']
            rw [e]
            exact heap_alloc_new _ _
          refine wp_append_own _ _ _ 23 rfl w7.heap.size 3 i0 (.int .i64 0) 1 8 Try.underlying23 hi0 hz0 hz1 hz2 rfl (by decide) _ 0 [] rfl (World.ownsRow.drew ((OwnI.empty w7).later (below1 _ (.cells #[.int .i64 (Ky.nth k i)] 3)))) ⟨bk, ok, none⟩ k.length ck (k.map (Value.int .i64)) rfl (by simp) (news_all (unhide HC7) ((below2 w7 (.cells #[] 3) (.cells #[.int .i64 (Ky.nth k i)] 3)).drew) hbk7) (ints_oneCell .i64 k) (by unfold maxLen; omega) (by omega) (by first | omega | (simp; omega) | simp) ?_
          intro v8 w8 hown8 hgrow8 hnil8
          clear hnil8
          have O8 := hide (all_own' hown8)
          have G8 := hide (((below2 w7 (.cells #[] 3) (.cells #[.int .i64 (Ky.nth k i)] 3)).drew).grown hgrow8 (by first | omega | (simp; omega) | simp) (fun j hj => (own_lt (World.ownsRow.drew ((OwnI.empty w7).later (below1 _ (.cells #[.int .i64 (Ky.nth k i)] 3)))) hj).1))
          have s8 := (unhide G8).size
          have n8 : w8.heap[w7.heap.size + 1]? = some (.cells #[.int .i64 (Ky.nth k i)] 3 (0, 0)) := (hgrow8.block _ (by exact heapLt n7) (by intro e; have e' : some (w7.heap.size + 1) = some w7.heap.size := e; injection e' with e'; omega)).trans n7
          clear hown8 hgrow8 n7
          change K (Act.put _ (some 56) _) _
          refine hK.out _ _ ?_ (fun hHeldN => ?_)
          · exact ((unhide G8).cell hbk7).trans c7
          clear hHeld
          have hHeld := hHeldN
          clear hHeldN
          clear hK K
          try simp only [Act.put, List.setIfInBounds_toArray, List.set_cons_zero, List.set_cons_succ]
          refine wpAnyH_ready (rs := [8]) (by kernel_rfl) (by simp) ?_
          refine AllReadyH.cons rfl (fun K hK => ?_) AllReadyH.nil
          rw [if_pos (by rfl)]
          refine wp_append_own _ _ _ 23 rfl w7.heap.size 3 i0 (.int .i64 0) 1 8 Try.underlying23 hi0 hz0 hz1 hz2 rfl (by decide) _ k.length (k.map (Value.int .i64)) rfl (unhide O8) ⟨w7.heap.size + 1, 0, none⟩ 1 1 [.int .i64 (Ky.nth k i)] rfl rfl (one_cell (n8)) (ints_oneCell .i64 [Ky.nth k i]) (by unfold maxLen; omega) (by omega) (by first | omega | (simp; omega) | simp) ?_
          intro v9 w9 hown9 hgrow9 hnil9
          clear hnil9
          have O9 := hide (twice_own hown9)
          have G9 := hide ((unhide G8).grown hgrow9 (by first | omega | (simp; omega) | simp) (fun j hj => (own_lt (unhide O8) hj).1))
          clear hown9 hgrow9
          change K (Act.put _ (some 62) _) _
          refine hK.out _ _ ?_ (fun hHeldN => ?_)
          · exact ((unhide G9).cell hbk7).trans c7
          clear hHeld
          have hHeld := hHeldN
          clear hHeldN
          clear hK K
          try simp only [Act.put, List.setIfInBounds_toArray, List.set_cons_zero, List.set_cons_succ]
          refine anyH_at (i := 9) (d := some 9) rfl rfl (by kernel_rfl) (by kernel_rfl) (by kernel_rfl) (fun _ _ _ h => h) (by rfl) (v := ?_) ?_ (by assumption) ?_
          rotate_left
          · (intro w hSw; (try dsimp only at hSw); go_simp <;> with_reducible rfl)
          simp only [Act.put, List.setIfInBounds_toArray, List.set_cons_zero, List.set_cons_succ]
          refine wpAnyH_done (by kernel_rfl) ?_ _
          clear hHeld
          have I9 := hide ((unhide O9).ins (by rw [List.length_append]; simp; omega))
          have L9 := hide ((unhide L7).later (unhide G9))
          have B9 := hide ((unhide B7).trans ((unhide G9).mono (unhide B7).size))
          clear O9 G9 L7 B7
          go_wp2_with fail
          refine (implKeysOk_b _ _ (Ky.without k i) (unhide E1) (unhide L9)).mono ?_
          rintro e wA ⟨rfl, bA⟩
          have IA := hide ((unhide I9).later bA)
          have BA := hide ((unhide B9).trans (bA.mono (unhide B9).size))
          clear I9 L9 B9 bA
          go_wp2_with fail
          refine (implKeysOk_b _ _ (k ++ [Ky.nth k i]) (unhide E2) (unhide IA)).mono ?_
          rintro e wB ⟨rfl, bB⟩
          have BB := hide ((unhide BA).trans (bB.mono (unhide BA).size))
          clear IA BA bB
          go_wp2
          go_ret
          exact ⟨rfl, unhide BB⟩
      · go_simp
        refine hK.out _ _ ?_ (fun hHeldN => ?_)
        · exact (((below1 w7 (.cells #[.int .i64 (Ky.nth k i)] 3)).drew).cell hbk7).trans c7
        clear hHeld
        have hHeld := hHeldN
        clear hHeldN
        clear hK K
        try simp only [Act.put, List.setIfInBounds_toArray, List.set_cons_zero, List.set_cons_succ]
        refine wpAnyH_ready (rs := [0]) (by kernel_rfl) (by simp) ?_
        refine AllReadyH.cons rfl (fun K hK => ?_) AllReadyH.nil
        go_simp
        refine hK.out _ _ ?_ (fun hHeldN => ?_)
        · exact (((below2 w7 (.cells #[.int .i64 (Ky.nth k i)] 3) (.cells #[] 3)).drew).cell hbk7).trans c7
        clear hHeld
        have hHeld := hHeldN
        clear hHeldN
        clear hK K
        try simp only [Act.put, List.setIfInBounds_toArray, List.set_cons_zero, List.set_cons_succ]
        refine wpAnyH_ready (rs := [2]) (by kernel_rfl) (by simp) ?_
        refine AllReadyH.cons rfl (fun K hK => ?_) AllReadyH.nil
        rw [if_pos (by rfl)]
        have n7 : ((w7.alloc (.cells #[.int .i64 (Ky.nth k i)] 3)).alloc (.cells #[] 3)).heap[w7.heap.size]? = some (.cells #[.int .i64 (Ky.nth k i)] 3 (0, 0)) := by
          rw [Below.heap_alloc _ _ _ (by rw [sz1']; omega)]
          exact heap_alloc_new _ _
        refine wp_append_own _ _ _ 23 rfl w7.heap.size 3 i0 (.int .i64 0) 1 8 Try.underlying23 hi0 hz0 hz1 hz2 rfl (by decide) _ 0 [] rfl (World.ownsRow.drew (own_empty2 w7 (.cells #[.int .i64 (Ky.nth k i)] 3))) ⟨bk, ok, none⟩ k.length ck (k.map (Value.int .i64)) rfl (by simp) (news_all (unhide HC7) ((below2 w7 (.cells #[.int .i64 (Ky.nth k i)] 3) (.cells #[] 3)).drew) hbk7) (ints_oneCell .i64 k) (by unfold maxLen; omega) (by omega) (by first | omega | (simp; omega) | simp) ?_
        intro v8 w8 hown8 hgrow8 hnil8
        clear hnil8
        have O8 := hide (all_own' hown8)
        have G8 := hide (((below2 w7 (.cells #[.int .i64 (Ky.nth k i)] 3) (.cells #[] 3)).drew).grown hgrow8 (by first | omega | (simp; omega) | simp) (fun j hj => (own_lt (World.ownsRow.drew (own_empty2 w7 (.cells #[.int .i64 (Ky.nth k i)] 3))) hj).1))
        have s8 := (unhide G8).size
        have n8 : w8.heap[w7.heap.size]? = some (.cells #[.int .i64 (Ky.nth k i)] 3 (0, 0)) := (hgrow8.block _ (by exact heapLt n7) (by intro e; have e' : some w7.heap.size = some (w7.heap.size + 1) := e; injection e' with e'; omega)).trans n7
        clear hown8 hgrow8 n7
        change K (Act.put _ (some 56) _) _
        refine hK.out _ _ ?_ (fun hHeldN => ?_)
        · exact ((unhide G8).cell hbk7).trans c7
        clear hHeld
        have hHeld := hHeldN
        clear hHeldN
        clear hK K
        try simp only [Act.put, List.setIfInBounds_toArray, List.set_cons_zero, List.set_cons_succ]
        refine wpAnyH_ready (rs := [8]) (by kernel_rfl) (by simp) ?_
        refine AllReadyH.cons rfl (fun K hK => ?_) AllReadyH.nil
        rw [if_pos (by rfl)]
        refine wp_append_own _ _ _ 23 rfl w7.heap.size 3 i0 (.int .i64 0) 1 8 Try.underlying23 hi0 hz0 hz1 hz2 rfl (by decide) _ k.length (k.map (Value.int .i64)) rfl (unhide O8) ⟨w7.heap.size, 0, none⟩ 1 1 [.int .i64 (Ky.nth k i)] rfl rfl (one_cell (n8)) (ints_oneCell .i64 [Ky.nth k i]) (by unfold maxLen; omega) (by omega) (by first | omega | (simp; omega) | simp) ?_
        intro v9 w9 hown9 hgrow9 hnil9
        clear hnil9
        have O9 := hide (twice_own hown9)
        have G9 := hide ((unhide G8).grown hgrow9 (by first | omega | (simp; omega) | simp) (fun j hj => (own_lt (unhide O8) hj).1))
        clear hown9 hgrow9
        change K (Act.put _ (some 62) _) _
        refine hK.out _ _ ?_ (fun hHeldN => ?_)
        · exact ((unhide G9).cell hbk7).trans c7
        clear hHeld
        have hHeld := hHeldN
        clear hHeldN
        clear hK K
        try simp only [Act.put, List.setIfInBounds_toArray, List.set_cons_zero, List.set_cons_succ]
        refine anyH_at (i := 9) (d := some 9) rfl rfl (by kernel_rfl) (by kernel_rfl) (by kernel_rfl) (fun _ _ _ h => h) (by rfl) (v := ?_) ?_ (by assumption) ?_
        rotate_left
        · (intro w hSw; (try dsimp only at hSw); go_simp <;> with_reducible rfl)
        simp only [Act.put, List.setIfInBounds_toArray, List.set_cons_zero, List.set_cons_succ]
        refine wpAnyH_done (by kernel_rfl) ?_ _
        clear hHeld
        have I9 := hide ((unhide O9).ins (by rw [List.length_append]; simp; omega))
        have L9 := hide ((unhide L7).later (unhide G9))
        have B9 := hide ((unhide B7).trans ((unhide G9).mono (unhide B7).size))
        clear O9 G9 L7 B7
        go_wp2_with fail
        refine (implKeysOk_b _ _ (Ky.without k i) (unhide E1) (unhide L9)).mono ?_
        rintro e wA ⟨rfl, bA⟩
        have IA := hide ((unhide I9).later bA)
        have BA := hide ((unhide B9).trans (bA.mono (unhide B9).size))
        clear I9 L9 B9 bA
        go_wp2_with fail
        refine (implKeysOk_b _ _ (k ++ [Ky.nth k i]) (unhide E2) (unhide IA)).mono ?_
        rintro e wB ⟨rfl, bB⟩
        have BB := hide ((unhide BA).trans (bB.mono (unhide BA).size))
        clear IA BA bB
        go_wp2
        go_ret
        exact ⟨rfl, unhide BB⟩
    · have hce' : ¬ ck = i + 1 := hce
      go_wp2_with fail
      simp only [hrem]
      clear hrem hkz hkz'
      refine wp_region_held_drew (S := fun _ => True) (by kernel_rfl) ?_ (fun hHeld => ?_)
      · exact True.intro
      refine anyH_at (i := 1) (d := some 45) rfl rfl (by kernel_rfl) (by kernel_rfl) (by kernel_rfl) (fun _ _ _ h => h) (by rfl) (v := ?_) ?_ (by assumption) ?_
      rotate_left
      · (intro w hSw; (try dsimp only at hSw); go_simp <;> with_reducible rfl)
      simp only [Act.put, List.setIfInBounds_toArray, List.set_cons_zero, List.set_cons_succ]
      refine anyH_at (i := 2) (d := some 46) rfl rfl (by kernel_rfl) (by kernel_rfl) (by kernel_rfl) (fun _ _ _ h => h) (by rfl) (v := ?_) ?_ (by assumption) ?_
      rotate_left
      · (intro w hSw; (try dsimp only at hSw); go_simp <;> with_reducible rfl)
      simp only [Act.put, List.setIfInBounds_toArray, List.set_cons_zero, List.set_cons_succ]
      refine anyH_at (i := 3) (d := some 47) rfl rfl (by kernel_rfl) (by kernel_rfl) (by kernel_rfl) (fun _ _ _ h => h) (by rfl) (v := ?_) ?_ (by assumption) ?_
      rotate_left
      · (intro w hSw; (try dsimp only at hSw); go_simp <;> with_reducible rfl)
      simp only [Act.put, List.setIfInBounds_toArray, List.set_cons_zero, List.set_cons_succ]
      refine anyH_at (i := 5) (d := some 49) rfl rfl (by kernel_rfl) (by kernel_rfl) (by kernel_rfl) (fun _ _ _ h => h) (by rfl) (v := ?_) ?_ (by assumption) ?_
      rotate_left
      · (intro w hSw; (try dsimp only at hSw); go_simp <;> with_reducible rfl)
      simp only [Act.put, List.setIfInBounds_toArray, List.set_cons_zero, List.set_cons_succ]
      refine anyH_at (i := 6) (d := some 50) rfl rfl (by kernel_rfl) (by kernel_rfl) (by kernel_rfl) (fun _ _ _ h => h) (by rfl) (v := ?_) ?_ (by assumption) ?_
      rotate_left
      · (intro w hSw; (try dsimp only at hSw); go_simp <;> with_reducible rfl)
      simp only [Act.put, List.setIfInBounds_toArray, List.set_cons_zero, List.set_cons_succ]
      refine anyH_at (i := 7) (d := some 51) rfl rfl (by kernel_rfl) (by kernel_rfl) (by kernel_rfl) (fun _ _ _ h => h) (by rfl) (v := ?_) ?_ (by assumption) ?_
      rotate_left
      · (intro w hSw; (try dsimp only at hSw); go_simp <;> with_reducible rfl)
      simp only [Act.put, List.setIfInBounds_toArray, List.set_cons_zero, List.set_cons_succ]
      refine anyH_at (i := 8) (d := some 52) rfl rfl (by kernel_rfl) (by kernel_rfl) (by kernel_rfl) (fun _ _ _ h => h) (by rfl) (v := ?_) ?_ (by assumption) ?_
      rotate_left
      · (intro w hSw; (try dsimp only at hSw); go_simp <;> with_reducible rfl)
      simp only [Act.put, List.setIfInBounds_toArray, List.set_cons_zero, List.set_cons_succ]
      refine wpAnyH_ready (rs := [0]) (by kernel_rfl) (by simp) ?_
      refine AllReadyH.cons rfl (fun K hK => ?_) AllReadyH.nil
      go_simp
      refine hK.out _ _ ?_ (fun hHeldN => ?_)
      · exact True.intro
      clear hHeld
      have hHeld := hHeldN
      clear hHeldN
      clear hK K
      try simp only [Act.put, List.setIfInBounds_toArray, List.set_cons_zero, List.set_cons_succ]
      refine wpAnyH_ready (rs := [4]) (by kernel_rfl) (by simp) ?_
      refine AllReadyH.cons rfl (fun K hK => ?_) AllReadyH.nil
      rw [if_pos (by rfl)]
      have b5 := (below1 w4 (.cells #[] 3)).drew
      refine wp_append_own _ _ _ 23 rfl w4.heap.size 3 i0 (.int .i64 0) 1 8 Try.underlying23 hi0 hz0 hz1 hz2 rfl (by decide) _ 0 [] rfl (World.ownsRow.drew (OwnI.empty w4)) ⟨bk, ok, none⟩ i ck ((k.take i).map (Value.int .i64)) rfl (by simp; omega) (news_take (unhide HC) (by omega) b5 hbk) (ints_oneCell .i64 (k.take i)) (by unfold maxLen; omega) (by omega) (by simp) ?_
      intro v6 w6 hown6 hgrow6 hnil6
      clear hnil6
      have O6 := hide (less_own hown6 (by omega))
      have G6 := hide (b5.grown hgrow6 (by simp) (fun j hj => (own_lt (OwnI.empty w4) hj).1))
      have s6 := (unhide G6).size
      clear hown6 hgrow6 b5
      change K (Act.put _ (some 48) _) _
      refine hK.out _ _ ?_ (fun hHeldN => ?_)
      · exact True.intro
      clear hHeld
      have hHeld := hHeldN
      clear hHeldN
      clear hK K
      try simp only [Act.put, List.setIfInBounds_toArray, List.set_cons_zero, List.set_cons_succ]
      refine wpAnyH_ready (rs := [9]) (by kernel_rfl) (by simp) ?_
      refine AllReadyH.cons rfl (fun K hK => ?_) AllReadyH.nil
      rw [if_pos (by rfl)]
      refine wp_append_own _ _ _ 23 rfl w4.heap.size 3 i0 (.int .i64 0) 1 8 Try.underlying23 hi0 hz0 hz1 hz2 rfl (by decide) _ (k.take i).length ((k.take i).map (Value.int .i64)) rfl (unhide O6) ⟨bk, ok + (i + 1), none⟩ _ _ ((k.drop (i + 1)).map (Value.int .i64)) rfl (by simp only [List.length_map, List.length_drop, Nat.mul_one] <;> omega) (news_drop (unhide HC) (unhide G6) hbk) (ints_oneCell .i64 (k.drop (i + 1))) (by simp; unfold maxLen; omega) (by simp; omega) (by omega) ?_
      intro v7 w7 hown7 hgrow7 hnil7
      clear hnil7
      have O7 := hide (without_own hown7 (by simp only [List.length_drop] <;> omega))
      have G7 := hide ((unhide G6).grown hgrow7 s6 (fun j hj => (own_lt (unhide O6) hj).1))
      clear hown7 hgrow7 O6
      change K (Act.put _ (some 53) _) _
      refine hK.out _ _ ?_ (fun hHeldN => ?_)
      · exact True.intro
      clear hHeld
      have hHeld := hHeldN
      clear hHeldN
      clear hK K
      try simp only [Act.put, List.setIfInBounds_toArray, List.set_cons_zero, List.set_cons_succ]
      refine anyH_at (i := 10) (d := some 8) rfl rfl (by kernel_rfl) (by kernel_rfl) (by kernel_rfl) (fun _ _ _ h => h) (by rfl) (v := ?_) ?_ (by assumption) ?_
      rotate_left
      · (intro w hSw; (try dsimp only at hSw); go_simp <;> with_reducible rfl)
      simp only [Act.put, List.setIfInBounds_toArray, List.set_cons_zero, List.set_cons_succ]
      refine wpAnyH_done (by kernel_rfl) ?_ _
      clear hHeld
      obtain ⟨a7, c7', hv7⟩ := (unhide O7).form
      subst hv7
      have L7 := hide ((unhide O7).ins (by omega))
      have I7 := hide ((unhide I4).later (unhide G7))
      have B7 := hide ((unhide B4).trans ((unhide G7).mono (unhide B4).size))
      have hbk7 : bk < w7.heap.size := Nat.lt_of_lt_of_le hbk (unhide G7).size
      have HC7 : Hid (∀ i, i < k.length → w7.cell? ⟨bk, ok + i, none⟩ = some (.int .i64 (Ky.nth k i))) := fun i hi => ((unhide G7).cell hbk).trans (unhide HC i hi)
      have c7 := unhide HC7 i hi
      clear O7 G7 G6 I7 s6
      go_wp2_with fail
      refine wp_region_held_drew (S := (fun w' => w'.cell? ⟨bk, ok + i, none⟩ = some (.int .i64 (Ky.nth k i)))) (by kernel_rfl) ?_ (fun hHeld => ?_)
      · exact c7
      refine anyH_at (i := 1) (d := some 55) rfl rfl (by kernel_rfl) (by kernel_rfl) (by kernel_rfl) (fun _ _ _ h => h) (by rfl) (v := ?_) ?_ (by assumption) ?_
      rotate_left
      · (intro w hSw; (try dsimp only at hSw); go_simp <;> with_reducible rfl)
      simp only [Act.put, List.setIfInBounds_toArray, List.set_cons_zero, List.set_cons_succ]
      refine anyH_at (i := 3) (d := some 57) rfl rfl (by kernel_rfl) (by kernel_rfl) (by kernel_rfl) (fun _ _ _ h => h) (by rfl) (v := ?_) ?_ (by assumption) ?_
      rotate_left
      · (intro w hSw; (try dsimp only at hSw); go_simp <;> with_reducible rfl)
      simp only [Act.put, List.setIfInBounds_toArray, List.set_cons_zero, List.set_cons_succ]
      refine anyH_at (i := 4) (d := some 58) rfl rfl (by kernel_rfl) (by kernel_rfl) (by kernel_rfl) (fun _ _ _ h => h) (by rfl) (v := ?_) ?_ (by assumption) ?_
      rotate_left
      · (intro w hSw; (try dsimp only at hSw); go_simp <;> with_reducible rfl)
      simp only [Act.put, List.setIfInBounds_toArray, List.set_cons_zero, List.set_cons_succ]
      refine anyH_at (i := 5) (d := some 59) rfl rfl (by kernel_rfl) (by kernel_rfl) (by kernel_rfl) (fun _ _ _ h => h) (by rfl) (v := ?_) ?_ (by assumption) ?_
      rotate_left
      · (intro w hSw; (try dsimp only at hSw); go_simp <;> with_reducible rfl)
      simp only [Act.put, List.setIfInBounds_toArray, List.set_cons_zero, List.set_cons_succ]
      refine anyH_at (i := 6) (d := some 60) rfl rfl (by kernel_rfl) (by kernel_rfl) (by kernel_rfl) (fun _ _ _ h => h) (by rfl) (v := ?_) ?_ (by assumption) ?_
      rotate_left
      · (intro w hSw; (try dsimp only at hSw); go_simp <;> with_reducible rfl)
      simp only [Act.put, List.setIfInBounds_toArray, List.set_cons_zero, List.set_cons_succ]
      refine wpAnyH_ready (rs := [0, 7]) (by kernel_rfl) (by simp) ?_
      refine AllReadyH.cons rfl (fun K hK => ?_) (AllReadyH.cons rfl (fun K hK => ?_) AllReadyH.nil)
      · go_simp
        refine hK.out _ _ ?_ (fun hHeldN => ?_)
        · exact (((below1 w7 (.cells #[] 3)).drew).cell hbk7).trans c7
        clear hHeld
        have hHeld := hHeldN
        clear hHeldN
        clear hK K
        try simp only [Act.put, List.setIfInBounds_toArray, List.set_cons_zero, List.set_cons_succ]
        refine wpAnyH_ready (rs := [2, 7]) (by kernel_rfl) (by simp) ?_
        refine AllReadyH.cons rfl (fun K hK => ?_) (AllReadyH.cons rfl (fun K hK => ?_) AllReadyH.nil)
        · rw [if_pos (by rfl)]
          refine wp_append_own _ _ _ 23 rfl w7.heap.size 3 i0 (.int .i64 0) 1 8 Try.underlying23 hi0 hz0 hz1 hz2 rfl (by decide) _ 0 [] rfl (World.ownsRow.drew (OwnI.empty w7)) ⟨bk, ok, none⟩ k.length ck (k.map (Value.int .i64)) rfl (by simp) (news_all (unhide HC7) ((below1 w7 (.cells #[] 3)).drew) hbk7) (ints_oneCell .i64 k) (by unfold maxLen; omega) (by omega) (by first | omega | (simp; omega) | simp) ?_
          intro v8 w8 hown8 hgrow8 hnil8
          clear hnil8
          have O8 := hide (all_own' hown8)
          have G8 := hide (((below1 w7 (.cells #[] 3)).drew).grown hgrow8 (by first | omega | (simp; omega) | simp) (fun j hj => (own_lt (World.ownsRow.drew (OwnI.empty w7)) hj).1))
          have s8 := (unhide G8).size
          clear hown8 hgrow8
          change K (Act.put _ (some 56) _) _
          refine hK.out _ _ ?_ (fun hHeldN => ?_)
          · exact ((unhide G8).cell hbk7).trans c7
          clear hHeld
          have hHeld := hHeldN
          clear hHeldN
          clear hK K
          try simp only [Act.put, List.setIfInBounds_toArray, List.set_cons_zero, List.set_cons_succ]
          refine wpAnyH_ready (rs := [7]) (by kernel_rfl) (by simp) ?_
          refine AllReadyH.cons rfl (fun K hK => ?_) AllReadyH.nil
          go_simp
          refine hK.out _ _ ?_ (fun hHeldN => ?_)
          · exact (((unhide G8).trans ((below1 w8 (.cells #[.int .i64 (Ky.nth k i)] 3)).mono s8)).cell hbk7).trans c7
          clear hHeld
          have hHeld := hHeldN
          clear hHeldN
          clear hK K
          try simp only [Act.put, List.setIfInBounds_toArray, List.set_cons_zero, List.set_cons_succ]
          refine wpAnyH_ready (rs := [8]) (by kernel_rfl) (by simp) ?_
          refine AllReadyH.cons rfl (fun K hK => ?_) AllReadyH.nil
          rw [if_pos (by rfl)]
          refine wp_append_own _ _ _ 23 rfl w7.heap.size 3 i0 (.int .i64 0) 1 8 Try.underlying23 hi0 hz0 hz1 hz2 rfl (by decide) _ k.length (k.map (Value.int .i64)) rfl ((unhide O8).later (below1 w8 (.cells #[.int .i64 (Ky.nth k i)] 3))) ⟨w8.heap.size, 0, none⟩ 1 1 [.int .i64 (Ky.nth k i)] rfl rfl (one_cell (heap_alloc_new w8 _)) (ints_oneCell .i64 [Ky.nth k i]) (by unfold maxLen; omega) (by omega) (by first | omega | (simp; omega) | simp) ?_
          intro v9 w9 hown9 hgrow9 hnil9
          clear hnil9
          have O9 := hide (twice_own hown9)
          have G9 := hide (((unhide G8).trans ((below1 w8 (.cells #[.int .i64 (Ky.nth k i)] 3)).mono s8)).grown hgrow9 (by first | omega | (simp; omega) | simp) (fun j hj => (own_lt ((unhide O8).later (below1 w8 (.cells #[.int .i64 (Ky.nth k i)] 3))) hj).1))
          clear hown9 hgrow9
          change K (Act.put _ (some 62) _) _
          refine hK.out _ _ ?_ (fun hHeldN => ?_)
          · exact ((unhide G9).cell hbk7).trans c7
          clear hHeld
          have hHeld := hHeldN
          clear hHeldN
          clear hK K
          try simp only [Act.put, List.setIfInBounds_toArray, List.set_cons_zero, List.set_cons_succ]
          refine anyH_at (i := 9) (d := some 9) rfl rfl (by kernel_rfl) (by kernel_rfl) (by kernel_rfl) (fun _ _ _ h => h) (by rfl) (v := ?_) ?_ (by assumption) ?_
          rotate_left
          · (intro w hSw; (try dsimp only at hSw); go_simp <;> with_reducible rfl)
          simp only [Act.put, List.setIfInBounds_toArray, List.set_cons_zero, List.set_cons_succ]
          refine wpAnyH_done (by kernel_rfl) ?_ _
          clear hHeld
          have I9 := hide ((unhide O9).ins (by rw [List.length_append]; simp; omega))
          have L9 := hide ((unhide L7).later (unhide G9))
          have B9 := hide ((unhide B7).trans ((unhide G9).mono (unhide B7).size))
          clear O9 G9 L7 B7
          go_wp2_with fail
          refine (implKeysOk_b _ _ (Ky.without k i) (unhide E1) (unhide L9)).mono ?_
          rintro e wA ⟨rfl, bA⟩
          have IA := hide ((unhide I9).later bA)
          have BA := hide ((unhide B9).trans (bA.mono (unhide B9).size))
          clear I9 L9 B9 bA
          go_wp2_with fail
          refine (implKeysOk_b _ _ (k ++ [Ky.nth k i]) (unhide E2) (unhide IA)).mono ?_
          rintro e wB ⟨rfl, bB⟩
          have BB := hide ((unhide BA).trans (bB.mono (unhide BA).size))
          clear IA BA bB
          go_wp2
          go_ret
          exact ⟨rfl, unhide BB⟩
        · go_simp
          refine hK.out _ _ ?_ (fun hHeldN => ?_)
          · exact (((below2 w7 (.cells #[] 3) (.cells #[.int .i64 (Ky.nth k i)] 3)).drew).cell hbk7).trans c7
          clear hHeld
          have hHeld := hHeldN
          clear hHeldN
          clear hK K
          try simp only [Act.put, List.setIfInBounds_toArray, List.set_cons_zero, List.set_cons_succ]
          refine wpAnyH_ready (rs := [2]) (by kernel_rfl) (by simp) ?_
          refine AllReadyH.cons rfl (fun K hK => ?_) AllReadyH.nil
          rw [if_pos (by rfl)]
          have n7 : ((w7.alloc (.cells #[] 3)).alloc (.cells #[.int .i64 (Ky.nth k i)] 3)).heap[w7.heap.size + 1]? = some (.cells #[.int .i64 (Ky.nth k i)] 3 (0, 0)) := by
            have e : w7.heap.size + 1 = (w7.alloc (.cells #[] 3)).heap.size := by rw [sz1']
            rw [e]
            exact heap_alloc_new _ _
          refine wp_append_own _ _ _ 23 rfl w7.heap.size 3 i0 (.int .i64 0) 1 8 Try.underlying23 hi0 hz0 hz1 hz2 rfl (by decide) _ 0 [] rfl (World.ownsRow.drew ((OwnI.empty w7).later (below1 _ (.cells #[.int .i64 (Ky.nth k i)] 3)))) ⟨bk, ok, none⟩ k.length ck (k.map (Value.int .i64)) rfl (by simp) (news_all (unhide HC7) ((below2 w7 (.cells #[] 3) (.cells #[.int .i64 (Ky.nth k i)] 3)).drew) hbk7) (ints_oneCell .i64 k) (by unfold maxLen; omega) (by omega) (by first | omega | (simp; omega) | simp) ?_
          intro v8 w8 hown8 hgrow8 hnil8
          clear hnil8
          have O8 := hide (all_own' hown8)
          have G8 := hide (((below2 w7 (.cells #[] 3) (.cells #[.int .i64 (Ky.nth k i)] 3)).drew).grown hgrow8 (by first | omega | (simp; omega) | simp) (fun j hj => (own_lt (World.ownsRow.drew ((OwnI.empty w7).later (below1 _ (.cells #[.int .i64 (Ky.nth k i)] 3)))) hj).1))
          have s8 := (unhide G8).size
          have n8 : w8.heap[w7.heap.size + 1]? = some (.cells #[.int .i64 (Ky.nth k i)] 3 (0, 0)) := (hgrow8.block _ (by exact heapLt n7) (by intro e; have e' : some (w7.heap.size + 1) = some w7.heap.size := e; injection e' with e'; omega)).trans n7
          clear hown8 hgrow8 n7
          change K (Act.put _ (some 56) _) _
          refine hK.out _ _ ?_ (fun hHeldN => ?_)
          · exact ((unhide G8).cell hbk7).trans c7
          clear hHeld
          have hHeld := hHeldN
          clear hHeldN
          clear hK K
          try simp only [Act.put, List.setIfInBounds_toArray, List.set_cons_zero, List.set_cons_succ]
          refine wpAnyH_ready (rs := [8]) (by kernel_rfl) (by simp) ?_
          refine AllReadyH.cons rfl (fun K hK => ?_) AllReadyH.nil
          rw [if_pos (by rfl)]
          refine wp_append_own _ _ _ 23 rfl w7.heap.size 3 i0 (.int .i64 0) 1 8 Try.underlying23 hi0 hz0 hz1 hz2 rfl (by decide) _ k.length (k.map (Value.int .i64)) rfl (unhide O8) ⟨w7.heap.size + 1, 0, none⟩ 1 1 [.int .i64 (Ky.nth k i)] rfl rfl (one_cell (n8)) (ints_oneCell .i64 [Ky.nth k i]) (by unfold maxLen; omega) (by omega) (by first | omega | (simp; omega) | simp) ?_
          intro v9 w9 hown9 hgrow9 hnil9
          clear hnil9
          have O9 := hide (twice_own hown9)
          have G9 := hide ((unhide G8).grown hgrow9 (by first | omega | (simp; omega) | simp) (fun j hj => (own_lt (unhide O8) hj).1))
          clear hown9 hgrow9
          change K (Act.put _ (some 62) _) _
          refine hK.out _ _ ?_ (fun hHeldN => ?_)
          · exact ((unhide G9).cell hbk7).trans c7
          clear hHeld
          have hHeld := hHeldN
          clear hHeldN
          clear hK K
          try simp only [Act.put, List.setIfInBounds_toArray, List.set_cons_zero, List.set_cons_succ]
          refine anyH_at (i := 9) (d := some 9) rfl rfl (by kernel_rfl) (by kernel_rfl) (by kernel_rfl) (fun _ _ _ h => h) (by rfl) (v := ?_) ?_ (by assumption) ?_
          rotate_left
          · (intro w hSw; (try dsimp only at hSw); go_simp <;> with_reducible rfl)
          simp only [Act.put, List.setIfInBounds_toArray, List.set_cons_zero, List.set_cons_succ]
          refine wpAnyH_done (by kernel_rfl) ?_ _
          clear hHeld
          have I9 := hide ((unhide O9).ins (by rw [List.length_append]; simp; omega))
          have L9 := hide ((unhide L7).later (unhide G9))
          have B9 := hide ((unhide B7).trans ((unhide G9).mono (unhide B7).size))
          clear O9 G9 L7 B7
          go_wp2_with fail
          refine (implKeysOk_b _ _ (Ky.without k i) (unhide E1) (unhide L9)).mono ?_
          rintro e wA ⟨rfl, bA⟩
          have IA := hide ((unhide I9).later bA)
          have BA := hide ((unhide B9).trans (bA.mono (unhide B9).size))
          clear I9 L9 B9 bA
          go_wp2_with fail
          refine (implKeysOk_b _ _ (k ++ [Ky.nth k i]) (unhide E2) (unhide IA)).mono ?_
          rintro e wB ⟨rfl, bB⟩
          have BB := hide ((unhide BA).trans (bB.mono (unhide BA).size))
          clear IA BA bB
          go_wp2
          go_ret
          exact ⟨rfl, unhide BB⟩
      · go_simp
        refine hK.out _ _ ?_ (fun hHeldN => ?_)
        · exact (((below1 w7 (.cells #[.int .i64 (Ky.nth k i)] 3)).drew).cell hbk7).trans c7
        clear hHeld
        have hHeld := hHeldN
        clear hHeldN
        clear hK K
        try simp only [Act.put, List.setIfInBounds_toArray, List.set_cons_zero, List.set_cons_succ]
        refine wpAnyH_ready (rs := [0]) (by kernel_rfl) (by simp) ?_
        refine AllReadyH.cons rfl (fun K hK => ?_) AllReadyH.nil
        go_simp
        refine hK.out _ _ ?_ (fun hHeldN => ?_)
        · exact (((below2 w7 (.cells #[.int .i64 (Ky.nth k i)] 3) (.cells #[] 3)).drew).cell hbk7).trans c7
        clear hHeld
        have hHeld := hHeldN
        clear hHeldN
        clear hK K
        try simp only [Act.put, List.setIfInBounds_toArray, List.set_cons_zero, List.set_cons_succ]
        refine wpAnyH_ready (rs := [2]) (by kernel_rfl) (by simp) ?_
        refine AllReadyH.cons rfl (fun K hK => ?_) AllReadyH.nil
        rw [if_pos (by rfl)]
        have n7 : ((w7.alloc (.cells #[.int .i64 (Ky.nth k i)] 3)).alloc (.cells #[] 3)).heap[w7.heap.size]? = some (.cells #[.int .i64 (Ky.nth k i)] 3 (0, 0)) := by
          rw [Below.heap_alloc _ _ _ (by rw [sz1']; omega)]
          exact heap_alloc_new _ _
        refine wp_append_own _ _ _ 23 rfl w7.heap.size 3 i0 (.int .i64 0) 1 8 Try.underlying23 hi0 hz0 hz1 hz2 rfl (by decide) _ 0 [] rfl (World.ownsRow.drew (own_empty2 w7 (.cells #[.int .i64 (Ky.nth k i)] 3))) ⟨bk, ok, none⟩ k.length ck (k.map (Value.int .i64)) rfl (by simp) (news_all (unhide HC7) ((below2 w7 (.cells #[.int .i64 (Ky.nth k i)] 3) (.cells #[] 3)).drew) hbk7) (ints_oneCell .i64 k) (by unfold maxLen; omega) (by omega) (by first | omega | (simp; omega) | simp) ?_
        intro v8 w8 hown8 hgrow8 hnil8
        clear hnil8
        have O8 := hide (all_own' hown8)
        have G8 := hide (((below2 w7 (.cells #[.int .i64 (Ky.nth k i)] 3) (.cells #[] 3)).drew).grown hgrow8 (by first | omega | (simp; omega) | simp) (fun j hj => (own_lt (World.ownsRow.drew (own_empty2 w7 (.cells #[.int .i64 (Ky.nth k i)] 3))) hj).1))
        have s8 := (unhide G8).size
        have n8 : w8.heap[w7.heap.size]? = some (.cells #[.int .i64 (Ky.nth k i)] 3 (0, 0)) := (hgrow8.block _ (by exact heapLt n7) (by intro e; have e' : some w7.heap.size = some (w7.heap.size + 1) := e; injection e' with e'; omega)).trans n7
        clear hown8 hgrow8 n7
        change K (Act.put _ (some 56) _) _
        refine hK.out _ _ ?_ (fun hHeldN => ?_)
        · exact ((unhide G8).cell hbk7).trans c7
        clear hHeld
        have hHeld := hHeldN
        clear hHeldN
        clear hK K
        try simp only [Act.put, List.setIfInBounds_toArray, List.set_cons_zero, List.set_cons_succ]
        refine wpAnyH_ready (rs := [8]) (by kernel_rfl) (by simp) ?_
        refine AllReadyH.cons rfl (fun K hK => ?_) AllReadyH.nil
        rw [if_pos (by rfl)]
        refine wp_append_own _ _ _ 23 rfl w7.heap.size 3 i0 (.int .i64 0) 1 8 Try.underlying23 hi0 hz0 hz1 hz2 rfl (by decide) _ k.length (k.map (Value.int .i64)) rfl (unhide O8) ⟨w7.heap.size, 0, none⟩ 1 1 [.int .i64 (Ky.nth k i)] rfl rfl (one_cell (n8)) (ints_oneCell .i64 [Ky.nth k i]) (by unfold maxLen; omega) (by omega) (by first | omega | (simp; omega) | simp) ?_
        intro v9 w9 hown9 hgrow9 hnil9
        clear hnil9
        have O9 := hide (twice_own hown9)
        have G9 := hide ((unhide G8).grown hgrow9 (by first | omega | (simp; omega) | simp) (fun j hj => (own_lt (unhide O8) hj).1))
        clear hown9 hgrow9
        change K (Act.put _ (some 62) _) _
        refine hK.out _ _ ?_ (fun hHeldN => ?_)
        · exact ((unhide G9).cell hbk7).trans c7
        clear hHeld
        have hHeld := hHeldN
        clear hHeldN
        clear hK K
        try simp only [Act.put, List.setIfInBounds_toArray, List.set_cons_zero, List.set_cons_succ]
        refine anyH_at (i := 9) (d := some 9) rfl rfl (by kernel_rfl) (by kernel_rfl) (by kernel_rfl) (fun _ _ _ h => h) (by rfl) (v := ?_) ?_ (by assumption) ?_
        rotate_left
        · (intro w hSw; (try dsimp only at hSw); go_simp <;> with_reducible rfl)
        simp only [Act.put, List.setIfInBounds_toArray, List.set_cons_zero, List.set_cons_succ]
        refine wpAnyH_done (by kernel_rfl) ?_ _
        clear hHeld
        have I9 := hide ((unhide O9).ins (by rw [List.length_append]; simp; omega))
        have L9 := hide ((unhide L7).later (unhide G9))
        have B9 := hide ((unhide B7).trans ((unhide G9).mono (unhide B7).size))
        clear O9 G9 L7 B7
        go_wp2_with fail
        refine (implKeysOk_b _ _ (Ky.without k i) (unhide E1) (unhide L9)).mono ?_
        rintro e wA ⟨rfl, bA⟩
        have IA := hide ((unhide I9).later bA)
        have BA := hide ((unhide B9).trans (bA.mono (unhide B9).size))
        clear I9 L9 B9 bA
        go_wp2_with fail
        refine (implKeysOk_b _ _ (k ++ [Ky.nth k i]) (unhide E2) (unhide IA)).mono ?_
        rintro e wB ⟨rfl, bB⟩
        have BB := hide ((unhide BA).trans (bB.mono (unhide BA).size))
        clear IA BA bB
        go_wp2
        go_ret
        exact ⟨rfl, unhide BB⟩
end Go.Proofs.Ytneaceieaafjdaa
