/- The walk of FnRootLess: it returns true and leaves what was there; for every two rows of bytes. -/
import Derived.Test.YtneaceieaafjdaaKeysDrawW
import Derived.Test.YtneaceieaafjdaaKeyMath2
import Derived.Test.YtneaceieaafjdaaGrowW
import Derived.Test.YtneaceieaafjdaaSkipW
namespace Go.Proofs.Ytneaceieaafjdaa
open Go.RowKit

attribute [local go_sem ↓] Go.wp_at_zero Go.wp_at_succ

theorem Ins.spotL {w : World} {a : Option Addr} {n c : Nat} {k : List Int} (h : Ins w (.slice a n c) k) (hn : 0 < n) : ∃ b off, a = some ⟨b, off, none⟩ ∧ b < w.heap.size ∧ ∀ i, i < n → w.cell? ⟨b, off + i, none⟩ = some (.int .i64 (Ky.nth k i)) := by
  obtain ⟨a', c', hv, hl, hr⟩ := h
  injection hv with e1 e2 e3
  subst e1 e2 e3
  obtain ⟨b, off, ha, hb, hc⟩ := hr hn
  exact ⟨b, off, ha, hb, hc⟩

theorem addI (b off i : Nat) : (⟨b, off, none⟩ : Addr).add i = ⟨b, off + i, none⟩ := by unfold Addr.add; split <;> simp_all
/-- What an append reads of keys: the first ones, the last ones. -/
theorem news_take {w w' : World} {b off n m i : Nat} {k : List Int} (hc : ∀ i, i < n → w.cell? ⟨b, off + i, none⟩ = some (.int .i64 (Ky.nth k i))) (hi : i ≤ n) (hb : Below m w w') (hbm : b < m) : ∀ j u, ((k.take i).map (Value.int .i64))[j]? = some u → w'.cell? ((⟨b, off, none⟩ : Addr).add j) = some u := by
  intro j u hu
  have hj : j < ((k.take i).map (Value.int .i64)).length := (List.getElem?_eq_some_iff.1 hu).1
  rw [List.length_map, List.length_take] at hj
  rw [addI, hb.cell hbm, hc j (by omega), ← hu, List.getElem?_map, List.getElem?_take_of_lt (by omega), List.getElem?_eq_getElem (by omega), Ky.nth_get k j (by omega)]
  rfl
theorem news_drop {w w' : World} {b off m i : Nat} {k : List Int} (hc : ∀ i, i < k.length → w.cell? ⟨b, off + i, none⟩ = some (.int .i64 (Ky.nth k i))) (hb : Below m w w') (hbm : b < m) : ∀ j u, ((k.drop i).map (Value.int .i64))[j]? = some u → w'.cell? ((⟨b, off + i, none⟩ : Addr).add j) = some u := by
  intro j u hu
  have hj : j < ((k.drop i).map (Value.int .i64)).length := (List.getElem?_eq_some_iff.1 hu).1
  rw [List.length_map, List.length_drop] at hj
  rw [addI, hb.cell hbm, Nat.add_assoc, hc (i + j) (by omega), ← hu, List.getElem?_map, List.getElem?_drop, List.getElem?_eq_getElem (by omega), Ky.nth_get k (i + j) (by omega)]
  rfl
theorem Bx.raw' {w : World} {g : Nat} {n d : Int} {v : Value} {k : List Int} {t : TypeId} (h : w.heap[g]? = some (.cells #[.int .i64 n, v, .int .i64 d] t (0, 0))) (hi : Ins w v k) : Bx w g n d v k :=
  ⟨heapLt h, cellOf h 0, cellOf h 1, cellOf h 2, hi⟩
theorem two_need {w : World} {n d1 d2 : Int} {v : Value} {k : List Int} (h : Ins w v k) (t : TypeId) :
    Bx ((w.alloc (.cells #[.int .i64 n, v, .int .i64 d1] t)).alloc (.cells #[.int .i64 n, v, .int .i64 d2] t)) w.heap.size n d1 v k ∧ Bx ((w.alloc (.cells #[.int .i64 n, v, .int .i64 d1] t)).alloc (.cells #[.int .i64 n, v, .int .i64 d2] t)) (w.heap.size + 1) n d2 v k ∧ Below w.heap.size w ((w.alloc (.cells #[.int .i64 n, v, .int .i64 d1] t)).alloc (.cells #[.int .i64 n, v, .int .i64 d2] t)) := by
  have B1 := below1 w (.cells #[.int .i64 n, v, .int .i64 d1] t)
  have X1 := Bx.new (n := n) (d := d1) h t
  generalize hW : w.alloc (.cells #[.int .i64 n, v, .int .i64 d1] t) = W at *
  have hz : W.heap.size = w.heap.size + 1 := by rw [← hW]; simp
  have B2 := below1 W (.cells #[.int .i64 n, v, .int .i64 d2] t)
  refine ⟨X1.later B2, ?_, B1.trans (B2.mono B1.size)⟩
  rw [← hz]
  exact Bx.new (h.later B1) t
theorem less_own {B : Nat} {w : World} {v : Value} {k : List Int} {i : Nat} (h : w.ownsRow B 3 1 v (0 + i) ([] ++ (k.take i).map (Value.int .i64))) (hi : i ≤ k.length) : OwnI B w v (k.take i) := by
  unfold OwnI
  rw [List.length_take, Nat.min_eq_left hi, ← Nat.zero_add i]
  simpa using h
theorem without_own {B : Nat} {w : World} {v : Value} {k : List Int} {i m : Nat} (h : w.ownsRow B 3 1 v ((k.take i).length + m) ((k.take i).map (Value.int .i64) ++ (k.drop (i + 1)).map (Value.int .i64))) (hm : m = (k.drop (i + 1)).length) : OwnI B w v (Ky.without k i) := by
  unfold OwnI Ky.without
  rw [List.length_append, List.map_append, ← hm]
  exact h

set_option maxHeartbeats 2000000 in
set_option linter.unusedSimpArgs false in
theorem rootLess_walk (w : World) (a : Option Addr) (len cap : Nat) (a1 : Option Addr) (len1 cap1 : Nat) (h : Bytes w a len cap) (_h1 : Bytes w a1 len1 cap1) :
    Calls Try.prog 10 #[.slice a len cap, .slice a1 len1 cap1] w fun e w' => e = .returned (.bool true) ∧ Below w.heap.size w w' := by
  obtain ⟨i0, hi0, hz0, hz1, hz2⟩ := info_parts infoI
  by_cases hs : len ≤ 1048576
  case neg =>
    have hs' : (1048576 : Int) < (len : Int) := by omega
    go_enter Try.func10, Try.ntmps10
    go_wp2
    go_ret
    exact ⟨rfl, Below.refl _ _⟩
  by_cases ht : len1 ≤ 1048576
  case neg =>
    have hs' : (len : Int) ≤ 1048576 := by omega
    have ht' : (1048576 : Int) < (len1 : Int) := by omega
    go_enter Try.func10, Try.ntmps10
    go_wp2
    go_ret
    exact ⟨rfl, Below.refl _ _⟩
  have hs' : (len : Int) ≤ 1048576 := by omega
  have ht' : (len1 : Int) ≤ 1048576 := by omega
  go_enter Try.func10, Try.ntmps10
  go_wp2_with fail
  refine (drawRootOk_any w a len cap h).mono ?_
  rintro e w1 ⟨n, d, v, k, rfl, hl, hcap, ik, b1⟩
  obtain ⟨ak, ck, hv, hc1, hc2⟩ := hcap
  subst hv
  have X2 := hide (Bx.new (n := n) (d := d) ik 32)
  have b2 := below1 w1 (.cells #[.int .i64 n, .slice ak k.length ck, .int .i64 d] 32)
  have B2 := hide (b1.trans (b2.mono b1.size))
  clear ik b1 b2 h _h1
  go_wp2_with fail
  refine (implRootOk_any _ n d _ k (unhide X2).ins).mono ?_
  generalize w1.alloc _ = W2 at *
  rintro e w3 ⟨rfl, b3⟩
  have X3 := hide ((unhide X2).later b3)
  have B3 := hide ((unhide B2).trans (b3.mono (unhide B2).size))
  clear X2 B2 b3
  clear W2
  generalize w1.heap.size = g at *
  obtain ⟨p0, p1, p2⟩ := (unhide X3).cells
  go_wp2_with fail
  refine (specRootOk_any _ n d _ k (unhide X3).ins).mono ?_
  rintro e w4 ⟨rfl, b4⟩
  have X4 := hide ((unhide X3).later b4)
  have B4 := hide ((unhide B3).trans (b4.mono (unhide B3).size))
  clear X3 B3 b4 p0 p1 p2
  obtain ⟨p0, p1, p2⟩ := (unhide X4).cells
  cases hA : Ky.rootOk n k d
  · go_wp2_with fail
    refine (specRootOk_b _ n d _ k hA (unhide X4).ins).mono ?_
    rintro e w5 ⟨rfl, b5⟩
    have B5 := hide ((unhide B4).trans (b5.mono (unhide B4).size))
    clear X4 B4 b5 p0 p1 p2
    go_wp2
    go_ret
    exact ⟨rfl, unhide B5⟩
  · obtain ⟨⟨n0, n1⟩, hk, d0, d1⟩ := Ky.rootOk_get hA
    obtain ⟨bk, ok, hak, hbk, hcells⟩ := (unhide X4).ins.spotL (by omega)
    subst hak
    have HC := hide hcells
    clear hcells
    obtain ⟨i, hi, hrem⟩ : ∃ i : Nat, i < k.length ∧ (len1 : Int) % (k.length : Int) = (i : Int) := ⟨len1 % k.length, Nat.mod_lt _ (by omega), by simp⟩
    have hkz : ((k.length : Int) == 0) = false := by rw [beq_eq_false_iff_ne]; omega
    have hkz' : ¬ (k.length : Int) = 0 := by omega
    have l0 : g < w4.heap.size := (unhide X4).lt
    -- the row without a key
    have hi0' : (0 : Int) ≤ (i : Int) := by omega
    have hi1 : (i : Int) ≤ (ck : Int) := by omega
    have hi2 : (0 : Int) ≤ (i : Int) + 1 := by omega
    have hi3 : (i : Int) + 1 ≤ (k.length : Int) := by omega
    have hck : ¬ ck = 0 := by omega
    have hii : (i : Int) ≤ (i : Int) + 1 := by omega
    have ew : IntKind.i64.wrap ((i : Int) + 1) = (i : Int) + 1 := by simp [IntKind.wrap, IntKind.bits, IntKind.signed]; omega
    have et : ((i : Int) + 1).toNat = i + 1 := by omega
    have hgx : g < w4.heap.size := l0
    by_cases hce : ck = i + 1
    · have HCE := hide hce
      clear hce
      go_wp2_with fail
      simp only [hrem]
      clear hrem hkz hkz'
      have x5 := heap_alloc_new w4 (.cells #[.int .i64 n, .slice (some ⟨bk, ok, none⟩) k.length ck, .int .i64 d] 32)
      have b5 := below1 w4 (.cells #[.int .i64 n, .slice (some ⟨bk, ok, none⟩) k.length ck, .int .i64 d] 32)
      have X5 := hide ((unhide X4).later b5)
      have HX5 := hide x5
      have H4 := hide (fun (w' : World) (hb : Below w4.heap.size w4 w') => (unhide X4).later hb)
      have G5 := hide b5
      have hb4 := (unhide B4).size
      clear b5 x5 X4 p0 p1 p2 HC
      generalize w4.alloc _ = W5 at *
      generalize w4.heap.size = gx at *
      obtain ⟨p0, p1, p2⟩ := (unhide X5).cells
      have lx := heapLt (unhide HX5)
      obtain ⟨_, _, hab, hbk5, hc5⟩ := (unhide X5).ins.spotL (by omega)
      injection hab with hab
      injection hab with hab1 hab2 _
      subst hab1 hab2
      have HC5 := hide hc5
      clear hc5
      refine wp_region_held_drew (S := (fun w' => w'.cell? ⟨g, 0, none⟩ = some (.int .i64 n) ∧ w'.cell? ⟨g, 1, none⟩ = some (.slice (some ⟨bk, ok, none⟩) k.length ck) ∧ w'.cell? ⟨g, 2, none⟩ = some (.int .i64 d))) (by kernel_rfl) ?_ (fun hHeld => ?_)
      · exact ⟨p0, p1, p2⟩
      refine anyH_at (i := 1) (d := some 43) rfl rfl (by kernel_rfl) (by kernel_rfl) (by kernel_rfl) (fun _ _ _ h => h) (by rfl) (v := ?_) ?_ (by assumption) ?_
      rotate_left
      · (intro w hSw; (try dsimp only at hSw); go_simp <;> with_reducible rfl)
      simp only [Act.put, List.setIfInBounds_toArray, List.set_cons_zero, List.set_cons_succ]
      refine anyH_at (i := 2) (d := some 44) rfl rfl (by kernel_rfl) (by kernel_rfl) (by kernel_rfl) (fun _ _ _ h => h) (by rfl) (v := ?_) ?_ (by assumption) ?_
      rotate_left
      · (intro w hSw; (try dsimp only at hSw); go_simp <;> with_reducible rfl)
      simp only [Act.put, List.setIfInBounds_toArray, List.set_cons_zero, List.set_cons_succ]
      refine anyH_at (i := 3) (d := some 45) rfl rfl (by kernel_rfl) (by kernel_rfl) (by kernel_rfl) (fun _ _ _ h => h) (by rfl) (v := ?_) ?_ (by assumption) ?_
      rotate_left
      · (intro w hSw; (try dsimp only at hSw); go_simp <;> with_reducible rfl)
      simp only [Act.put, List.setIfInBounds_toArray, List.set_cons_zero, List.set_cons_succ]
      refine anyH_at (i := 4) (d := some 46) rfl rfl (by kernel_rfl) (by kernel_rfl) (by kernel_rfl) (fun _ _ _ h => h) (by rfl) (v := ?_) ?_ (by assumption) ?_
      rotate_left
      · (intro w hSw; (try dsimp only at hSw); go_simp <;> with_reducible rfl)
      simp only [Act.put, List.setIfInBounds_toArray, List.set_cons_zero, List.set_cons_succ]
      refine anyH_at (i := 6) (d := some 48) rfl rfl (by kernel_rfl) (by kernel_rfl) (by kernel_rfl) (fun _ _ _ h => h) (by rfl) (v := ?_) ?_ (by assumption) ?_
      rotate_left
      · (intro w hSw; (try dsimp only at hSw); go_simp <;> with_reducible rfl)
      simp only [Act.put, List.setIfInBounds_toArray, List.set_cons_zero, List.set_cons_succ]
      refine anyH_at (i := 7) (d := some 49) rfl rfl (by kernel_rfl) (by kernel_rfl) (by kernel_rfl) (fun _ _ _ h => h) (by rfl) (v := ?_) ?_ (by assumption) ?_
      rotate_left
      · (intro w hSw; (try dsimp only at hSw); go_simp <;> with_reducible rfl)
      simp only [Act.put, List.setIfInBounds_toArray, List.set_cons_zero, List.set_cons_succ]
      refine anyH_at (i := 8) (d := some 50) rfl rfl (by kernel_rfl) (by kernel_rfl) (by kernel_rfl) (fun _ _ _ h => h) (by rfl) (v := ?_) ?_ (by assumption) ?_
      rotate_left
      · (intro w hSw; (try dsimp only at hSw); go_simp <;> with_reducible rfl)
      simp only [Act.put, List.setIfInBounds_toArray, List.set_cons_zero, List.set_cons_succ]
      refine anyH_at (i := 9) (d := some 51) rfl rfl (by kernel_rfl) (by kernel_rfl) (by kernel_rfl) (fun _ _ _ h => h) (by rfl) (v := ?_) ?_ (by assumption) ?_
      rotate_left
      · (intro w hSw; (try dsimp only at hSw); go_simp <;> with_reducible rfl)
      simp only [Act.put, List.setIfInBounds_toArray, List.set_cons_zero, List.set_cons_succ]
      refine anyH_at (i := 10) (d := some 52) rfl rfl (by kernel_rfl) (by kernel_rfl) (by kernel_rfl) (fun _ _ _ h => h) (by rfl) (v := ?_) ?_ (by assumption) ?_
      rotate_left
      · (intro w hSw; (try dsimp only at hSw); have hce := unhide HCE; go_simp <;> with_reducible rfl)
      simp only [Act.put, List.setIfInBounds_toArray, List.set_cons_zero, List.set_cons_succ]
      refine wpAnyH_ready (rs := [0]) (by kernel_rfl) (by simp) ?_
      refine AllReadyH.cons rfl (fun K hK => ?_) AllReadyH.nil
      go_simp
      refine hK.out _ _ ?_ (fun hHeldN => ?_)
      · exact ((unhide X5).later (below1 W5 (.cells #[] 3))).drew.cells
      clear hHeld
      have hHeld := hHeldN
      clear hHeldN
      clear hK K
      try simp only [Act.put, List.setIfInBounds_toArray, List.set_cons_zero, List.set_cons_succ]
      refine wpAnyH_ready (rs := [5]) (by kernel_rfl) (by simp) ?_
      refine AllReadyH.cons rfl (fun K hK => ?_) AllReadyH.nil
      rw [if_pos (by rfl)]
      have b6 := (below1 W5 (.cells #[] 3)).drew
      refine wp_append_own _ _ _ 23 rfl W5.heap.size 3 i0 (.int .i64 0) 1 8 Try.underlying23 hi0 hz0 hz1 hz2 rfl (by decide) _ 0 [] rfl (World.ownsRow.drew (OwnI.empty W5)) ⟨bk, ok, none⟩ i ck ((k.take i).map (Value.int .i64)) rfl (by simp; omega) (news_take (unhide HC5) (by omega) b6 hbk5) (ints_oneCell .i64 (k.take i)) (by unfold maxLen; omega) (by omega) (by simp) ?_
      intro v6 w6 hown6 hgrow6 hnil6
      clear hnil6
      have O6 := hide (less_own hown6 (by omega))
      have G6 := hide (b6.grown hgrow6 (by simp) (fun j hj => (own_lt (OwnI.empty W5) hj).1))
      have s6 := (unhide G6).size
      have X6 := hide ((unhide X5).later (unhide G6))
      clear hown6 hgrow6 b6
      refine hK.out _ _ ?_ (fun hHeldN => ?_)
      · exact (unhide X6).cells
      clear hHeld
      have hHeld := hHeldN
      clear hHeldN
      clear hK K
      try simp only [Act.put, List.setIfInBounds_toArray, List.set_cons_zero, List.set_cons_succ]
      refine wpAnyH_ready (rs := [11]) (by kernel_rfl) (by simp) ?_
      refine AllReadyH.cons rfl (fun K hK => ?_) AllReadyH.nil
      rw [if_pos (by rfl)]
      refine wp_append_own _ _ _ 23 rfl W5.heap.size 3 i0 (.int .i64 0) 1 8 Try.underlying23 hi0 hz0 hz1 hz2 rfl (by decide) _ (k.take i).length ((k.take i).map (Value.int .i64)) rfl (unhide O6) ⟨bk, ok, none⟩ _ _ ((k.drop (i + 1)).map (Value.int .i64)) rfl (by have hce := unhide HCE; simp only [List.length_map, List.length_drop, Nat.mul_one] <;> omega) (fun j u hu => by have hce := unhide HCE; rw [List.getElem?_eq_none (by simp; omega)] at hu; cases hu) (ints_oneCell .i64 (k.drop (i + 1))) (by simp; unfold maxLen; omega) (by simp; omega) (by omega) ?_
      intro v7 w7 hown7 hgrow7 hnil7
      clear hnil7
      have O7 := hide (without_own hown7 (by have hce := unhide HCE; simp only [List.length_drop] <;> omega))
      have G7 := hide ((unhide G6).grown hgrow7 s6 (fun j hj => (own_lt (unhide O6) hj).1))
      have X7 := hide ((unhide X5).later (unhide G7))
      have HX7 := hide (((unhide G7).block _ lx).trans (unhide HX5))
      clear hown7 hgrow7 O6
      refine hK.out _ _ ?_ (fun hHeldN => ?_)
      · exact (unhide X7).cells
      obtain ⟨y0, y1, y2, f0, f1, f2⟩ := root_box6 (unhide HX7)
      obtain ⟨a7, c7, hv7⟩ := (unhide O7).form
      subst hv7
      have ngx : ¬ gx = g := by have := (unhide X5).lt; have := hgx; omega
      clear hHeld
      have hHeld := hHeldN
      clear hHeldN
      clear hK K
      try simp only [Act.put, List.setIfInBounds_toArray, List.set_cons_zero, List.set_cons_succ]
      refine anyH_at (i := 12) (d := some 54) rfl rfl (by kernel_rfl) (by kernel_rfl) (by kernel_rfl) (fun _ _ _ h => h) (by rfl) (v := ?_) ?_ (by assumption) ?_
      rotate_left
      · (intro w hSw; (try dsimp only at hSw); go_simp <;> with_reducible rfl)
      simp only [Act.put, List.setIfInBounds_toArray, List.set_cons_zero, List.set_cons_succ]
      refine wpAnyH_ready (rs := [13]) (by kernel_rfl) (by simp) ?_
      refine AllReadyH.cons rfl (fun K hK => ?_) AllReadyH.nil
      go_simp
      refine hK.out _ _ ?_ (fun hHeldN => ?_)
      · exact ⟨(World.cell?_setCell_other _ _ _ _ (fun e => ngx (by injection e with e _ _))).trans (unhide X7).c0, (World.cell?_setCell_other _ _ _ _ (fun e => ngx (by injection e with e _ _))).trans (unhide X7).c1, (World.cell?_setCell_other _ _ _ _ (fun e => ngx (by injection e with e _ _))).trans (unhide X7).c2⟩
      clear hHeld
      have hHeld := hHeldN
      clear hHeldN
      clear hK K
      try simp only [Act.put, List.setIfInBounds_toArray, List.set_cons_zero, List.set_cons_succ]
      refine wpAnyH_done (by kernel_rfl) ?_ _
      clear hHeld
      have hX8 : (w7.setCell ⟨gx, 1, none⟩ (.slice a7 (Ky.without k i).length c7)).heap[gx]? = some (.cells #[.int .i64 n, .slice a7 (Ky.without k i).length c7, .int .i64 d] 32 (0, 0)) := heapSet (unhide HX7)
      have O8 := hide ((unhide O7).keep (w' := w7.setCell ⟨gx, 1, none⟩ (.slice a7 (Ky.without k i).length c7)) (fun j _ _ hj _ => Below.heap_setCell _ _ _ _ (by show j ≠ gx; omega)))
      have G8 := hide (((unhide G5).trans ((unhide G7).mono (Nat.le_of_lt lx))).setCell (p := ⟨gx, 1, none⟩) (Nat.le_refl _) (.slice a7 (Ky.without k i).length c7))
      have lx8 : gx < (w7.setCell ⟨gx, 1, none⟩ (.slice a7 (Ky.without k i).length c7)).heap.size := heapLt hX8
      have wl := Nat.le_of_eq (Ky.without_len hi)
      have Y8 := hide (Bx.raw' hX8 ((unhide O8).ins (by omega)))
      clear hX8 O8 O7 G7 HX7 X7 y0 y1 y2 f0 f1 f2 X5 X6 G6 G5 HX5 HC5 p0 p1 p2
      generalize w7.setCell _ _ = w8 at *
      have X8 := hide ((unhide H4) _ (unhide G8))
      obtain ⟨p0, p1, p2⟩ := (unhide X8).cells
      obtain ⟨y0, y1, y2⟩ := (unhide Y8).cells
      have l8 := (unhide X8).lt
      have hwl : (Ky.without k i).length ≤ 7 := by omega
      have T9 := hide (two_need (n := n) (d1 := 1) (d2 := 0) (unhide X8).ins 32)
      have X9 := hide ((unhide X8).later (unhide T9).2.2)
      have Y9 := hide ((unhide Y8).later (unhide T9).2.2)
      have G9 := hide ((unhide G8).trans ((unhide T9).2.2.mono (Nat.le_of_lt lx8)))
      have E1 := hide (Ky.root_less hA hi)
      have E2 := hide (Ky.root_one hA)
      have E3 := hide (Ky.root_zero n k)
      have heq : (decide (d < (k.length : Int)) == decide (d < (k.length : Int))) = true := by simp
      go_wp2_with fail
      generalize (w8.alloc _).alloc _ = W9 at *
      have U9 := hide (unhide T9).1
      have Z9 := hide (unhide T9).2.1
      clear T9 X8 Y8 p0 p1 p2 y0 y1 y2 G8 l8 lx8
      generalize w8.heap.size = gy at *
      obtain ⟨p0, p1, p2⟩ := (unhide X9).cells
      obtain ⟨y0, y1, y2⟩ := (unhide Y9).cells
      obtain ⟨u0, u1, u2⟩ := (unhide U9).cells
      obtain ⟨v0, v1, v2⟩ := (unhide Z9).cells
      generalize hZ : decide (d < (k.length : Int)) = z at *
      go_region_held3 (fun w' => (w'.cell? ⟨g, 0, none⟩ = some (.int .i64 n) ∧ w'.cell? ⟨g, 1, none⟩ = some (.slice (some ⟨bk, ok, none⟩) k.length ck) ∧ w'.cell? ⟨g, 2, none⟩ = some (.int .i64 d)) ∧ (w'.cell? ⟨gx, 0, none⟩ = some (.int .i64 n) ∧ w'.cell? ⟨gx, 1, none⟩ = some (.slice a7 (Ky.without k i).length c7) ∧ w'.cell? ⟨gx, 2, none⟩ = some (.int .i64 d)) ∧ (w'.cell? ⟨gy, 0, none⟩ = some (.int .i64 n) ∧ w'.cell? ⟨gy, 1, none⟩ = some (.slice (some ⟨bk, ok, none⟩) k.length ck) ∧ w'.cell? ⟨gy, 2, none⟩ = some (.int .i64 1)) ∧ (w'.cell? ⟨gy + 1, 0, none⟩ = some (.int .i64 n) ∧ w'.cell? ⟨gy + 1, 1, none⟩ = some (.slice (some ⟨bk, ok, none⟩) k.length ck) ∧ w'.cell? ⟨gy + 1, 2, none⟩ = some (.int .i64 0)))
        (first
          | (go_keep; done)
          | exact ⟨(unhide XC).cells, (unhide YC).cells, (unhide UC).cells, (unhide ZC).cells⟩
          | exact ⟨(unhide XB).cells, (unhide YB).cells, (unhide UB).cells, (unhide ZB).cells⟩
          | exact ⟨(unhide XA).cells, (unhide YA).cells, (unhide UA).cells, (unhide ZA).cells⟩
          | fail)
        (first
          | (go_at_call_of 25 (Value.agg #[.int .i64 n, .slice a7 (Ky.without k i).length c7, .int .i64 d]); refine (implRootOk_b _ n d _ (Ky.without k i) (unhide E1) (by exact (unhide Y9).drew.ins)).mono ?_; rintro e wA ⟨rfl, bA⟩; have XA := hide ((unhide X9).drew.later bA); have YA := hide ((unhide Y9).drew.later bA); have UA := hide ((unhide U9).drew.later bA); have ZA := hide ((unhide Z9).drew.later bA))
          | (go_at_call_of 25 (Value.agg #[.int .i64 n, .slice (some ⟨bk, ok, none⟩) k.length ck, .int .i64 1]); refine (implRootOk_b _ n 1 _ k (unhide E2) (by exact (unhide UA).ins)).mono ?_; rintro e wB ⟨rfl, bB⟩; have XB := hide ((unhide XA).later bB); have YB := hide ((unhide YA).later bB); have UB := hide ((unhide UA).later bB); have ZB := hide ((unhide ZA).later bB))
          | (go_at_call_of 25 (Value.agg #[.int .i64 n, .slice (some ⟨bk, ok, none⟩) k.length ck, .int .i64 0]); refine (implRootOk_b _ n 0 _ k (unhide E3) (by exact (unhide ZB).ins)).mono ?_; rintro e wC ⟨rfl, bC⟩; have XC := hide ((unhide XB).later bC); have YC := hide ((unhide YB).later bC); have UC := hide ((unhide UB).later bC); have ZC := hide ((unhide ZB).later bC)))
      have h9 := Nat.le_of_lt (unhide Y9).lt
      have GA := hide ((unhide G9).drew.trans (bA.mono h9))
      have GB := hide ((unhide GA).trans (bB.mono (Nat.le_of_lt (unhide YA).lt)))
      have GC := hide ((unhide GB).trans (bC.mono (Nat.le_of_lt (unhide YB).lt)))
      clear bA bB bC p0 p1 p2 y0 y1 y2 u0 u1 u2 v0 v1 v2
      go_wp2
      go_ret
      exact ⟨rfl, (unhide B4).trans ((unhide GC).mono hb4)⟩
    · have hce' : ¬ ck = i + 1 := hce
      go_wp2_with fail
      simp only [hrem]
      clear hrem hkz hkz'
      have x5 := heap_alloc_new w4 (.cells #[.int .i64 n, .slice (some ⟨bk, ok, none⟩) k.length ck, .int .i64 d] 32)
      have b5 := below1 w4 (.cells #[.int .i64 n, .slice (some ⟨bk, ok, none⟩) k.length ck, .int .i64 d] 32)
      have X5 := hide ((unhide X4).later b5)
      have HX5 := hide x5
      have H4 := hide (fun (w' : World) (hb : Below w4.heap.size w4 w') => (unhide X4).later hb)
      have G5 := hide b5
      have hb4 := (unhide B4).size
      clear b5 x5 X4 p0 p1 p2 HC
      generalize w4.alloc _ = W5 at *
      generalize w4.heap.size = gx at *
      obtain ⟨p0, p1, p2⟩ := (unhide X5).cells
      have lx := heapLt (unhide HX5)
      obtain ⟨_, _, hab, hbk5, hc5⟩ := (unhide X5).ins.spotL (by omega)
      injection hab with hab
      injection hab with hab1 hab2 _
      subst hab1 hab2
      have HC5 := hide hc5
      clear hc5
      refine wp_region_held_drew (S := (fun w' => w'.cell? ⟨g, 0, none⟩ = some (.int .i64 n) ∧ w'.cell? ⟨g, 1, none⟩ = some (.slice (some ⟨bk, ok, none⟩) k.length ck) ∧ w'.cell? ⟨g, 2, none⟩ = some (.int .i64 d))) (by kernel_rfl) ?_ (fun hHeld => ?_)
      · exact ⟨p0, p1, p2⟩
      refine anyH_at (i := 1) (d := some 43) rfl rfl (by kernel_rfl) (by kernel_rfl) (by kernel_rfl) (fun _ _ _ h => h) (by rfl) (v := ?_) ?_ (by assumption) ?_
      rotate_left
      · (intro w hSw; (try dsimp only at hSw); go_simp <;> with_reducible rfl)
      simp only [Act.put, List.setIfInBounds_toArray, List.set_cons_zero, List.set_cons_succ]
      refine anyH_at (i := 2) (d := some 44) rfl rfl (by kernel_rfl) (by kernel_rfl) (by kernel_rfl) (fun _ _ _ h => h) (by rfl) (v := ?_) ?_ (by assumption) ?_
      rotate_left
      · (intro w hSw; (try dsimp only at hSw); go_simp <;> with_reducible rfl)
      simp only [Act.put, List.setIfInBounds_toArray, List.set_cons_zero, List.set_cons_succ]
      refine anyH_at (i := 3) (d := some 45) rfl rfl (by kernel_rfl) (by kernel_rfl) (by kernel_rfl) (fun _ _ _ h => h) (by rfl) (v := ?_) ?_ (by assumption) ?_
      rotate_left
      · (intro w hSw; (try dsimp only at hSw); go_simp <;> with_reducible rfl)
      simp only [Act.put, List.setIfInBounds_toArray, List.set_cons_zero, List.set_cons_succ]
      refine anyH_at (i := 4) (d := some 46) rfl rfl (by kernel_rfl) (by kernel_rfl) (by kernel_rfl) (fun _ _ _ h => h) (by rfl) (v := ?_) ?_ (by assumption) ?_
      rotate_left
      · (intro w hSw; (try dsimp only at hSw); go_simp <;> with_reducible rfl)
      simp only [Act.put, List.setIfInBounds_toArray, List.set_cons_zero, List.set_cons_succ]
      refine anyH_at (i := 6) (d := some 48) rfl rfl (by kernel_rfl) (by kernel_rfl) (by kernel_rfl) (fun _ _ _ h => h) (by rfl) (v := ?_) ?_ (by assumption) ?_
      rotate_left
      · (intro w hSw; (try dsimp only at hSw); go_simp <;> with_reducible rfl)
      simp only [Act.put, List.setIfInBounds_toArray, List.set_cons_zero, List.set_cons_succ]
      refine anyH_at (i := 7) (d := some 49) rfl rfl (by kernel_rfl) (by kernel_rfl) (by kernel_rfl) (fun _ _ _ h => h) (by rfl) (v := ?_) ?_ (by assumption) ?_
      rotate_left
      · (intro w hSw; (try dsimp only at hSw); go_simp <;> with_reducible rfl)
      simp only [Act.put, List.setIfInBounds_toArray, List.set_cons_zero, List.set_cons_succ]
      refine anyH_at (i := 8) (d := some 50) rfl rfl (by kernel_rfl) (by kernel_rfl) (by kernel_rfl) (fun _ _ _ h => h) (by rfl) (v := ?_) ?_ (by assumption) ?_
      rotate_left
      · (intro w hSw; (try dsimp only at hSw); go_simp <;> with_reducible rfl)
      simp only [Act.put, List.setIfInBounds_toArray, List.set_cons_zero, List.set_cons_succ]
      refine anyH_at (i := 9) (d := some 51) rfl rfl (by kernel_rfl) (by kernel_rfl) (by kernel_rfl) (fun _ _ _ h => h) (by rfl) (v := ?_) ?_ (by assumption) ?_
      rotate_left
      · (intro w hSw; (try dsimp only at hSw); go_simp <;> with_reducible rfl)
      simp only [Act.put, List.setIfInBounds_toArray, List.set_cons_zero, List.set_cons_succ]
      refine anyH_at (i := 10) (d := some 52) rfl rfl (by kernel_rfl) (by kernel_rfl) (by kernel_rfl) (fun _ _ _ h => h) (by rfl) (v := ?_) ?_ (by assumption) ?_
      rotate_left
      · (intro w hSw; (try dsimp only at hSw); go_simp <;> with_reducible rfl)
      simp only [Act.put, List.setIfInBounds_toArray, List.set_cons_zero, List.set_cons_succ]
      refine wpAnyH_ready (rs := [0]) (by kernel_rfl) (by simp) ?_
      refine AllReadyH.cons rfl (fun K hK => ?_) AllReadyH.nil
      go_simp
      refine hK.out _ _ ?_ (fun hHeldN => ?_)
      · exact ((unhide X5).later (below1 W5 (.cells #[] 3))).drew.cells
      clear hHeld
      have hHeld := hHeldN
      clear hHeldN
      clear hK K
      try simp only [Act.put, List.setIfInBounds_toArray, List.set_cons_zero, List.set_cons_succ]
      refine wpAnyH_ready (rs := [5]) (by kernel_rfl) (by simp) ?_
      refine AllReadyH.cons rfl (fun K hK => ?_) AllReadyH.nil
      rw [if_pos (by rfl)]
      have b6 := (below1 W5 (.cells #[] 3)).drew
      refine wp_append_own _ _ _ 23 rfl W5.heap.size 3 i0 (.int .i64 0) 1 8 Try.underlying23 hi0 hz0 hz1 hz2 rfl (by decide) _ 0 [] rfl (World.ownsRow.drew (OwnI.empty W5)) ⟨bk, ok, none⟩ i ck ((k.take i).map (Value.int .i64)) rfl (by simp; omega) (news_take (unhide HC5) (by omega) b6 hbk5) (ints_oneCell .i64 (k.take i)) (by unfold maxLen; omega) (by omega) (by simp) ?_
      intro v6 w6 hown6 hgrow6 hnil6
      clear hnil6
      have O6 := hide (less_own hown6 (by omega))
      have G6 := hide (b6.grown hgrow6 (by simp) (fun j hj => (own_lt (OwnI.empty W5) hj).1))
      have s6 := (unhide G6).size
      have X6 := hide ((unhide X5).later (unhide G6))
      clear hown6 hgrow6 b6
      refine hK.out _ _ ?_ (fun hHeldN => ?_)
      · exact (unhide X6).cells
      clear hHeld
      have hHeld := hHeldN
      clear hHeldN
      clear hK K
      try simp only [Act.put, List.setIfInBounds_toArray, List.set_cons_zero, List.set_cons_succ]
      refine wpAnyH_ready (rs := [11]) (by kernel_rfl) (by simp) ?_
      refine AllReadyH.cons rfl (fun K hK => ?_) AllReadyH.nil
      rw [if_pos (by rfl)]
      refine wp_append_own _ _ _ 23 rfl W5.heap.size 3 i0 (.int .i64 0) 1 8 Try.underlying23 hi0 hz0 hz1 hz2 rfl (by decide) _ (k.take i).length ((k.take i).map (Value.int .i64)) rfl (unhide O6) ⟨bk, ok + (i + 1), none⟩ _ _ ((k.drop (i + 1)).map (Value.int .i64)) rfl (by simp only [List.length_map, List.length_drop, Nat.mul_one] <;> omega) (news_drop (unhide HC5) (unhide G6) hbk5) (ints_oneCell .i64 (k.drop (i + 1))) (by simp; unfold maxLen; omega) (by simp; omega) (by omega) ?_
      intro v7 w7 hown7 hgrow7 hnil7
      clear hnil7
      have O7 := hide (without_own hown7 (by simp only [List.length_drop] <;> omega))
      have G7 := hide ((unhide G6).grown hgrow7 s6 (fun j hj => (own_lt (unhide O6) hj).1))
      have X7 := hide ((unhide X5).later (unhide G7))
      have HX7 := hide (((unhide G7).block _ lx).trans (unhide HX5))
      clear hown7 hgrow7 O6
      refine hK.out _ _ ?_ (fun hHeldN => ?_)
      · exact (unhide X7).cells
      obtain ⟨y0, y1, y2, f0, f1, f2⟩ := root_box6 (unhide HX7)
      obtain ⟨a7, c7, hv7⟩ := (unhide O7).form
      subst hv7
      have ngx : ¬ gx = g := by have := (unhide X5).lt; have := hgx; omega
      clear hHeld
      have hHeld := hHeldN
      clear hHeldN
      clear hK K
      try simp only [Act.put, List.setIfInBounds_toArray, List.set_cons_zero, List.set_cons_succ]
      refine anyH_at (i := 12) (d := some 54) rfl rfl (by kernel_rfl) (by kernel_rfl) (by kernel_rfl) (fun _ _ _ h => h) (by rfl) (v := ?_) ?_ (by assumption) ?_
      rotate_left
      · (intro w hSw; (try dsimp only at hSw); go_simp <;> with_reducible rfl)
      simp only [Act.put, List.setIfInBounds_toArray, List.set_cons_zero, List.set_cons_succ]
      refine wpAnyH_ready (rs := [13]) (by kernel_rfl) (by simp) ?_
      refine AllReadyH.cons rfl (fun K hK => ?_) AllReadyH.nil
      go_simp
      refine hK.out _ _ ?_ (fun hHeldN => ?_)
      · exact ⟨(World.cell?_setCell_other _ _ _ _ (fun e => ngx (by injection e with e _ _))).trans (unhide X7).c0, (World.cell?_setCell_other _ _ _ _ (fun e => ngx (by injection e with e _ _))).trans (unhide X7).c1, (World.cell?_setCell_other _ _ _ _ (fun e => ngx (by injection e with e _ _))).trans (unhide X7).c2⟩
      clear hHeld
      have hHeld := hHeldN
      clear hHeldN
      clear hK K
      try simp only [Act.put, List.setIfInBounds_toArray, List.set_cons_zero, List.set_cons_succ]
      refine wpAnyH_done (by kernel_rfl) ?_ _
      clear hHeld
      have hX8 : (w7.setCell ⟨gx, 1, none⟩ (.slice a7 (Ky.without k i).length c7)).heap[gx]? = some (.cells #[.int .i64 n, .slice a7 (Ky.without k i).length c7, .int .i64 d] 32 (0, 0)) := heapSet (unhide HX7)
      have O8 := hide ((unhide O7).keep (w' := w7.setCell ⟨gx, 1, none⟩ (.slice a7 (Ky.without k i).length c7)) (fun j _ _ hj _ => Below.heap_setCell _ _ _ _ (by show j ≠ gx; omega)))
      have G8 := hide (((unhide G5).trans ((unhide G7).mono (Nat.le_of_lt lx))).setCell (p := ⟨gx, 1, none⟩) (Nat.le_refl _) (.slice a7 (Ky.without k i).length c7))
      have lx8 : gx < (w7.setCell ⟨gx, 1, none⟩ (.slice a7 (Ky.without k i).length c7)).heap.size := heapLt hX8
      have wl := Nat.le_of_eq (Ky.without_len hi)
      have Y8 := hide (Bx.raw' hX8 ((unhide O8).ins (by omega)))
      clear hX8 O8 O7 G7 HX7 X7 y0 y1 y2 f0 f1 f2 X5 X6 G6 G5 HX5 HC5 p0 p1 p2
      generalize w7.setCell _ _ = w8 at *
      have X8 := hide ((unhide H4) _ (unhide G8))
      obtain ⟨p0, p1, p2⟩ := (unhide X8).cells
      obtain ⟨y0, y1, y2⟩ := (unhide Y8).cells
      have l8 := (unhide X8).lt
      have hwl : (Ky.without k i).length ≤ 7 := by omega
      have T9 := hide (two_need (n := n) (d1 := 1) (d2 := 0) (unhide X8).ins 32)
      have X9 := hide ((unhide X8).later (unhide T9).2.2)
      have Y9 := hide ((unhide Y8).later (unhide T9).2.2)
      have G9 := hide ((unhide G8).trans ((unhide T9).2.2.mono (Nat.le_of_lt lx8)))
      have E1 := hide (Ky.root_less hA hi)
      have E2 := hide (Ky.root_one hA)
      have E3 := hide (Ky.root_zero n k)
      have heq : (decide (d < (k.length : Int)) == decide (d < (k.length : Int))) = true := by simp
      go_wp2_with fail
      generalize (w8.alloc _).alloc _ = W9 at *
      have U9 := hide (unhide T9).1
      have Z9 := hide (unhide T9).2.1
      clear T9 X8 Y8 p0 p1 p2 y0 y1 y2 G8 l8 lx8
      generalize w8.heap.size = gy at *
      obtain ⟨p0, p1, p2⟩ := (unhide X9).cells
      obtain ⟨y0, y1, y2⟩ := (unhide Y9).cells
      obtain ⟨u0, u1, u2⟩ := (unhide U9).cells
      obtain ⟨v0, v1, v2⟩ := (unhide Z9).cells
      generalize hZ : decide (d < (k.length : Int)) = z at *
      go_region_held3 (fun w' => (w'.cell? ⟨g, 0, none⟩ = some (.int .i64 n) ∧ w'.cell? ⟨g, 1, none⟩ = some (.slice (some ⟨bk, ok, none⟩) k.length ck) ∧ w'.cell? ⟨g, 2, none⟩ = some (.int .i64 d)) ∧ (w'.cell? ⟨gx, 0, none⟩ = some (.int .i64 n) ∧ w'.cell? ⟨gx, 1, none⟩ = some (.slice a7 (Ky.without k i).length c7) ∧ w'.cell? ⟨gx, 2, none⟩ = some (.int .i64 d)) ∧ (w'.cell? ⟨gy, 0, none⟩ = some (.int .i64 n) ∧ w'.cell? ⟨gy, 1, none⟩ = some (.slice (some ⟨bk, ok, none⟩) k.length ck) ∧ w'.cell? ⟨gy, 2, none⟩ = some (.int .i64 1)) ∧ (w'.cell? ⟨gy + 1, 0, none⟩ = some (.int .i64 n) ∧ w'.cell? ⟨gy + 1, 1, none⟩ = some (.slice (some ⟨bk, ok, none⟩) k.length ck) ∧ w'.cell? ⟨gy + 1, 2, none⟩ = some (.int .i64 0)))
        (first
          | (go_keep; done)
          | exact ⟨(unhide XC).cells, (unhide YC).cells, (unhide UC).cells, (unhide ZC).cells⟩
          | exact ⟨(unhide XB).cells, (unhide YB).cells, (unhide UB).cells, (unhide ZB).cells⟩
          | exact ⟨(unhide XA).cells, (unhide YA).cells, (unhide UA).cells, (unhide ZA).cells⟩
          | fail)
        (first
          | (go_at_call_of 25 (Value.agg #[.int .i64 n, .slice a7 (Ky.without k i).length c7, .int .i64 d]); refine (implRootOk_b _ n d _ (Ky.without k i) (unhide E1) (by exact (unhide Y9).drew.ins)).mono ?_; rintro e wA ⟨rfl, bA⟩; have XA := hide ((unhide X9).drew.later bA); have YA := hide ((unhide Y9).drew.later bA); have UA := hide ((unhide U9).drew.later bA); have ZA := hide ((unhide Z9).drew.later bA))
          | (go_at_call_of 25 (Value.agg #[.int .i64 n, .slice (some ⟨bk, ok, none⟩) k.length ck, .int .i64 1]); refine (implRootOk_b _ n 1 _ k (unhide E2) (by exact (unhide UA).ins)).mono ?_; rintro e wB ⟨rfl, bB⟩; have XB := hide ((unhide XA).later bB); have YB := hide ((unhide YA).later bB); have UB := hide ((unhide UA).later bB); have ZB := hide ((unhide ZA).later bB))
          | (go_at_call_of 25 (Value.agg #[.int .i64 n, .slice (some ⟨bk, ok, none⟩) k.length ck, .int .i64 0]); refine (implRootOk_b _ n 0 _ k (unhide E3) (by exact (unhide ZB).ins)).mono ?_; rintro e wC ⟨rfl, bC⟩; have XC := hide ((unhide XB).later bC); have YC := hide ((unhide YB).later bC); have UC := hide ((unhide UB).later bC); have ZC := hide ((unhide ZB).later bC)))
      have h9 := Nat.le_of_lt (unhide Y9).lt
      have GA := hide ((unhide G9).drew.trans (bA.mono h9))
      have GB := hide ((unhide GA).trans (bB.mono (Nat.le_of_lt (unhide YA).lt)))
      have GC := hide ((unhide GB).trans (bC.mono (Nat.le_of_lt (unhide YB).lt)))
      clear bA bB bC p0 p1 p2 y0 y1 y2 u0 u1 u2 v0 v1 v2
      go_wp2
      go_ret
      exact ⟨rfl, (unhide B4).trans ((unhide GC).mono hb4)⟩
end Go.Proofs.Ytneaceieaafjdaa
