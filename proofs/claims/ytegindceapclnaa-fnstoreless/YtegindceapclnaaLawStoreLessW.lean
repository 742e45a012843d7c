/- The walk of FnStoreLess: it returns true and leaves what was there; for every two rows of bytes. -/
import Derived.Test.YtegindceapclnaaSOkDrawW
import Derived.Test.YtegindceapclnaaStoreOkW
import Derived.Test.YtegindceapclnaaStoreLessMath
import Derived.Test.YtegindceapclnaaAllW
import Derived.Test.YtegindceapclnaaSkipW
import Derived.Deep.CutRange
namespace Go.Proofs.Ytegindceapclnaa
open Go.RowKit

attribute [local go_sem ↓] Go.wp_at_zero Go.wp_at_succ

theorem addP (b off i : Nat) : (⟨b, off, none⟩ : Addr).add i = ⟨b, off + i, none⟩ := by unfold Addr.add; split <;> simp_all
/-- What is drawn lies in slices. -/
def Sl (l : List El) : Prop := ∀ e ∈ l, e.2.1.oneCell' = true ∧ e.2.2.oneCell' = true
theorem flat4_one {l : List El} (h : Sl l) {t : List El} (ht : ∀ e ∈ t, e ∈ l) : ∀ u ∈ flat4 t, u.oneCell' = true := fun u hu => by
  unfold flat4 at hu
  obtain ⟨e, he, hu⟩ := List.mem_flatMap.1 hu
  have := h e (ht e he)
  simp only [List.mem_cons, List.not_mem_nil, or_false] at hu
  rcases hu with rfl | rfl | rfl | rfl
  · rfl
  · rfl
  · exact this.1
  · exact this.2
theorem one4 {x : El} (h1 : x.2.1.oneCell' = true) (h2 : x.2.2.oneCell' = true) : ∀ u ∈ [Value.int .i64 x.1.1, .int .i64 x.1.2.1, x.2.1, x.2.2], u.oneCell' = true := fun u hu => by
  simp only [List.mem_cons, List.not_mem_nil, or_false] at hu
  rcases hu with rfl | rfl | rfl | rfl
  · rfl
  · rfl
  · exact h1
  · exact h2
theorem POwn.sl {N : Nat → Prop} {B : Nat} {w : World} {v : Value} {l : List El} (h : POwn N B w v l) : Sl l := fun e he => by
  obtain ⟨a, c, h1⟩ := (h.el e he).1.slice
  obtain ⟨a2, c2, h2⟩ := (h.el e he).2.slice
  rw [h1, h2]
  exact ⟨rfl, rfl⟩
/-- The cells of an owned row, from a place on. -/
theorem newsP {w w' : World} {g cap s m : Nat} {B : Nat} {l t : List El} (h : w.ownsRow B 29 4 (.slice (some ⟨g, 0, none⟩) l.length cap) l.length (flat4 l)) (hb : Below m w w') (hgm : g < m) (ht : ∀ j, j < t.length → t[j]? = l[s + j]?) :
    ∀ j u, (flat4 t)[j]? = some u → w'.cell? ((⟨g, s * 4, none⟩ : Addr).add j) = some u := by
  intro j u hu
  have hj : j < t.length * 4 := by
    rcases Nat.lt_or_ge j (t.length * 4) with h | h
    · exact h
    · rw [List.getElem?_eq_none (by rw [flat4_len]; exact h)] at hu; cases hu
  have h2 := ht (j / 4) (by omega)
  rw [List.getElem?_eq_getElem (by omega : j / 4 < t.length)] at h2
  obtain ⟨a0, a1, a2, a3⟩ := flat4_at t (j / 4) _ (List.getElem?_eq_getElem (by omega : j / 4 < t.length))
  obtain ⟨c0, c1, c2, c3⟩ := flat4_at l (s + j / 4) _ h2.symm
  rw [addP, hb.cell hgm]
  refine own_cell h _ _ ?_
  have hm : j % 4 = 0 ∨ j % 4 = 1 ∨ j % 4 = 2 ∨ j % 4 = 3 := by omega
  rw [← hu]
  rcases hm with hm | hm | hm | hm
  · conv => rhs; rw [show j = j / 4 * 4 by omega]
    rw [show s * 4 + j = (s + j / 4) * 4 by omega, c0, a0]
  · conv => rhs; rw [show j = j / 4 * 4 + 1 by omega]
    rw [show s * 4 + j = (s + j / 4) * 4 + 1 by omega, c1, a1]
  · conv => rhs; rw [show j = j / 4 * 4 + 2 by omega]
    rw [show s * 4 + j = (s + j / 4) * 4 + 2 by omega, c2, a2]
  · conv => rhs; rw [show j = j / 4 * 4 + 3 by omega]
    rw [show s * 4 + j = (s + j / 4) * 4 + 3 by omega, c3, a3]
theorem takeP {l : List El} {i : Nat} : ∀ j, j < (l.take i).length → (l.take i)[j]? = l[0 + j]? := fun j hj => by
  rw [List.length_take] at hj
  rw [Nat.zero_add, List.getElem?_take_of_lt (by omega)]
theorem dropP {l : List El} {i : Nat} : ∀ j, j < (l.drop i).length → (l.drop i)[j]? = l[i + j]? := fun j _ => by rw [List.getElem?_drop]
theorem emptyP (w : World) : (w.alloc (.cells #[] 29)).ownsRow w.heap.size 29 4 (.slice (some ⟨w.heap.size, 0, none⟩) 0 0) 0 [] :=
  ⟨by simp, .inr ⟨w.heap.size, 0, #[], rfl, Nat.le_refl _, heap_alloc_new _ _, Nat.le_refl _, by unfold maxLen; omega, by simp, by simp⟩⟩
theorem below2P (w : World) (o o2 : Obj) : Below w.heap.size w ((w.alloc o).alloc o2) := (below1 w o).trans ((below1 _ o2).mono (below1 w o).size)
theorem emptyP2 (w : World) (o : Obj) : ((w.alloc o).alloc (.cells #[] 29)).ownsRow w.heap.size 29 4 (.slice (some ⟨w.heap.size + 1, 0, none⟩) 0 0) 0 [] := by
  have h := own_baseP (emptyP (w.alloc o)) (below1 w o).size
  rwa [sz1'] at h
def cutE (l : List El) (k : Nat) : List El := l.take k ++ l.drop (k + 1)
def twoE (l : List El) (k : Nat) (x : El) : List El := (l.take k ++ [x]) ++ l.drop k
theorem cutE_map (l : List El) (k : Nat) : (cutE l k).map (·.1) = Ix.cutP (l.map (·.1)) k := by unfold cutE Ix.cutP; rw [List.map_append, List.map_take, List.map_drop]
theorem twoE_map (l : List El) (k : Nat) (x : El) (hx : l[k]? = some x) : (twoE l k x).map (·.1) = Ix.twoP (l.map (·.1)) k := by
  unfold twoE Ix.twoP Ix.pg
  rw [List.map_append, List.map_append, List.map_take, List.map_drop, List.getD_eq_getElem?_getD, List.getElem?_map, hx]
  rfl
/-- Packages of a row that was drawn, in a row of another place. -/
theorem POwn.of {B W : Nat} {w w' : World} {v v' : Value} {l t : List El} (h : POx B w v l) (hb : Below w.heap.size w w') (ho : w'.ownsRow W 29 4 v' t.length (flat4 t)) (ht : ∀ e ∈ t, e ∈ l) (hl : t.length ≤ 1000) : Pks (fun _ => True) w' v' (t.map (·.1)) :=
  POwn.pks (B := W) ⟨ho, fun e he => ⟨((h.el e (ht e he)).1.weak (fun _ _ => trivial)).later hb, ((h.el e (ht e he)).2.weak (fun _ _ => trivial)).later hb⟩⟩ (fun _ _ => trivial) (by omega)
theorem cutE_own {B : Nat} {w : World} {v : Value} {k : List El} {i m : Nat} (h : w.ownsRow B 29 4 v (i + m) (flat4 (k.take i) ++ flat4 (k.drop (i + 1)))) (hm : i + m = k.length - 1 ∧ i < k.length) : w.ownsRow B 29 4 v (cutE k i).length (flat4 (cutE k i)) := by
  have hl : (cutE k i).length = i + m := by unfold cutE; rw [List.length_append, List.length_take, List.length_drop]; omega
  rw [hl]
  unfold cutE
  rw [flat4_app]
  exact h
theorem cutE_len {k : List El} {i : Nat} (hi : i < k.length) : (cutE k i).length = k.length - 1 := by unfold cutE; rw [List.length_append, List.length_take, List.length_drop]; omega
theorem twoE_len {k : List El} {i : Nat} {x : El} (hi : i < k.length) : (twoE k i x).length = k.length + 1 := by unfold twoE; rw [List.length_append, List.length_append, List.length_take, List.length_drop]; simp only [List.length_cons, List.length_nil]; omega
theorem cutE_mem {k : List El} {i : Nat} : ∀ e ∈ cutE k i, e ∈ k := fun e he => by
  unfold cutE at he
  rcases List.mem_append.1 he with h | h
  · exact List.mem_of_mem_take h
  · exact List.mem_of_mem_drop h
theorem twoE_mem {k : List El} {i : Nat} {x : El} (hx : k[i]? = some x) : ∀ e ∈ twoE k i x, e ∈ k := fun e he => by
  unfold twoE at he
  rcases List.mem_append.1 he with h | h
  · rcases List.mem_append.1 h with h | h
    · exact List.mem_of_mem_take h
    · rw [List.mem_singleton] at h
      subst h
      exact List.mem_of_getElem? hx
  · exact List.mem_of_mem_drop h
theorem twoE_own {B : Nat} {w : World} {v : Value} {k : List El} {i m : Nat} {x : El} (h : w.ownsRow B 29 4 v (i + 1 + m) (flat4 (k.take i) ++ [.int .i64 x.1.1, .int .i64 x.1.2.1, x.2.1, x.2.2] ++ flat4 (k.drop i))) (hm : i + m = k.length ∧ i < k.length) : w.ownsRow B 29 4 v (twoE k i x).length (flat4 (twoE k i x)) := by
  rw [twoE_len hm.2, show k.length + 1 = i + 1 + m by omega]
  unfold twoE
  rw [flat4_app, flat4_app]
  exact h

set_option maxHeartbeats 8000000 in
set_option maxRecDepth 100000 in
theorem storeLess_walk (w : World) (a : Option Addr) (len cap : Nat) (a1 : Option Addr) (len1 cap1 : Nat) (h : Bytes w a len cap) (_h1 : Bytes w a1 len1 cap1) :
    Calls Try.prog 3 #[.slice a len cap, .slice a1 len1 cap1] w fun e w' => e = .returned (.bool true) ∧ Below w.heap.size w w' := by
  obtain ⟨i0, hI0, hz0, hz1, hz2⟩ := info_parts infoPkg
  by_cases hbig : (1048576 : Int) < (len : Int)
  · go_enter Try.func3, Try.ntmps3
    go_wp2
    go_ret
    exact ⟨rfl, Below.refl _ _⟩
  have hbig' : decide ((1048576 : Int) < (len : Int)) = false := by simpa using hbig
  by_cases hbig2 : (1048576 : Int) < (len1 : Int)
  · go_enter Try.func3, Try.ntmps3
    go_wp2
    go_ret
    exact ⟨rfl, Below.refl _ _⟩
  have CD := hide (drawStoreOk_any w a len cap h)
  clear h _h1
  go_enter Try.func3, Try.ntmps3
  go_wp2_with fail
  refine (unhide CD).mono ?_
  rintro e w1 ⟨v, els, rfl, hpo, hms, b1⟩
  obtain ⟨ma, mc, hmv⟩ := own_formS hpo.own
  subst hmv
  have HPO := hide hpo
  have I1 := hide (POwn.pks (N := fun _ => True) (hpo.weak (fun _ _ => trivial)) (fun _ _ => trivial) (by omega))
  have B1 := hide b1
  clear hpo b1 CD
  obtain ⟨l, hl⟩ : ∃ l : List Ix.Pg, l = els.map (·.1) := ⟨_, rfl⟩
  have HL := hide hl
  rw [← hl] at I1
  clear hl
  go_wp2_with fail
  refine (implStoreOk_any _ _ l (unhide I1)).mono ?_
  rintro e w3 ⟨rfl, b3⟩
  have I3 := hide ((unhide I1).later b3)
  have B3 := hide ((unhide B1).trans (b3.mono (unhide B1).size))
  have BB3 := hide b3
  clear b3 I1
  go_wp2_with fail
  refine (specStoreOk_any _ _ l (unhide I3)).mono ?_
  rintro e w4 ⟨rfl, b4⟩
  have I4 := hide ((unhide I3).later b4)
  have B4 := hide ((unhide B3).trans (b4.mono (unhide B3).size))
  have BB4 := hide ((unhide BB3).trans (b4.mono (unhide BB3).size))
  clear b4 I3 B3 BB3
  have hne : (Ix.pkgsOk l != Ix.pkgsOk l) = false := by simp
  have heq : (Ix.pkgsOk l == Ix.pkgsOk l) = true := by simp
  have HOK := hide (fun h i hi => Ix.cutP_ok (l := l) (k := i) h hi)
  have CO := hide (fun (W : World) hW => specStoreOk_any (N := fun _ => True) W (.slice ma els.length mc) l hW)
  generalize Ix.pkgsOk l = ok at *
  cases ok
  · go_wp2_with fail
    refine (unhide CO _ (unhide I4)).mono ?_
    rintro e w5 ⟨rfl, b5⟩
    have B5 := hide ((unhide B4).trans (b5.mono (unhide B4).size))
    clear b5
    go_wp2
    go_ret
    exact ⟨rfl, unhide B5⟩
  by_cases hkl : els.length = 0
  · have hkz : ((els.length : Int) == 0) = true := by rw [hkl]; rfl
    have HKL := hide hkl
    clear hkl
    go_wp2_with fail
    refine (unhide CO _ (unhide I4)).mono ?_
    rintro e w5 ⟨rfl, b5⟩
    have B5 := hide ((unhide B4).trans (b5.mono (unhide B4).size))
    clear b5
    go_wp2
    go_ret
    exact ⟨rfl, unhide B5⟩
  rcases own_shape (unhide HPO).own with ⟨_, h0⟩ | ⟨g, mc', hv, hgB⟩
  · exact absurd h0 hkl
  injection hv with hv1 _ hv2
  subst hv1 hv2
  have HO4 := hide (own_later (unhide HPO).own (unhide BB4))
  have hg4 : g < w4.heap.size := by
    obtain ⟨_, c, hc⟩ := own_row (unhide HO4) g rfl
    exact heapLt hc
  obtain ⟨i, hi, hrem⟩ : ∃ i : Nat, i < els.length ∧ (len1 : Int) % (els.length : Int) = (i : Int) := ⟨len1 % els.length, Nat.mod_lt _ (by omega), by simp⟩
  have hkz : ((els.length : Int) == 0) = false := by rw [beq_eq_false_iff_ne]; omega
  have hkz' : ¬ (els.length : Int) = 0 := by omega
  have hmx : maxLen = 9223372036854775807 := rfl
  have hroom : els.length ≤ mc ∧ mc ≤ 9223372036854775807 := by
    obtain ⟨_, h2⟩ := unhide HO4
    rcases h2 with ⟨h, _⟩ | ⟨g', cap', cur, hv, _, _, hn, hc, _⟩
    · cases h
    · injection hv with _ _ hv
      subst hv
      exact ⟨hn, by unfold maxLen at hc; omega⟩
  have er : IntKind.i64.wrap ((len1 : Int) % (els.length : Int)) = (len1 : Int) % (els.length : Int) := by rw [hrem]; simp [IntKind.wrap, IntKind.bits, IntKind.signed]; omega
  clear CO hne heq hkl I4
  go_wp2_with fail
  simp only [hrem]
  clear hrem hkz hkz' er
  obtain ⟨x, hx⟩ : ∃ x, els[i]? = some x := ⟨_, List.getElem?_eq_getElem hi⟩
  have HX := hide hx
  obtain ⟨n1, n2, n3, n4⟩ := flat4_at els i x hx
  have C4 : Hid (w4.cell? ⟨g, i * 4, none⟩ = some (.int .i64 x.1.1) ∧ w4.cell? ⟨g, i * 4 + 1, none⟩ = some (.int .i64 x.1.2.1) ∧ w4.cell? ⟨g, i * 4 + 2, none⟩ = some x.2.1 ∧ w4.cell? ⟨g, i * 4 + 3, none⟩ = some x.2.2) := ⟨own_cell (unhide HO4) _ _ n1, own_cell (unhide HO4) _ _ n2, own_cell (unhide HO4) _ _ n3, own_cell (unhide HO4) _ _ n4⟩
  have HEL := hide (unhide HPO).sl
  clear hx n1 n2 n3 n4
  have hi0' : (0 : Int) ≤ (i : Int) := by omega
  have hi1 : (i : Int) ≤ (mc : Int) := by omega
  have hi2 : (0 : Int) ≤ (i : Int) + 1 := by omega
  have hi3 : (i : Int) + 1 ≤ (els.length : Int) := by omega
  have hi4 : (i : Int) < (els.length : Int) := by omega
  have hi5 : (i : Int) ≤ (els.length : Int) := by omega
  have hck : ¬ mc = 0 := by omega
  have hck2 : ¬ mc = i := by omega
  have ew : IntKind.i64.wrap ((i : Int) + 1) = (i : Int) + 1 := by simp [IntKind.wrap, IntKind.bits, IntKind.signed]; omega
  have et : ((i : Int) + 1).toNat = i + 1 := by omega
  go_cut [8] from 44 to 53 (fun o wx => ∃ (ya : Option Addr) (yc : Nat), o = .slice ya (cutE els i).length yc ∧ wx.ownsRow w4.heap.size 29 4 (.slice ya (cutE els i).length yc) (cutE els i).length (flat4 (cutE els i)) ∧ Below w4.heap.size w4 wx)
  case first =>
    by_cases hce : mc = i + 1
    · have HCE := hide hce
      clear hce
      refine wp_region_held_drew (S := fun _ => True) (by kernel_rfl) trivial (fun hHeld => ?_)
      refine anyH_at (i := 1) (d := some 45) rfl rfl (by kernel_rfl) (by kernel_rfl) (by kernel_rfl) (fun _ _ _ h => h) (by rfl) (v := ?_) ?_ (by assumption) ?_
      rotate_left
      · (intro w hSw; (try dsimp only at hSw); go_simp <;> with_reducible rfl)
      simp only [Act.put, List.setIfInBounds_toArray, List.set_cons_zero, List.set_cons_succ]
      refine anyH_at (i := 2) (d := some 46) rfl rfl (by kernel_rfl) (by kernel_rfl) (by kernel_rfl) (fun _ _ _ h => h) (by rfl) (v := ?_) ?_ (by assumption) ?_
      rotate_left
      · (intro w hSw; (try dsimp only at hSw); go_simp <;> with_reducible rfl)
      simp only [Act.put, List.setIfInBounds_toArray, List.set_cons_zero, List.set_cons_succ]
      refine anyH_at (i := 3) (d := some 47) rfl rfl (by kernel_rfl) (by kernel_rfl) (by kernel_rfl) (fun _ _ _ h => h) (by rfl) (v := ?_) ?_ (by assumption) ?_
      rotate_left
      · (intro w hSw; (try dsimp only at hSw); go_simp <;> with_reducible rfl)
      simp only [Act.put, List.setIfInBounds_toArray, List.set_cons_zero, List.set_cons_succ]
      refine anyH_at (i := 5) (d := some 49) rfl rfl (by kernel_rfl) (by kernel_rfl) (by kernel_rfl) (fun _ _ _ h => h) (by rfl) (v := ?_) ?_ (by assumption) ?_
      rotate_left
      · (intro w hSw; (try dsimp only at hSw); go_simp <;> with_reducible rfl)
      simp only [Act.put, List.setIfInBounds_toArray, List.set_cons_zero, List.set_cons_succ]
      refine anyH_at (i := 6) (d := some 50) rfl rfl (by kernel_rfl) (by kernel_rfl) (by kernel_rfl) (fun _ _ _ h => h) (by rfl) (v := ?_) ?_ (by assumption) ?_
      rotate_left
      · (intro w hSw; (try dsimp only at hSw); go_simp <;> with_reducible rfl)
      simp only [Act.put, List.setIfInBounds_toArray, List.set_cons_zero, List.set_cons_succ]
      refine anyH_at (i := 7) (d := some 51) rfl rfl (by kernel_rfl) (by kernel_rfl) (by kernel_rfl) (fun _ _ _ h => h) (by rfl) (v := ?_) ?_ (by assumption) ?_
      rotate_left
      · (intro w hSw; (try dsimp only at hSw); go_simp <;> with_reducible rfl)
      simp only [Act.put, List.setIfInBounds_toArray, List.set_cons_zero, List.set_cons_succ]
      refine anyH_at (i := 8) (d := some 52) rfl rfl (by kernel_rfl) (by kernel_rfl) (by kernel_rfl) (fun _ _ _ h => h) (by rfl) (v := ?_) ?_ (by assumption) ?_
      rotate_left
      · (intro w hSw; (try dsimp only at hSw); have hce := unhide HCE; go_simp <;> with_reducible rfl)
      simp only [Act.put, List.setIfInBounds_toArray, List.set_cons_zero, List.set_cons_succ]
      refine wpAnyH_ready (rs := [0]) (by kernel_rfl) (by simp) ?_
      refine AllReadyH.cons rfl (fun K hK => ?_) AllReadyH.nil
      go_simp
      have bE := below1 w4 (.cells #[] 29)
      refine hK.out _ _ ?_ (fun hHeldN => ?_)
      · trivial
      clear hHeld
      have hHeld := hHeldN
      clear hHeldN
      clear hK K
      try simp only [Act.put, List.setIfInBounds_toArray, List.set_cons_zero, List.set_cons_succ]
      refine wpAnyH_ready (rs := [4]) (by kernel_rfl) (by simp) ?_
      refine AllReadyH.cons rfl (fun K hK => ?_) AllReadyH.nil
      rw [if_pos (by rfl)]
      refine wp_append_own _ _ _ 23 rfl w4.heap.size 29 i0 _ 4 64 Try.underlying23 hI0 hz0 hz1 hz2 rfl (by decide) (.slice (some ⟨w4.heap.size, 0, none⟩) 0 0) 0 [] rfl (World.ownsRow.drew (emptyP w4)) ⟨g, 0, none⟩ i mc (flat4 (els.take i)) rfl (by rw [flat4_len, List.length_take]; omega) (by simpa using newsP (s := 0) (unhide HO4) bE.drew hg4 takeP) (flat4_one (unhide HEL) (fun e he => List.mem_of_mem_take he)) (by unfold maxLen; omega) (by omega) (by simp) ?_
      intro v6 w6 hown6 hgrow6 _
      have o6 : w6.ownsRow w4.heap.size 29 4 v6 i (flat4 (els.take i)) := by simpa using hown6
      have G6 := grown_below (B := w4.heap.size) (World.ownsRow.drew (emptyP w4)) hgrow6 bE.drew bE.drew.size
      have O6 := hide o6
      have HG6 := hide G6
      clear hown6 hgrow6 o6 G6 bE
      change K (Act.put _ (some 48) _) _
      refine hK.out _ _ ?_ (fun hHeldN => ?_)
      · trivial
      clear hHeld
      have hHeld := hHeldN
      clear hHeldN
      clear hK K
      try simp only [Act.put, List.setIfInBounds_toArray, List.set_cons_zero, List.set_cons_succ]
      refine wpAnyH_ready (rs := [9]) (by kernel_rfl) (by simp) ?_
      refine AllReadyH.cons rfl (fun K hK => ?_) AllReadyH.nil
      rw [if_pos (by rfl)]
      refine wp_append_own _ _ _ 23 rfl w4.heap.size 29 i0 _ 4 64 Try.underlying23 hI0 hz0 hz1 hz2 rfl (by decide) v6 i (flat4 (els.take i)) rfl (unhide O6) ⟨g, 0, none⟩ _ _ (flat4 (els.drop (i + 1))) rfl (by rw [flat4_len, List.length_drop]) (by have hce := unhide HCE; intro j u hu; exfalso; have hd : els.drop (i + 1) = [] := List.drop_eq_nil_of_le (by omega); rw [hd] at hu; simp [flat4] at hu) (flat4_one (unhide HEL) (fun e he => List.mem_of_mem_drop he)) (by unfold maxLen; omega) (by omega) (unhide HG6).size ?_
      intro v7 w7 hown7 hgrow7 _
      have o7 := cutE_own hown7 (by omega)
      have G7 := grown_below (B := w4.heap.size) (unhide O6) hgrow7 (unhide HG6) (unhide HG6).size
      obtain ⟨ya, yc, hv7⟩ := own_formS o7
      subst hv7
      have O7 := hide o7
      have HG7 := hide G7
      clear hown7 hgrow7 o7 G7 O6 HG6
      change K (Act.put _ (some 53) _) _
      refine hK.out _ _ ?_ (fun hHeldN => ?_)
      · trivial
      clear hHeld
      have hHeld := hHeldN
      clear hHeldN
      clear hK K
      try simp only [Act.put, List.setIfInBounds_toArray, List.set_cons_zero, List.set_cons_succ]
      refine anyH_at (i := 10) (d := some 8) rfl rfl (by kernel_rfl) (by kernel_rfl) (by kernel_rfl) (fun _ _ _ h => h) (by rfl) (v := ?_) ?_ (by assumption) ?_
      rotate_left
      · (intro w hSw; (try dsimp only at hSw); go_simp <;> with_reducible rfl)
      simp only [Act.put, List.setIfInBounds_toArray, List.set_cons_zero, List.set_cons_succ]
      refine wpAnyH_done (by kernel_rfl) ?_ _
      go_wp2_with fail
      go_meet
      exact ⟨ya, yc, rfl, unhide O7, unhide HG7⟩
    · refine wp_region_held_drew (S := fun _ => True) (by kernel_rfl) trivial (fun hHeld => ?_)
      refine anyH_at (i := 1) (d := some 45) rfl rfl (by kernel_rfl) (by kernel_rfl) (by kernel_rfl) (fun _ _ _ h => h) (by rfl) (v := ?_) ?_ (by assumption) ?_
      rotate_left
      · (intro w hSw; (try dsimp only at hSw); go_simp <;> with_reducible rfl)
      simp only [Act.put, List.setIfInBounds_toArray, List.set_cons_zero, List.set_cons_succ]
      refine anyH_at (i := 2) (d := some 46) rfl rfl (by kernel_rfl) (by kernel_rfl) (by kernel_rfl) (fun _ _ _ h => h) (by rfl) (v := ?_) ?_ (by assumption) ?_
      rotate_left
      · (intro w hSw; (try dsimp only at hSw); go_simp <;> with_reducible rfl)
      simp only [Act.put, List.setIfInBounds_toArray, List.set_cons_zero, List.set_cons_succ]
      refine anyH_at (i := 3) (d := some 47) rfl rfl (by kernel_rfl) (by kernel_rfl) (by kernel_rfl) (fun _ _ _ h => h) (by rfl) (v := ?_) ?_ (by assumption) ?_
      rotate_left
      · (intro w hSw; (try dsimp only at hSw); go_simp <;> with_reducible rfl)
      simp only [Act.put, List.setIfInBounds_toArray, List.set_cons_zero, List.set_cons_succ]
      refine anyH_at (i := 5) (d := some 49) rfl rfl (by kernel_rfl) (by kernel_rfl) (by kernel_rfl) (fun _ _ _ h => h) (by rfl) (v := ?_) ?_ (by assumption) ?_
      rotate_left
      · (intro w hSw; (try dsimp only at hSw); go_simp <;> with_reducible rfl)
      simp only [Act.put, List.setIfInBounds_toArray, List.set_cons_zero, List.set_cons_succ]
      refine anyH_at (i := 6) (d := some 50) rfl rfl (by kernel_rfl) (by kernel_rfl) (by kernel_rfl) (fun _ _ _ h => h) (by rfl) (v := ?_) ?_ (by assumption) ?_
      rotate_left
      · (intro w hSw; (try dsimp only at hSw); go_simp <;> with_reducible rfl)
      simp only [Act.put, List.setIfInBounds_toArray, List.set_cons_zero, List.set_cons_succ]
      refine anyH_at (i := 7) (d := some 51) rfl rfl (by kernel_rfl) (by kernel_rfl) (by kernel_rfl) (fun _ _ _ h => h) (by rfl) (v := ?_) ?_ (by assumption) ?_
      rotate_left
      · (intro w hSw; (try dsimp only at hSw); go_simp <;> with_reducible rfl)
      simp only [Act.put, List.setIfInBounds_toArray, List.set_cons_zero, List.set_cons_succ]
      refine anyH_at (i := 8) (d := some 52) rfl rfl (by kernel_rfl) (by kernel_rfl) (by kernel_rfl) (fun _ _ _ h => h) (by rfl) (v := ?_) ?_ (by assumption) ?_
      rotate_left
      · (intro w hSw; (try dsimp only at hSw); go_simp <;> with_reducible rfl)
      simp only [Act.put, List.setIfInBounds_toArray, List.set_cons_zero, List.set_cons_succ]
      refine wpAnyH_ready (rs := [0]) (by kernel_rfl) (by simp) ?_
      refine AllReadyH.cons rfl (fun K hK => ?_) AllReadyH.nil
      go_simp
      have bE := below1 w4 (.cells #[] 29)
      refine hK.out _ _ ?_ (fun hHeldN => ?_)
      · trivial
      clear hHeld
      have hHeld := hHeldN
      clear hHeldN
      clear hK K
      try simp only [Act.put, List.setIfInBounds_toArray, List.set_cons_zero, List.set_cons_succ]
      refine wpAnyH_ready (rs := [4]) (by kernel_rfl) (by simp) ?_
      refine AllReadyH.cons rfl (fun K hK => ?_) AllReadyH.nil
      rw [if_pos (by rfl)]
      refine wp_append_own _ _ _ 23 rfl w4.heap.size 29 i0 _ 4 64 Try.underlying23 hI0 hz0 hz1 hz2 rfl (by decide) (.slice (some ⟨w4.heap.size, 0, none⟩) 0 0) 0 [] rfl (World.ownsRow.drew (emptyP w4)) ⟨g, 0, none⟩ i mc (flat4 (els.take i)) rfl (by rw [flat4_len, List.length_take]; omega) (by simpa using newsP (s := 0) (unhide HO4) bE.drew hg4 takeP) (flat4_one (unhide HEL) (fun e he => List.mem_of_mem_take he)) (by unfold maxLen; omega) (by omega) (by simp) ?_
      intro v6 w6 hown6 hgrow6 _
      have o6 : w6.ownsRow w4.heap.size 29 4 v6 i (flat4 (els.take i)) := by simpa using hown6
      have G6 := grown_below (B := w4.heap.size) (World.ownsRow.drew (emptyP w4)) hgrow6 bE.drew bE.drew.size
      have O6 := hide o6
      have HG6 := hide G6
      clear hown6 hgrow6 o6 G6 bE
      change K (Act.put _ (some 48) _) _
      refine hK.out _ _ ?_ (fun hHeldN => ?_)
      · trivial
      clear hHeld
      have hHeld := hHeldN
      clear hHeldN
      clear hK K
      try simp only [Act.put, List.setIfInBounds_toArray, List.set_cons_zero, List.set_cons_succ]
      refine wpAnyH_ready (rs := [9]) (by kernel_rfl) (by simp) ?_
      refine AllReadyH.cons rfl (fun K hK => ?_) AllReadyH.nil
      rw [if_pos (by rfl)]
      refine wp_append_own _ _ _ 23 rfl w4.heap.size 29 i0 _ 4 64 Try.underlying23 hI0 hz0 hz1 hz2 rfl (by decide) v6 i (flat4 (els.take i)) rfl (unhide O6) ⟨g, (i + 1) * 4, none⟩ _ _ (flat4 (els.drop (i + 1))) rfl (by rw [flat4_len, List.length_drop]) (newsP (s := i + 1) (unhide HO4) (unhide HG6) hg4 dropP) (flat4_one (unhide HEL) (fun e he => List.mem_of_mem_drop he)) (by unfold maxLen; omega) (by omega) (unhide HG6).size ?_
      intro v7 w7 hown7 hgrow7 _
      have o7 := cutE_own hown7 (by omega)
      have G7 := grown_below (B := w4.heap.size) (unhide O6) hgrow7 (unhide HG6) (unhide HG6).size
      obtain ⟨ya, yc, hv7⟩ := own_formS o7
      subst hv7
      have O7 := hide o7
      have HG7 := hide G7
      clear hown7 hgrow7 o7 G7 O6 HG6
      change K (Act.put _ (some 53) _) _
      refine hK.out _ _ ?_ (fun hHeldN => ?_)
      · trivial
      clear hHeld
      have hHeld := hHeldN
      clear hHeldN
      clear hK K
      try simp only [Act.put, List.setIfInBounds_toArray, List.set_cons_zero, List.set_cons_succ]
      refine anyH_at (i := 10) (d := some 8) rfl rfl (by kernel_rfl) (by kernel_rfl) (by kernel_rfl) (fun _ _ _ h => h) (by rfl) (v := ?_) ?_ (by assumption) ?_
      rotate_left
      · (intro w hSw; (try dsimp only at hSw); go_simp <;> with_reducible rfl)
      simp only [Act.put, List.setIfInBounds_toArray, List.set_cons_zero, List.set_cons_succ]
      refine wpAnyH_done (by kernel_rfl) ?_ _
      go_wp2_with fail
      go_meet
      exact ⟨ya, yc, rfl, unhide O7, unhide HG7⟩
  case rest =>
    obtain ⟨ya, yc, rfl, hoY, hbY⟩ := hcut
    obtain ⟨wd, rfl⟩ : ∃ wd, wd = wc := ⟨wc, rfl⟩
    have HOY := hide hoY
    have HBY := hide hbY
    have HOc := hide (own_later (unhide HO4) hbY)
    have hgc : g < wd.heap.size := Nat.lt_of_lt_of_le hg4 hbY.size
    have hS : ∀ w', Below wd.heap.size wd w' → w'.cell? ⟨g, i * 4, none⟩ = some (.int .i64 x.1.1) ∧ w'.cell? ⟨g, i * 4 + 1, none⟩ = some (.int .i64 x.1.2.1) ∧ w'.cell? ⟨g, i * 4 + 2, none⟩ = some x.2.1 ∧ w'.cell? ⟨g, i * 4 + 3, none⟩ = some x.2.2 := fun w' hw' => by rw [hw'.cell hgc, hw'.cell hgc, hw'.cell hgc, hw'.cell hgc, hbY.cell hg4, hbY.cell hg4, hbY.cell hg4, hbY.cell hg4]; exact unhide C4
    have HS := hide hS
    obtain ⟨x1, x2⟩ : x.2.1.oneCell' = true ∧ x.2.2.oneCell' = true := unhide HEL x (List.mem_of_getElem? (unhide HX))
    clear hS hoY hbY
    go_wp2_with fail
    go_cut [9] from 54 to 68 (fun o wx => ∃ (za : Option Addr) (zc : Nat), o = .slice za (twoE els i x).length zc ∧ wx.ownsRow wd.heap.size 29 4 (.slice za (twoE els i x).length zc) (twoE els i x).length (flat4 (twoE els i x)) ∧ Below wd.heap.size wd wx)
    case first =>
      refine wp_region_held_drew (S := fun w' => w'.cell? ⟨g, i * 4, none⟩ = some (.int .i64 x.1.1) ∧ w'.cell? ⟨g, i * 4 + 1, none⟩ = some (.int .i64 x.1.2.1) ∧ w'.cell? ⟨g, i * 4 + 2, none⟩ = some x.2.1 ∧ w'.cell? ⟨g, i * 4 + 3, none⟩ = some x.2.2) (by kernel_rfl) (unhide HS _ (below_drew wd)) (fun hHeld => ?_)
      refine anyH_at (i := 1) (d := some 55) rfl rfl (by kernel_rfl) (by kernel_rfl) (by kernel_rfl) (fun _ _ _ h => h) (by rfl) (v := ?_) ?_ (by assumption) ?_
      rotate_left
      · (intro w hSw; (try dsimp only at hSw); go_simp <;> with_reducible rfl)
      simp only [Act.put, List.setIfInBounds_toArray, List.set_cons_zero, List.set_cons_succ]
      refine anyH_at (i := 2) (d := some 56) rfl rfl (by kernel_rfl) (by kernel_rfl) (by kernel_rfl) (fun _ _ _ h => h) (by rfl) (v := ?_) ?_ (by assumption) ?_
      rotate_left
      · (intro w hSw; (try dsimp only at hSw); go_simp <;> with_reducible rfl)
      simp only [Act.put, List.setIfInBounds_toArray, List.set_cons_zero, List.set_cons_succ]
      refine anyH_at (i := 3) (d := some 57) rfl rfl (by kernel_rfl) (by kernel_rfl) (by kernel_rfl) (fun _ _ _ h => h) (by rfl) (v := ?_) ?_ (by assumption) ?_
      rotate_left
      · (intro w hSw; (try dsimp only at hSw); go_simp <;> with_reducible rfl)
      simp only [Act.put, List.setIfInBounds_toArray, List.set_cons_zero, List.set_cons_succ]
      refine anyH_at (i := 5) (d := some 59) rfl rfl (by kernel_rfl) (by kernel_rfl) (by kernel_rfl) (fun _ _ _ h => h) (by rfl) (v := ?_) ?_ (by assumption) ?_
      rotate_left
      · (intro w hSw; (try dsimp only at hSw); go_simp <;> with_reducible rfl)
      simp only [Act.put, List.setIfInBounds_toArray, List.set_cons_zero, List.set_cons_succ]
      refine anyH_at (i := 6) (d := some 60) rfl rfl (by kernel_rfl) (by kernel_rfl) (by kernel_rfl) (fun _ _ _ h => h) (by rfl) (v := ?_) ?_ (by assumption) ?_
      rotate_left
      · (intro w hSw; (try dsimp only at hSw); go_simp <;> with_reducible rfl)
      simp only [Act.put, List.setIfInBounds_toArray, List.set_cons_zero, List.set_cons_succ]
      refine anyH_at (i := 7) (d := some 61) rfl rfl (by kernel_rfl) (by kernel_rfl) (by kernel_rfl) (fun _ _ _ h => h) (by rfl) (v := ?_) ?_ (by assumption) ?_
      rotate_left
      · (intro w hSw; (try dsimp only at hSw); go_simp <;> with_reducible rfl)
      simp only [Act.put, List.setIfInBounds_toArray, List.set_cons_zero, List.set_cons_succ]
      refine anyH_at (i := 8) (d := some 62) rfl rfl (by kernel_rfl) (by kernel_rfl) (by kernel_rfl) (fun _ _ _ h => h) (by rfl) (v := ?_) ?_ (by assumption) ?_
      rotate_left
      · (intro w hSw; (try dsimp only at hSw); go_simp <;> with_reducible rfl)
      simp only [Act.put, List.setIfInBounds_toArray, List.set_cons_zero, List.set_cons_succ]
      refine anyH_at (i := 11) (d := some 65) rfl rfl (by kernel_rfl) (by kernel_rfl) (by kernel_rfl) (fun _ _ _ h => h) (by rfl) (v := ?_) ?_ (by assumption) ?_
      rotate_left
      · (intro w hSw; (try dsimp only at hSw); go_simp <;> with_reducible rfl)
      simp only [Act.put, List.setIfInBounds_toArray, List.set_cons_zero, List.set_cons_succ]
      refine anyH_at (i := 12) (d := some 66) rfl rfl (by kernel_rfl) (by kernel_rfl) (by kernel_rfl) (fun _ _ _ h => h) (by rfl) (v := ?_) ?_ (by assumption) ?_
      rotate_left
      · (intro w hSw; (try dsimp only at hSw); go_simp <;> with_reducible rfl)
      simp only [Act.put, List.setIfInBounds_toArray, List.set_cons_zero, List.set_cons_succ]
      refine anyH_at (i := 13) (d := some 67) rfl rfl (by kernel_rfl) (by kernel_rfl) (by kernel_rfl) (fun _ _ _ h => h) (by rfl) (v := ?_) ?_ (by assumption) ?_
      rotate_left
      · (intro w hSw; (try dsimp only at hSw); go_simp <;> with_reducible rfl)
      simp only [Act.put, List.setIfInBounds_toArray, List.set_cons_zero, List.set_cons_succ]
      have bE := (below1 wd (.cells #[] 29)).drew
      have bO := (below1 wd (.cells #[.int .i64 x.1.1, .int .i64 x.1.2.1, x.2.1, x.2.2] 29)).drew
      have bEO := (below2P wd (.cells #[] 29) (.cells #[.int .i64 x.1.1, .int .i64 x.1.2.1, x.2.1, x.2.2] 29)).drew
      have bOE := (below2P wd (.cells #[.int .i64 x.1.1, .int .i64 x.1.2.1, x.2.1, x.2.2] 29) (.cells #[] 29)).drew
      refine wpAnyH_ready (rs := [0, 9]) (by kernel_rfl) (by simp) ?_
      refine AllReadyH.cons rfl (fun K hK => ?_) (AllReadyH.cons rfl (fun K hK => ?_) AllReadyH.nil)
      · go_simp
        refine hK.out _ _ ?_ (fun hHeldN => ?_)
        · exact unhide HS _ (bE)
        clear hHeld
        have hHeld := hHeldN
        clear hHeldN
        clear hK K
        try simp only [Act.put, List.setIfInBounds_toArray, List.set_cons_zero, List.set_cons_succ]
        refine wpAnyH_ready (rs := [4, 9]) (by kernel_rfl) (by simp) ?_
        refine AllReadyH.cons rfl (fun K hK => ?_) (AllReadyH.cons rfl (fun K hK => ?_) AllReadyH.nil)
        · rw [if_pos (by rfl)]
          refine wp_append_own _ _ _ 23 rfl wd.heap.size 29 i0 _ 4 64 Try.underlying23 hI0 hz0 hz1 hz2 rfl (by decide) (.slice (some ⟨wd.heap.size, 0, none⟩) 0 0) 0 [] rfl (World.ownsRow.drew (emptyP wd)) ⟨g, 0, none⟩ i mc (flat4 (els.take i)) rfl (by rw [flat4_len, List.length_take]; omega) (by simpa using newsP (s := 0) (unhide HOc) (bE) hgc takeP) (flat4_one (unhide HEL) (fun e he => List.mem_of_mem_take he)) (by unfold maxLen; omega) (by omega) (bE).size ?_
          intro v6 w6 hown6 hgrow6 _
          have o6 : w6.ownsRow wd.heap.size 29 4 v6 i (flat4 (els.take i)) := by simpa using hown6
          have O6 := hide o6
          clear o6
          have G6 := hide (grown_below (B := wd.heap.size) (World.ownsRow.drew (emptyP wd)) hgrow6 (bE) (bE).size)
          clear hown6 hgrow6
          change K (Act.put _ (some 58) _) _
          refine hK.out _ _ ?_ (fun hHeldN => ?_)
          · exact unhide HS _ (unhide G6)
          clear hHeld
          have hHeld := hHeldN
          clear hHeldN
          clear hK K
          try simp only [Act.put, List.setIfInBounds_toArray, List.set_cons_zero, List.set_cons_succ]
          refine wpAnyH_ready (rs := [9]) (by kernel_rfl) (by simp) ?_
          refine AllReadyH.cons rfl (fun K hK => ?_) AllReadyH.nil
          go_simp
          have H9 := hide (heap_alloc_new w6 (.cells #[.int .i64 x.1.1, .int .i64 x.1.2.1, x.2.1, x.2.2] 29))
          have G9 := hide ((unhide G6).trans ((below1 w6 (.cells #[.int .i64 x.1.1, .int .i64 x.1.2.1, x.2.1, x.2.2] 29)).mono (unhide G6).size))
          have O9 := hide (own_later (unhide O6) (below1 w6 (.cells #[.int .i64 x.1.1, .int .i64 x.1.2.1, x.2.1, x.2.2] 29)))
          refine hK.out _ _ ?_ (fun hHeldN => ?_)
          · exact unhide HS _ (unhide G9)
          clear hHeld
          have hHeld := hHeldN
          clear hHeldN
          clear hK K
          try simp only [Act.put, List.setIfInBounds_toArray, List.set_cons_zero, List.set_cons_succ]
          refine wpAnyH_ready (rs := [10]) (by kernel_rfl) (by simp) ?_
          refine AllReadyH.cons rfl (fun K hK => ?_) AllReadyH.nil
          rw [if_pos (by rfl)]
          refine wp_append_own _ _ _ 23 rfl wd.heap.size 29 i0 _ 4 64 Try.underlying23 hI0 hz0 hz1 hz2 rfl (by decide) v6 i (flat4 (els.take i)) rfl (unhide O9) ⟨w6.heap.size, 0, none⟩ 1 1 [.int .i64 x.1.1, .int .i64 x.1.2.1, x.2.1, x.2.2] rfl rfl (World.news_of_block (unhide H9)) (one4 x1 x2) (by unfold maxLen; omega) (by omega) (unhide G9).size ?_
          intro v7 w7 hown7 hgrow7 _
          have G7 := hide (grown_below (B := wd.heap.size) (unhide O9) hgrow7 (unhide G9) (unhide G9).size)
          have O7 := hide hown7
          clear hown7 hgrow7
          change K (Act.put _ (some 64) _) _
          refine hK.out _ _ ?_ (fun hHeldN => ?_)
          · exact unhide HS _ (unhide G7)
          clear hHeld
          have hHeld := hHeldN
          clear hHeldN
          clear hK K
          try simp only [Act.put, List.setIfInBounds_toArray, List.set_cons_zero, List.set_cons_succ]
          refine wpAnyH_ready (rs := [14]) (by kernel_rfl) (by simp) ?_
          refine AllReadyH.cons rfl (fun K hK => ?_) AllReadyH.nil
          rw [if_pos (by rfl)]
          refine wp_append_own _ _ _ 23 rfl wd.heap.size 29 i0 _ 4 64 Try.underlying23 hI0 hz0 hz1 hz2 rfl (by decide) v7 (i + 1) (flat4 (els.take i) ++ [.int .i64 x.1.1, .int .i64 x.1.2.1, x.2.1, x.2.2]) rfl (unhide O7) ⟨g, i * 4, none⟩ _ _ (flat4 (els.drop i)) rfl (by rw [flat4_len, List.length_drop]) (newsP (s := i) (unhide HOc) (unhide G7) hgc dropP) (flat4_one (unhide HEL) (fun e he => List.mem_of_mem_drop he)) (by unfold maxLen; omega) (by omega) (unhide G7).size ?_
          intro v8 w8 hown8 hgrow8 _
          have o8 := twoE_own (x := x) hown8 (by omega)
          have G8 := grown_below (B := wd.heap.size) (unhide O7) hgrow8 (unhide G7) (unhide G7).size
          obtain ⟨za, zc, hv8⟩ := own_formS o8
          subst hv8
          have O8 := hide o8
          have HG8 := hide G8
          clear hown8 hgrow8 o8 G8
          change K (Act.put _ (some 68) _) _
          refine hK.out _ _ ?_ (fun hHeldN => ?_)
          · exact unhide HS _ (unhide HG8)
          clear hHeld
          have hHeld := hHeldN
          clear hHeldN
          clear hK K
          try simp only [Act.put, List.setIfInBounds_toArray, List.set_cons_zero, List.set_cons_succ]
          refine anyH_at (i := 15) (d := some 9) rfl rfl (by kernel_rfl) (by kernel_rfl) (by kernel_rfl) (fun _ _ _ h => h) (by rfl) (v := ?_) ?_ (by assumption) ?_
          rotate_left
          · (intro w hSw; (try dsimp only at hSw); go_simp <;> with_reducible rfl)
          simp only [Act.put, List.setIfInBounds_toArray, List.set_cons_zero, List.set_cons_succ]
          refine wpAnyH_done (by kernel_rfl) ?_ _
          go_wp2_with fail
          go_meet
          exact ⟨za, zc, rfl, unhide O8, unhide HG8⟩
        · go_simp
          have H9 := hide (heap_alloc_new (wd.alloc (.cells #[] 29)) (.cells #[.int .i64 x.1.1, .int .i64 x.1.2.1, x.2.1, x.2.2] 29))
          rw [sz1'] at H9
          refine hK.out _ _ ?_ (fun hHeldN => ?_)
          · exact unhide HS _ (bEO)
          clear hHeld
          have hHeld := hHeldN
          clear hHeldN
          clear hK K
          try simp only [Act.put, List.setIfInBounds_toArray, List.set_cons_zero, List.set_cons_succ]
          refine wpAnyH_ready (rs := [4]) (by kernel_rfl) (by simp) ?_
          refine AllReadyH.cons rfl (fun K hK => ?_) AllReadyH.nil
          rw [if_pos (by rfl)]
          refine wp_append_own _ _ _ 23 rfl wd.heap.size 29 i0 _ 4 64 Try.underlying23 hI0 hz0 hz1 hz2 rfl (by decide) (.slice (some ⟨wd.heap.size, 0, none⟩) 0 0) 0 [] rfl (World.ownsRow.drew (own_later (emptyP wd) (below1 _ (.cells #[.int .i64 x.1.1, .int .i64 x.1.2.1, x.2.1, x.2.2] 29)))) ⟨g, 0, none⟩ i mc (flat4 (els.take i)) rfl (by rw [flat4_len, List.length_take]; omega) (by simpa using newsP (s := 0) (unhide HOc) (bEO) hgc takeP) (flat4_one (unhide HEL) (fun e he => List.mem_of_mem_take he)) (by unfold maxLen; omega) (by omega) (bEO).size ?_
          intro v6 w6 hown6 hgrow6 _
          have o6 : w6.ownsRow wd.heap.size 29 4 v6 i (flat4 (els.take i)) := by simpa using hown6
          have O6 := hide o6
          clear o6
          have G6 := hide (grown_below (B := wd.heap.size) (World.ownsRow.drew (own_later (emptyP wd) (below1 _ (.cells #[.int .i64 x.1.1, .int .i64 x.1.2.1, x.2.1, x.2.2] 29)))) hgrow6 (bEO) (bEO).size)
          have H6 := hide ((hgrow6.block _ (heapLt (unhide H9)) (by simp [Value.ownBlock])).trans (unhide H9))
          clear hown6 hgrow6
          change K (Act.put _ (some 58) _) _
          refine hK.out _ _ ?_ (fun hHeldN => ?_)
          · exact unhide HS _ (unhide G6)
          clear hHeld
          have hHeld := hHeldN
          clear hHeldN
          clear hK K
          try simp only [Act.put, List.setIfInBounds_toArray, List.set_cons_zero, List.set_cons_succ]
          refine wpAnyH_ready (rs := [10]) (by kernel_rfl) (by simp) ?_
          refine AllReadyH.cons rfl (fun K hK => ?_) AllReadyH.nil
          rw [if_pos (by rfl)]
          refine wp_append_own _ _ _ 23 rfl wd.heap.size 29 i0 _ 4 64 Try.underlying23 hI0 hz0 hz1 hz2 rfl (by decide) v6 i (flat4 (els.take i)) rfl (unhide O6) ⟨wd.heap.size + 1, 0, none⟩ 1 1 [.int .i64 x.1.1, .int .i64 x.1.2.1, x.2.1, x.2.2] rfl rfl (World.news_of_block (unhide H6)) (one4 x1 x2) (by unfold maxLen; omega) (by omega) (unhide G6).size ?_
          intro v7 w7 hown7 hgrow7 _
          have G7 := hide (grown_below (B := wd.heap.size) (unhide O6) hgrow7 (unhide G6) (unhide G6).size)
          have O7 := hide hown7
          clear hown7 hgrow7
          change K (Act.put _ (some 64) _) _
          refine hK.out _ _ ?_ (fun hHeldN => ?_)
          · exact unhide HS _ (unhide G7)
          clear hHeld
          have hHeld := hHeldN
          clear hHeldN
          clear hK K
          try simp only [Act.put, List.setIfInBounds_toArray, List.set_cons_zero, List.set_cons_succ]
          refine wpAnyH_ready (rs := [14]) (by kernel_rfl) (by simp) ?_
          refine AllReadyH.cons rfl (fun K hK => ?_) AllReadyH.nil
          rw [if_pos (by rfl)]
          refine wp_append_own _ _ _ 23 rfl wd.heap.size 29 i0 _ 4 64 Try.underlying23 hI0 hz0 hz1 hz2 rfl (by decide) v7 (i + 1) (flat4 (els.take i) ++ [.int .i64 x.1.1, .int .i64 x.1.2.1, x.2.1, x.2.2]) rfl (unhide O7) ⟨g, i * 4, none⟩ _ _ (flat4 (els.drop i)) rfl (by rw [flat4_len, List.length_drop]) (newsP (s := i) (unhide HOc) (unhide G7) hgc dropP) (flat4_one (unhide HEL) (fun e he => List.mem_of_mem_drop he)) (by unfold maxLen; omega) (by omega) (unhide G7).size ?_
          intro v8 w8 hown8 hgrow8 _
          have o8 := twoE_own (x := x) hown8 (by omega)
          have G8 := grown_below (B := wd.heap.size) (unhide O7) hgrow8 (unhide G7) (unhide G7).size
          obtain ⟨za, zc, hv8⟩ := own_formS o8
          subst hv8
          have O8 := hide o8
          have HG8 := hide G8
          clear hown8 hgrow8 o8 G8
          change K (Act.put _ (some 68) _) _
          refine hK.out _ _ ?_ (fun hHeldN => ?_)
          · exact unhide HS _ (unhide HG8)
          clear hHeld
          have hHeld := hHeldN
          clear hHeldN
          clear hK K
          try simp only [Act.put, List.setIfInBounds_toArray, List.set_cons_zero, List.set_cons_succ]
          refine anyH_at (i := 15) (d := some 9) rfl rfl (by kernel_rfl) (by kernel_rfl) (by kernel_rfl) (fun _ _ _ h => h) (by rfl) (v := ?_) ?_ (by assumption) ?_
          rotate_left
          · (intro w hSw; (try dsimp only at hSw); go_simp <;> with_reducible rfl)
          simp only [Act.put, List.setIfInBounds_toArray, List.set_cons_zero, List.set_cons_succ]
          refine wpAnyH_done (by kernel_rfl) ?_ _
          go_wp2_with fail
          go_meet
          exact ⟨za, zc, rfl, unhide O8, unhide HG8⟩
      · go_simp
        have H9 := hide (heap_alloc_new wd (.cells #[.int .i64 x.1.1, .int .i64 x.1.2.1, x.2.1, x.2.2] 29))
        refine hK.out _ _ ?_ (fun hHeldN => ?_)
        · exact unhide HS _ (bO)
        clear hHeld
        have hHeld := hHeldN
        clear hHeldN
        clear hK K
        try simp only [Act.put, List.setIfInBounds_toArray, List.set_cons_zero, List.set_cons_succ]
        refine wpAnyH_ready (rs := [0]) (by kernel_rfl) (by simp) ?_
        refine AllReadyH.cons rfl (fun K hK => ?_) AllReadyH.nil
        go_simp
        have H9b := hide (((below1 (wd.alloc (.cells #[.int .i64 x.1.1, .int .i64 x.1.2.1, x.2.1, x.2.2] 29)) (.cells #[] 29)).block _ (heapLt (unhide H9))).trans (unhide H9))
        refine hK.out _ _ ?_ (fun hHeldN => ?_)
        · exact unhide HS _ (bOE)
        clear hHeld
        have hHeld := hHeldN
        clear hHeldN
        clear hK K
        try simp only [Act.put, List.setIfInBounds_toArray, List.set_cons_zero, List.set_cons_succ]
        refine wpAnyH_ready (rs := [4]) (by kernel_rfl) (by simp) ?_
        refine AllReadyH.cons rfl (fun K hK => ?_) AllReadyH.nil
        rw [if_pos (by rfl)]
        refine wp_append_own _ _ _ 23 rfl wd.heap.size 29 i0 _ 4 64 Try.underlying23 hI0 hz0 hz1 hz2 rfl (by decide) (.slice (some ⟨wd.heap.size + 1, 0, none⟩) 0 0) 0 [] rfl (World.ownsRow.drew (emptyP2 wd (.cells #[.int .i64 x.1.1, .int .i64 x.1.2.1, x.2.1, x.2.2] 29))) ⟨g, 0, none⟩ i mc (flat4 (els.take i)) rfl (by rw [flat4_len, List.length_take]; omega) (by simpa using newsP (s := 0) (unhide HOc) (bOE) hgc takeP) (flat4_one (unhide HEL) (fun e he => List.mem_of_mem_take he)) (by unfold maxLen; omega) (by omega) (bOE).size ?_
        intro v6 w6 hown6 hgrow6 _
        have o6 : w6.ownsRow wd.heap.size 29 4 v6 i (flat4 (els.take i)) := by simpa using hown6
        have O6 := hide o6
        clear o6
        have G6 := hide (grown_below (B := wd.heap.size) (World.ownsRow.drew (emptyP2 wd (.cells #[.int .i64 x.1.1, .int .i64 x.1.2.1, x.2.1, x.2.2] 29))) hgrow6 (bOE) (bOE).size)
        have H6 := hide ((hgrow6.block _ (heapLt (unhide H9b)) (by simp [Value.ownBlock])).trans (unhide H9b))
        clear hown6 hgrow6
        change K (Act.put _ (some 58) _) _
        refine hK.out _ _ ?_ (fun hHeldN => ?_)
        · exact unhide HS _ (unhide G6)
        clear hHeld
        have hHeld := hHeldN
        clear hHeldN
        clear hK K
        try simp only [Act.put, List.setIfInBounds_toArray, List.set_cons_zero, List.set_cons_succ]
        refine wpAnyH_ready (rs := [10]) (by kernel_rfl) (by simp) ?_
        refine AllReadyH.cons rfl (fun K hK => ?_) AllReadyH.nil
        rw [if_pos (by rfl)]
        refine wp_append_own _ _ _ 23 rfl wd.heap.size 29 i0 _ 4 64 Try.underlying23 hI0 hz0 hz1 hz2 rfl (by decide) v6 i (flat4 (els.take i)) rfl (unhide O6) ⟨wd.heap.size, 0, none⟩ 1 1 [.int .i64 x.1.1, .int .i64 x.1.2.1, x.2.1, x.2.2] rfl rfl (World.news_of_block (unhide H6)) (one4 x1 x2) (by unfold maxLen; omega) (by omega) (unhide G6).size ?_
        intro v7 w7 hown7 hgrow7 _
        have G7 := hide (grown_below (B := wd.heap.size) (unhide O6) hgrow7 (unhide G6) (unhide G6).size)
        have O7 := hide hown7
        clear hown7 hgrow7
        change K (Act.put _ (some 64) _) _
        refine hK.out _ _ ?_ (fun hHeldN => ?_)
        · exact unhide HS _ (unhide G7)
        clear hHeld
        have hHeld := hHeldN
        clear hHeldN
        clear hK K
        try simp only [Act.put, List.setIfInBounds_toArray, List.set_cons_zero, List.set_cons_succ]
        refine wpAnyH_ready (rs := [14]) (by kernel_rfl) (by simp) ?_
        refine AllReadyH.cons rfl (fun K hK => ?_) AllReadyH.nil
        rw [if_pos (by rfl)]
        refine wp_append_own _ _ _ 23 rfl wd.heap.size 29 i0 _ 4 64 Try.underlying23 hI0 hz0 hz1 hz2 rfl (by decide) v7 (i + 1) (flat4 (els.take i) ++ [.int .i64 x.1.1, .int .i64 x.1.2.1, x.2.1, x.2.2]) rfl (unhide O7) ⟨g, i * 4, none⟩ _ _ (flat4 (els.drop i)) rfl (by rw [flat4_len, List.length_drop]) (newsP (s := i) (unhide HOc) (unhide G7) hgc dropP) (flat4_one (unhide HEL) (fun e he => List.mem_of_mem_drop he)) (by unfold maxLen; omega) (by omega) (unhide G7).size ?_
        intro v8 w8 hown8 hgrow8 _
        have o8 := twoE_own (x := x) hown8 (by omega)
        have G8 := grown_below (B := wd.heap.size) (unhide O7) hgrow8 (unhide G7) (unhide G7).size
        obtain ⟨za, zc, hv8⟩ := own_formS o8
        subst hv8
        have O8 := hide o8
        have HG8 := hide G8
        clear hown8 hgrow8 o8 G8
        change K (Act.put _ (some 68) _) _
        refine hK.out _ _ ?_ (fun hHeldN => ?_)
        · exact unhide HS _ (unhide HG8)
        clear hHeld
        have hHeld := hHeldN
        clear hHeldN
        clear hK K
        try simp only [Act.put, List.setIfInBounds_toArray, List.set_cons_zero, List.set_cons_succ]
        refine anyH_at (i := 15) (d := some 9) rfl rfl (by kernel_rfl) (by kernel_rfl) (by kernel_rfl) (fun _ _ _ h => h) (by rfl) (v := ?_) ?_ (by assumption) ?_
        rotate_left
        · (intro w hSw; (try dsimp only at hSw); go_simp <;> with_reducible rfl)
        simp only [Act.put, List.setIfInBounds_toArray, List.set_cons_zero, List.set_cons_succ]
        refine wpAnyH_done (by kernel_rfl) ?_ _
        go_wp2_with fail
        go_meet
        exact ⟨za, zc, rfl, unhide O8, unhide HG8⟩
    case rest =>
      obtain ⟨za, zc, rfl, hoZ, hbZ⟩ := hcut
      have BBY := (unhide BB4).trans ((unhide HBY).mono (unhide BB4).size)
      have hY : Pks (fun _ => True) wc (.slice ya (cutE els i).length yc) ((cutE els i).map (·.1)) := POwn.of (unhide HPO) (BBY.trans (hbZ.mono BBY.size)) (own_later (unhide HOY) hbZ) cutE_mem (by rw [cutE_len hi]; omega)
      have hZ : Pks (fun _ => True) wc (.slice za (twoE els i x).length zc) ((twoE els i x).map (·.1)) := POwn.of (unhide HPO) (BBY.trans (hbZ.mono BBY.size)) hoZ (twoE_mem (unhide HX)) (by rw [twoE_len hi]; omega)
      have BW : Below w.heap.size w wc := (unhide B1).trans ((BBY.trans (hbZ.mono BBY.size)).mono (unhide B1).size)
      have hll : i < l.length := by rw [unhide HL, List.length_map]; exact hi
      have CY := hide (implStoreOk_any wc _ _ hY)
      rw [cutE_map, ← unhide HL, unhide HOK True.intro i hll] at CY
      have CZ := hide (fun (W : World) hW => implStoreOk_any (N := fun _ => True) W (.slice za (twoE els i x).length zc) ((twoE els i x).map (·.1)) hW)
      have e2 : Ix.pkgsOk ((twoE els i x).map (·.1)) = false := by rw [twoE_map _ _ _ (unhide HX), ← unhide HL]; exact Ix.twoP_bad hll
      rw [e2] at CZ
      have HZ := hide hZ
      have HBW := hide BW
      clear hoZ hbZ BBY hY hZ BW hll e2
      go_wp2_with fail
      refine (unhide CY).mono ?_
      rintro e w8 ⟨rfl, b8⟩
      have HZ8 := hide ((unhide HZ).later b8)
      have B8 := hide ((unhide HBW).trans (b8.mono (unhide HBW).size))
      clear b8
      go_wp2_with fail
      refine (unhide CZ _ (unhide HZ8)).mono ?_
      rintro e w9 ⟨rfl, b9⟩
      have B9 := hide ((unhide B8).trans (b9.mono (unhide B8).size))
      clear b9
      go_wp2
      go_ret
      exact ⟨rfl, unhide B9⟩
end Go.Proofs.Ytegindceapclnaa
