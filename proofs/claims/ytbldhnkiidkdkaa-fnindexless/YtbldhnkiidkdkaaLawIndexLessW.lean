/- The walk of FnIndexLess: it returns true and leaves what was there; for every two rows of bytes. -/
import Derived.Test.YtbldhnkiidkdkaaIOkDrawW
import Derived.Test.YtbldhnkiidkdkaaImplIndexOkW
import Derived.Test.YtbldhnkiidkdkaaIdxLessMath
import Derived.Test.YtbldhnkiidkdkaaAllW
import Derived.Deep.CutRange
namespace Go.Proofs.Ytbldhnkiidkdkaa
open Go.RowKit

attribute [local go_sem ↓] Go.wp_at_zero Go.wp_at_succ

theorem Trs.spotL {w : World} {a : Option Addr} {n c : Nat} {k : List Ix.M} (h : Trs w (.slice a n c) k) (hn : 0 < n) : ∃ b off, a = some ⟨b, off, none⟩ ∧ b < w.heap.size ∧ ∀ i, i < n → w.cell? ⟨b, off + i * 3, none⟩ = some (.int .i64 (Ix.nm k i)) ∧ w.cell? ⟨b, off + i * 3 + 1, none⟩ = some (.int .i64 (Ix.vr k i)) ∧ w.cell? ⟨b, off + i * 3 + 2, none⟩ = some (.int .i64 (Ix.sm k i)) := by
  obtain ⟨a', c', hv, hl, hr⟩ := h
  injection hv with e1 e2 e3
  subst e1 e2 e3
  obtain ⟨b, off, ha, hb, hc⟩ := hr hn
  exact ⟨b, off, ha, hb, hc⟩
theorem addM (b off i : Nat) : (⟨b, off, none⟩ : Addr).add i = ⟨b, off + i, none⟩ := by unfold Addr.add; split <;> simp_all
/-- The cells of a row that can be read, from a place on. -/
theorem newsM {w w' : World} {b off m s : Nat} {k t : List Ix.M} (hc : ∀ i, i < k.length → w.cell? ⟨b, off + i * 3, none⟩ = some (.int .i64 (Ix.nm k i)) ∧ w.cell? ⟨b, off + i * 3 + 1, none⟩ = some (.int .i64 (Ix.vr k i)) ∧ w.cell? ⟨b, off + i * 3 + 2, none⟩ = some (.int .i64 (Ix.sm k i))) (hb : Below m w w') (hbm : b < m) (ht : ∀ j, j < t.length → s + j < k.length ∧ t.getD j (0, 0, 0) = k.getD (s + j) (0, 0, 0)) :
    ∀ j u, (flat3 t)[j]? = some u → w'.cell? ((⟨b, off + s * 3, none⟩ : Addr).add j) = some u := by
  intro j u hu
  have hj : j < t.length * 3 := by
    rcases Nat.lt_or_ge j (t.length * 3) with h | h
    · exact h
    · rw [List.getElem?_eq_none (by rw [(flat3_cells t).1]; exact h)] at hu; cases hu
  obtain ⟨h1, h2⟩ := ht (j / 3) (by omega)
  obtain ⟨c0, c1, c2⟩ := hc (s + j / 3) h1
  obtain ⟨a0, a1, a2⟩ := flat3_at t (j / 3) (by omega)
  have e1 : Ix.nm t (j / 3) = Ix.nm k (s + j / 3) ∧ Ix.vr t (j / 3) = Ix.vr k (s + j / 3) ∧ Ix.sm t (j / 3) = Ix.sm k (s + j / 3) := by
    unfold Ix.nm Ix.vr Ix.sm
    rw [h2]
    exact ⟨rfl, rfl, rfl⟩
  rw [addM, hb.cell hbm]
  have hm : j % 3 = 0 ∨ j % 3 = 1 ∨ j % 3 = 2 := by omega
  rcases hm with hm | hm | hm
  · have e : j = j / 3 * 3 := by omega
    rw [show off + s * 3 + j = off + (s + j / 3) * 3 by omega, c0, ← hu, e, Nat.mul_div_cancel _ (by omega), a0, e1.1]
  · have e : j = j / 3 * 3 + 1 := by omega
    rw [show off + s * 3 + j = off + (s + j / 3) * 3 + 1 by omega, c1, ← hu]
    conv => rhs; rw [e]
    rw [a1, e1.2.1]
  · have e : j = j / 3 * 3 + 2 := by omega
    rw [show off + s * 3 + j = off + (s + j / 3) * 3 + 2 by omega, c2, ← hu]
    conv => rhs; rw [e]
    rw [a2, e1.2.2]
theorem take_at {k : List Ix.M} {i : Nat} (hi : i ≤ k.length) : ∀ j, j < (k.take i).length → 0 + j < k.length ∧ (k.take i).getD j (0, 0, 0) = k.getD (0 + j) (0, 0, 0) := fun j hj => by
  rw [List.length_take] at hj
  refine ⟨by omega, ?_⟩
  rw [Nat.zero_add, List.getD_eq_getElem?_getD, List.getD_eq_getElem?_getD, List.getElem?_take_of_lt (by omega)]
theorem drop_at {k : List Ix.M} {i : Nat} : ∀ j, j < (k.drop i).length → i + j < k.length ∧ (k.drop i).getD j (0, 0, 0) = k.getD (i + j) (0, 0, 0) := fun j hj => by
  rw [List.length_drop] at hj
  refine ⟨by omega, ?_⟩
  rw [List.getD_eq_getElem?_getD, List.getD_eq_getElem?_getD, List.getElem?_drop]
theorem all_at {k : List Ix.M} : ∀ j, j < k.length → 0 + j < k.length ∧ k.getD j (0, 0, 0) = k.getD (0 + j) (0, 0, 0) := fun j hj => ⟨by omega, by rw [Nat.zero_add]⟩
theorem emptyM (w : World) : (w.alloc (.cells #[] 29)).ownsRow w.heap.size 29 3 (.slice (some ⟨w.heap.size, 0, none⟩) 0 0) 0 [] :=
  ⟨by simp, .inr ⟨w.heap.size, 0, #[], rfl, Nat.le_refl _, heap_alloc_new _ _, Nat.le_refl _, by unfold maxLen; omega, by simp, by simp⟩⟩
theorem flat3_join (a b : List Ix.M) : flat3 (a ++ b) = flat3 a ++ flat3 b := by unfold flat3; rw [List.flatMap_append]
theorem without_ownM {B : Nat} {w : World} {v : Value} {k : List Ix.M} {i m : Nat} (h : w.ownsRow B 29 3 v (i + m) (flat3 (k.take i) ++ flat3 (k.drop (i + 1)))) (hm : i + m = k.length - 1 ∧ i < k.length) : w.ownsRow B 29 3 v (Ix.without k i).length (flat3 (Ix.without k i)) := by
  rw [Ix.without_length hm.2, ← hm.1]
  unfold Ix.without
  rw [flat3_join]
  exact h
theorem below2M (w : World) (o o2 : Obj) : Below w.heap.size w ((w.alloc o).alloc o2) := (below1 w o).trans ((below1 _ o2).mono (below1 w o).size)
theorem emptyM2 (w : World) (o : Obj) : ((w.alloc o).alloc (.cells #[] 29)).ownsRow w.heap.size 29 3 (.slice (some ⟨w.heap.size + 1, 0, none⟩) 0 0) 0 [] := by
  have h := own_base (emptyM (w.alloc o)) (below1 w o).size
  rwa [sz1'] at h
theorem twice_ownM {B : Nat} {w : World} {v : Value} {k : List Ix.M} {x y z : Int} (h : w.ownsRow B 29 3 v (k.length + 1) (flat3 k ++ [.int .i64 x, .int .i64 y, .int .i64 z])) : w.ownsRow B 29 3 v (k ++ [(x, y, z)]).length (flat3 (k ++ [(x, y, z)])) := by
  rw [flat3_snoc, List.length_append]
  exact h

set_option maxHeartbeats 8000000 in
set_option maxRecDepth 100000 in
theorem indexLess_walk (w : World) (a : Option Addr) (len cap : Nat) (a1 : Option Addr) (len1 cap1 : Nat) (h : Bytes w a len cap) (_h1 : Bytes w a1 len1 cap1) :
    Calls Try.prog 3 #[.slice a len cap, .slice a1 len1 cap1] w fun e w' => e = .returned (.bool true) ∧ Below w.heap.size w w' := by
  obtain ⟨i0, hI0, hz0, hz1, hz2⟩ := info_parts infoMeta
  by_cases hbig : (1048576 : Int) < (len : Int)
  · go_enter Try.func3, Try.ntmps3
    go_wp2
    go_ret
    exact ⟨rfl, Below.refl _ _⟩
  have hbig' : decide ((1048576 : Int) < (len : Int)) = false := by simpa using hbig
  by_cases hbig2 : (1048576 : Int) < (len1 : Int)
  · go_enter Try.func3, Try.ntmps3
    go_wp2
    go_ret
    exact ⟨rfl, Below.refl _ _⟩
  have CD := hide (drawIndexOk_any w a len cap h)
  clear h _h1
  go_enter Try.func3, Try.ntmps3
  go_wp2_with fail
  refine (unhide CD).mono ?_
  rintro e w1 ⟨num, til, mv, ms, rfl, hms, im, ⟨ma, mc, hmv, hroom, hmax⟩, b1⟩
  subst hmv
  have bX := below1 w1 (.cells #[.int .i64 num, .int .i64 til, .slice ma ms.length mc] 25)
  have HX2 := hide (heap_alloc_new w1 (.cells #[.int .i64 num, .int .i64 til, .slice ma ms.length mc] 25))
  have I2 := hide (im.later bX)
  have B2 := hide (b1.trans (bX.mono b1.size))
  clear b1 bX im CD
  go_wp2_with fail
  refine (implIndexOk_any _ num til _ ms (unhide I2)).mono ?_
  generalize hX : w1.heap.size = X at *
  clear hX
  generalize w1.alloc _ = W2 at *
  clear w1
  rintro e w3 ⟨rfl, b3⟩
  have HX3 := hide ((b3.block _ (heapLt (unhide HX2))).trans (unhide HX2))
  have I3 := hide ((unhide I2).later b3)
  have B3 := hide ((unhide B2).trans (b3.mono (unhide B2).size))
  clear b3 HX2 I2 B2
  obtain ⟨x0, x1, x2⟩ : _ ∧ _ ∧ _ := ⟨cellOf (unhide HX3) 0, cellOf (unhide HX3) 1, cellOf (unhide HX3) 2⟩
  go_wp2_with fail
  refine (indexOk_any _ num til _ ms (unhide I3)).mono ?_
  rintro e w4 ⟨rfl, b4⟩
  have HX4 := hide ((b4.block _ (heapLt (unhide HX3))).trans (unhide HX3))
  have I4 := hide ((unhide I3).later b4)
  have B4 := hide ((unhide B3).trans (b4.mono (unhide B3).size))
  clear b4 HX3 I3 B3 x0 x1 x2
  obtain ⟨x0, x1, x2⟩ : _ ∧ _ ∧ _ := ⟨cellOf (unhide HX4) 0, cellOf (unhide HX4) 1, cellOf (unhide HX4) 2⟩
  have hne : (Ix.idxOk num til ms != Ix.idxOk num til ms) = false := by simp
  have heq : (Ix.idxOk num til ms == Ix.idxOk num til ms) = true := by simp
  have HOK := hide (fun h => And.intro (fun i hi => Ix.idx_without (num := num) (til := til) (l := ms) (k := i) h hi) (fun i hi => Ix.idx_twice (num := num) (til := til) (l := ms) (k := i) h hi))
  have CO := hide (fun (W : World) hW => indexOk_any W num til (.slice ma ms.length mc) ms hW)
  generalize Ix.idxOk num til ms = ok at *
  cases ok
  · go_wp2_with fail
    refine (unhide CO _ (unhide I4)).mono ?_
    rintro e w5 ⟨rfl, b5⟩
    have B5 := hide ((unhide B4).trans (b5.mono (unhide B4).size))
    clear b5
    go_wp2
    go_ret
    exact ⟨rfl, unhide B5⟩
  by_cases hkl : ms.length = 0
  · have hkz : ((ms.length : Int) == 0) = true := by rw [hkl]; rfl
    have HKL := hide hkl
    clear hkl
    go_wp2_with fail
    refine (unhide CO _ (unhide I4)).mono ?_
    rintro e w5 ⟨rfl, b5⟩
    have B5 := hide ((unhide B4).trans (b5.mono (unhide B4).size))
    clear b5
    go_wp2
    go_ret
    exact ⟨rfl, unhide B5⟩
  obtain ⟨bk, ok, hak, hbk, hcells⟩ := (unhide I4).spotL (by omega)
  subst hak
  have HC := hide hcells
  obtain ⟨i, hi, hrem⟩ : ∃ i : Nat, i < ms.length ∧ (len1 : Int) % (ms.length : Int) = (i : Int) := ⟨len1 % ms.length, Nat.mod_lt _ (by omega), by simp⟩
  have hkz : ((ms.length : Int) == 0) = false := by rw [beq_eq_false_iff_ne]; omega
  have hkz' : ¬ (ms.length : Int) = 0 := by omega
  have hmx : maxLen = 9223372036854775807 := rfl
  have er : IntKind.i64.wrap ((len1 : Int) % (ms.length : Int)) = (len1 : Int) % (ms.length : Int) := by rw [hrem]; simp [IntKind.wrap, IntKind.bits, IntKind.signed]; omega
  have hXlt := heapLt (unhide HX4)
  clear hcells CO hne heq hkl
  go_wp2_with fail
  simp only [hrem]
  clear hrem hkz hkz' er
  have b5 := below1 w4 (.cells #[.int .i64 num, .int .i64 til, .slice (some ⟨bk, ok, none⟩) ms.length mc] 25)
  have HY5 := hide (heap_alloc_new w4 (.cells #[.int .i64 num, .int .i64 til, .slice (some ⟨bk, ok, none⟩) ms.length mc] 25))
  have hY5s := sz1' w4 (.cells #[.int .i64 num, .int .i64 til, .slice (some ⟨bk, ok, none⟩) ms.length mc] 25)
  have HX5 := hide ((b5.block _ hXlt).trans (unhide HX4))
  have HC5 : Hid (∀ i, i < ms.length → (w4.alloc (.cells #[.int .i64 num, .int .i64 til, .slice (some ⟨bk, ok, none⟩) ms.length mc] 25)).cell? ⟨bk, ok + i * 3, none⟩ = some (.int .i64 (Ix.nm ms i)) ∧ (w4.alloc (.cells #[.int .i64 num, .int .i64 til, .slice (some ⟨bk, ok, none⟩) ms.length mc] 25)).cell? ⟨bk, ok + i * 3 + 1, none⟩ = some (.int .i64 (Ix.vr ms i)) ∧ (w4.alloc (.cells #[.int .i64 num, .int .i64 til, .slice (some ⟨bk, ok, none⟩) ms.length mc] 25)).cell? ⟨bk, ok + i * 3 + 2, none⟩ = some (.int .i64 (Ix.sm ms i))) := fun i hi => by rw [b5.cell hbk, b5.cell hbk, b5.cell hbk]; exact unhide HC i hi
  have B5 := hide ((unhide B4).trans (b5.mono (unhide B4).size))
  have hbk5 : bk < (w4.alloc (.cells #[.int .i64 num, .int .i64 til, .slice (some ⟨bk, ok, none⟩) ms.length mc] 25)).heap.size := by omega
  have hYne : X ≠ w4.heap.size := by omega
  have HLTS := hide (And.intro hXlt (And.intro hbk (unhide B4).size))
  clear b5 HX4 HC B4 I4 x0 x1 x2 hbk hXlt
  generalize hW5 : w4.alloc _ = W5 at *
  clear hW5
  generalize w4.heap.size = Yb at *
  clear w4
  have HYS := hide hY5s
  clear hY5s
  have hi0' : (0 : Int) ≤ (i : Int) := by omega
  have hi1 : (i : Int) ≤ (mc : Int) := by omega
  have hi2 : (0 : Int) ≤ (i : Int) + 1 := by omega
  have hi3 : (i : Int) + 1 ≤ (ms.length : Int) := by omega
  have hi4 : (i : Int) < (ms.length : Int) := by omega
  have hck : ¬ mc = 0 := by omega
  have ew : IntKind.i64.wrap ((i : Int) + 1) = (i : Int) + 1 := by simp [IntKind.wrap, IntKind.bits, IntKind.signed]; omega
  have et : ((i : Int) + 1).toNat = i + 1 := by omega
  go_cut [] from 47 to 59 (fun wx => ∃ (ya : Option Addr) (yc : Nat), (∀ k, k < W5.heap.size → k ≠ Yb → wx.heap[k]? = W5.heap[k]?) ∧ W5.heap.size ≤ wx.heap.size ∧ wx.heap[Yb]? = some (.cells #[.int .i64 num, .int .i64 til, .slice ya (Ix.without ms i).length yc] 25 (0, 0)) ∧ Trs wx (.slice ya (Ix.without ms i).length yc) (Ix.without ms i) ∧ wx.os = W5.os ∧ wx.tape = W5.tape ∧ wx.output = W5.output)
  case first =>
    have x2 := cellOf (unhide HX5) 2
    by_cases hce : mc = i + 1
    · have HCE := hide hce
      clear hce
      refine wp_region_held_drew (S := fun w' => w'.cell? ⟨X, 2, none⟩ = some (.slice (some ⟨bk, ok, none⟩) ms.length mc)) (by kernel_rfl) x2 (fun hHeld => ?_)
      refine anyH_at (i := 1) (d := some 48) rfl rfl (by kernel_rfl) (by kernel_rfl) (by kernel_rfl) (fun _ _ _ h => h) (by rfl) (v := ?_) ?_ (by assumption) ?_
      rotate_left
      · (intro w hSw; (try dsimp only at hSw); go_simp <;> with_reducible rfl)
      simp only [Act.put, List.setIfInBounds_toArray, List.set_cons_zero, List.set_cons_succ]
      refine anyH_at (i := 2) (d := some 49) rfl rfl (by kernel_rfl) (by kernel_rfl) (by kernel_rfl) (fun _ _ _ h => h) (by rfl) (v := ?_) ?_ (by assumption) ?_
      rotate_left
      · (intro w hSw; (try dsimp only at hSw); go_simp <;> with_reducible rfl)
      simp only [Act.put, List.setIfInBounds_toArray, List.set_cons_zero, List.set_cons_succ]
      refine anyH_at (i := 3) (d := some 50) rfl rfl (by kernel_rfl) (by kernel_rfl) (by kernel_rfl) (fun _ _ _ h => h) (by rfl) (v := ?_) ?_ (by assumption) ?_
      rotate_left
      · (intro w hSw; (try dsimp only at hSw); go_simp <;> with_reducible rfl)
      simp only [Act.put, List.setIfInBounds_toArray, List.set_cons_zero, List.set_cons_succ]
      refine anyH_at (i := 4) (d := some 51) rfl rfl (by kernel_rfl) (by kernel_rfl) (by kernel_rfl) (fun _ _ _ h => h) (by rfl) (v := ?_) ?_ (by assumption) ?_
      rotate_left
      · (intro w hSw; (try dsimp only at hSw); go_simp <;> with_reducible rfl)
      simp only [Act.put, List.setIfInBounds_toArray, List.set_cons_zero, List.set_cons_succ]
      refine anyH_at (i := 6) (d := some 53) rfl rfl (by kernel_rfl) (by kernel_rfl) (by kernel_rfl) (fun _ _ _ h => h) (by rfl) (v := ?_) ?_ (by assumption) ?_
      rotate_left
      · (intro w hSw; (try dsimp only at hSw); go_simp <;> with_reducible rfl)
      simp only [Act.put, List.setIfInBounds_toArray, List.set_cons_zero, List.set_cons_succ]
      refine anyH_at (i := 7) (d := some 54) rfl rfl (by kernel_rfl) (by kernel_rfl) (by kernel_rfl) (fun _ _ _ h => h) (by rfl) (v := ?_) ?_ (by assumption) ?_
      rotate_left
      · (intro w hSw; (try dsimp only at hSw); go_simp <;> with_reducible rfl)
      simp only [Act.put, List.setIfInBounds_toArray, List.set_cons_zero, List.set_cons_succ]
      refine anyH_at (i := 8) (d := some 55) rfl rfl (by kernel_rfl) (by kernel_rfl) (by kernel_rfl) (fun _ _ _ h => h) (by rfl) (v := ?_) ?_ (by assumption) ?_
      rotate_left
      · (intro w hSw; (try dsimp only at hSw); go_simp <;> with_reducible rfl)
      simp only [Act.put, List.setIfInBounds_toArray, List.set_cons_zero, List.set_cons_succ]
      refine anyH_at (i := 9) (d := some 56) rfl rfl (by kernel_rfl) (by kernel_rfl) (by kernel_rfl) (fun _ _ _ h => h) (by rfl) (v := ?_) ?_ (by assumption) ?_
      rotate_left
      · (intro w hSw; (try dsimp only at hSw); go_simp <;> with_reducible rfl)
      simp only [Act.put, List.setIfInBounds_toArray, List.set_cons_zero, List.set_cons_succ]
      refine anyH_at (i := 10) (d := some 57) rfl rfl (by kernel_rfl) (by kernel_rfl) (by kernel_rfl) (fun _ _ _ h => h) (by rfl) (v := ?_) ?_ (by assumption) ?_
      rotate_left
      · (intro w hSw; (try dsimp only at hSw); have hce := unhide HCE; go_simp <;> with_reducible rfl)
      simp only [Act.put, List.setIfInBounds_toArray, List.set_cons_zero, List.set_cons_succ]
      refine wpAnyH_ready (rs := [0]) (by kernel_rfl) (by simp) ?_
      refine AllReadyH.cons rfl (fun K hK => ?_) AllReadyH.nil
      go_simp
      have bE := below1 W5 (.cells #[] 29)
      refine hK.out _ _ ?_ (fun hHeldN => ?_)
      · exact cellOf ((bE.block _ (heapLt (unhide HX5))).trans (unhide HX5)) 2
      clear hHeld
      have hHeld := hHeldN
      clear hHeldN
      clear hK K
      try simp only [Act.put, List.setIfInBounds_toArray, List.set_cons_zero, List.set_cons_succ]
      refine wpAnyH_ready (rs := [5]) (by kernel_rfl) (by simp) ?_
      refine AllReadyH.cons rfl (fun K hK => ?_) AllReadyH.nil
      rw [if_pos (by rfl)]
      refine wp_append_own _ _ _ 23 rfl W5.heap.size 29 i0 _ 3 24 Try.underlying23 hI0 hz0 hz1 hz2 rfl (by decide) (.slice (some ⟨W5.heap.size, 0, none⟩) 0 0) 0 [] rfl (World.ownsRow.drew (emptyM W5)) ⟨bk, ok, none⟩ i mc (flat3 (ms.take i)) rfl (by rw [(flat3_cells _).1, List.length_take]; omega) (by simpa using newsM (s := 0) (unhide HC5) bE.drew hbk5 (take_at (by omega))) (flat3_cells _).2 (by unfold maxLen; omega) (by omega) (by simp) ?_
      intro v6 w6 hown6 hgrow6 _
      have o6 : w6.ownsRow W5.heap.size 29 3 v6 i (flat3 (ms.take i)) := by simpa using hown6
      have G6 := grown_below (B := W5.heap.size) (World.ownsRow.drew (emptyM W5)) hgrow6 bE.drew bE.drew.size
      have HX6 := hide ((G6.block _ (heapLt (unhide HX5))).trans (unhide HX5))
      have O6 := hide o6
      have HG6 := hide G6
      clear hown6 hgrow6 o6 G6 bE
      change K (Act.put _ (some 52) _) _
      refine hK.out _ _ ?_ (fun hHeldN => ?_)
      · exact cellOf (unhide HX6) 2
      clear hHeld
      have hHeld := hHeldN
      clear hHeldN
      clear hK K
      try simp only [Act.put, List.setIfInBounds_toArray, List.set_cons_zero, List.set_cons_succ]
      refine wpAnyH_ready (rs := [11]) (by kernel_rfl) (by simp) ?_
      refine AllReadyH.cons rfl (fun K hK => ?_) AllReadyH.nil
      rw [if_pos (by rfl)]
      refine wp_append_own _ _ _ 23 rfl W5.heap.size 29 i0 _ 3 24 Try.underlying23 hI0 hz0 hz1 hz2 rfl (by decide) v6 i (flat3 (ms.take i)) rfl (unhide O6) ⟨bk, ok, none⟩ _ _ (flat3 (ms.drop (i + 1))) rfl (by rw [(flat3_cells _).1, List.length_drop]) (by have hce := unhide HCE; intro j u hu; exfalso; have hd : ms.drop (i + 1) = [] := List.drop_eq_nil_of_le (by omega); rw [hd] at hu; simp [flat3] at hu) (flat3_cells _).2 (by unfold maxLen; omega) (by omega) (unhide HG6).size ?_
      intro v7 w7 hown7 hgrow7 _
      have o7 := without_ownM hown7 (by omega)
      have G7 := grown_below (B := W5.heap.size) (unhide O6) hgrow7 (unhide HG6) (unhide HG6).size
      obtain ⟨ya, yc, hv7⟩ := own_formS o7
      subst hv7
      have hX7 := (G7.block _ (heapLt (unhide HX5))).trans (unhide HX5)
      have hY7 := (G7.block _ (heapLt (unhide HY5))).trans (unhide HY5)
      have O7 := hide o7
      have HG7 := hide G7
      have HX7 := hide hX7
      have HY7 := hide hY7
      have yc2 := cellOf hY7 2
      have yf2 := frozenOf hY7 2
      clear hown7 hgrow7 o7 G7 O6 HG6 HX6 hX7 hY7
      change K (Act.put _ (some 58) _) _
      refine hK.out _ _ ?_ (fun hHeldN => ?_)
      · exact cellOf (unhide HX7) 2
      clear hHeld
      have hHeld := hHeldN
      clear hHeldN
      clear hK K
      try simp only [Act.put, List.setIfInBounds_toArray, List.set_cons_zero, List.set_cons_succ]
      refine anyH_at (i := 12) (d := some 59) rfl rfl (by kernel_rfl) (by kernel_rfl) (by kernel_rfl) (fun _ _ _ h => h) (by rfl) (v := ?_) ?_ (by assumption) ?_
      rotate_left
      · (intro w hSw; (try dsimp only at hSw); go_simp <;> with_reducible rfl)
      simp only [Act.put, List.setIfInBounds_toArray, List.set_cons_zero, List.set_cons_succ]
      refine wpAnyH_ready (rs := [13]) (by kernel_rfl) (by simp) ?_
      refine AllReadyH.cons rfl (fun K hK => ?_) AllReadyH.nil
      go_simp
      have far : ∀ k, k ≠ Yb → (w7.setCell ⟨Yb, 2, none⟩ (.slice ya (Ix.without ms i).length yc)).heap[k]? = w7.heap[k]? := fun k hk => Below.heap_setCell _ _ _ _ hk
      refine hK.out _ _ ?_ (fun hHeldN => ?_)
      · exact cellOf ((far X hYne).trans (unhide HX7)) 2
      clear hHeld
      have hHeld := hHeldN
      clear hHeldN
      clear hK K
      try simp only [Act.put, List.setIfInBounds_toArray, List.set_cons_zero, List.set_cons_succ]
      refine wpAnyH_done (by kernel_rfl) ?_ _
      go_wp2_with fail
      go_meet
      refine ⟨ya, yc, fun k hk hne => (far k hne).trans ((unhide HG7).block k hk), by simp only [World.setCell, Array.size_modify]; exact (unhide HG7).size, by rw [heapSet (unhide HY7)]; rfl, ?_, (unhide HG7).os, (unhide HG7).tape, (unhide HG7).output⟩
      exact Trs.own (B := W5.heap.size) (own_set (unhide O7) (unhide HY7) (by decide)) (by have := Ix.without_length hi; omega)
    · refine wp_region_held_drew (S := fun w' => w'.cell? ⟨X, 2, none⟩ = some (.slice (some ⟨bk, ok, none⟩) ms.length mc)) (by kernel_rfl) x2 (fun hHeld => ?_)
      refine anyH_at (i := 1) (d := some 48) rfl rfl (by kernel_rfl) (by kernel_rfl) (by kernel_rfl) (fun _ _ _ h => h) (by rfl) (v := ?_) ?_ (by assumption) ?_
      rotate_left
      · (intro w hSw; (try dsimp only at hSw); go_simp <;> with_reducible rfl)
      simp only [Act.put, List.setIfInBounds_toArray, List.set_cons_zero, List.set_cons_succ]
      refine anyH_at (i := 2) (d := some 49) rfl rfl (by kernel_rfl) (by kernel_rfl) (by kernel_rfl) (fun _ _ _ h => h) (by rfl) (v := ?_) ?_ (by assumption) ?_
      rotate_left
      · (intro w hSw; (try dsimp only at hSw); go_simp <;> with_reducible rfl)
      simp only [Act.put, List.setIfInBounds_toArray, List.set_cons_zero, List.set_cons_succ]
      refine anyH_at (i := 3) (d := some 50) rfl rfl (by kernel_rfl) (by kernel_rfl) (by kernel_rfl) (fun _ _ _ h => h) (by rfl) (v := ?_) ?_ (by assumption) ?_
      rotate_left
      · (intro w hSw; (try dsimp only at hSw); go_simp <;> with_reducible rfl)
      simp only [Act.put, List.setIfInBounds_toArray, List.set_cons_zero, List.set_cons_succ]
      refine anyH_at (i := 4) (d := some 51) rfl rfl (by kernel_rfl) (by kernel_rfl) (by kernel_rfl) (fun _ _ _ h => h) (by rfl) (v := ?_) ?_ (by assumption) ?_
      rotate_left
      · (intro w hSw; (try dsimp only at hSw); go_simp <;> with_reducible rfl)
      simp only [Act.put, List.setIfInBounds_toArray, List.set_cons_zero, List.set_cons_succ]
      refine anyH_at (i := 6) (d := some 53) rfl rfl (by kernel_rfl) (by kernel_rfl) (by kernel_rfl) (fun _ _ _ h => h) (by rfl) (v := ?_) ?_ (by assumption) ?_
      rotate_left
      · (intro w hSw; (try dsimp only at hSw); go_simp <;> with_reducible rfl)
      simp only [Act.put, List.setIfInBounds_toArray, List.set_cons_zero, List.set_cons_succ]
      refine anyH_at (i := 7) (d := some 54) rfl rfl (by kernel_rfl) (by kernel_rfl) (by kernel_rfl) (fun _ _ _ h => h) (by rfl) (v := ?_) ?_ (by assumption) ?_
      rotate_left
      · (intro w hSw; (try dsimp only at hSw); go_simp <;> with_reducible rfl)
      simp only [Act.put, List.setIfInBounds_toArray, List.set_cons_zero, List.set_cons_succ]
      refine anyH_at (i := 8) (d := some 55) rfl rfl (by kernel_rfl) (by kernel_rfl) (by kernel_rfl) (fun _ _ _ h => h) (by rfl) (v := ?_) ?_ (by assumption) ?_
      rotate_left
      · (intro w hSw; (try dsimp only at hSw); go_simp <;> with_reducible rfl)
      simp only [Act.put, List.setIfInBounds_toArray, List.set_cons_zero, List.set_cons_succ]
      refine anyH_at (i := 9) (d := some 56) rfl rfl (by kernel_rfl) (by kernel_rfl) (by kernel_rfl) (fun _ _ _ h => h) (by rfl) (v := ?_) ?_ (by assumption) ?_
      rotate_left
      · (intro w hSw; (try dsimp only at hSw); go_simp <;> with_reducible rfl)
      simp only [Act.put, List.setIfInBounds_toArray, List.set_cons_zero, List.set_cons_succ]
      refine anyH_at (i := 10) (d := some 57) rfl rfl (by kernel_rfl) (by kernel_rfl) (by kernel_rfl) (fun _ _ _ h => h) (by rfl) (v := ?_) ?_ (by assumption) ?_
      rotate_left
      · (intro w hSw; (try dsimp only at hSw); go_simp <;> with_reducible rfl)
      simp only [Act.put, List.setIfInBounds_toArray, List.set_cons_zero, List.set_cons_succ]
      refine wpAnyH_ready (rs := [0]) (by kernel_rfl) (by simp) ?_
      refine AllReadyH.cons rfl (fun K hK => ?_) AllReadyH.nil
      go_simp
      have bE := below1 W5 (.cells #[] 29)
      refine hK.out _ _ ?_ (fun hHeldN => ?_)
      · exact cellOf ((bE.block _ (heapLt (unhide HX5))).trans (unhide HX5)) 2
      clear hHeld
      have hHeld := hHeldN
      clear hHeldN
      clear hK K
      try simp only [Act.put, List.setIfInBounds_toArray, List.set_cons_zero, List.set_cons_succ]
      refine wpAnyH_ready (rs := [5]) (by kernel_rfl) (by simp) ?_
      refine AllReadyH.cons rfl (fun K hK => ?_) AllReadyH.nil
      rw [if_pos (by rfl)]
      refine wp_append_own _ _ _ 23 rfl W5.heap.size 29 i0 _ 3 24 Try.underlying23 hI0 hz0 hz1 hz2 rfl (by decide) (.slice (some ⟨W5.heap.size, 0, none⟩) 0 0) 0 [] rfl (World.ownsRow.drew (emptyM W5)) ⟨bk, ok, none⟩ i mc (flat3 (ms.take i)) rfl (by rw [(flat3_cells _).1, List.length_take]; omega) (by simpa using newsM (s := 0) (unhide HC5) bE.drew hbk5 (take_at (by omega))) (flat3_cells _).2 (by unfold maxLen; omega) (by omega) (by simp) ?_
      intro v6 w6 hown6 hgrow6 _
      have o6 : w6.ownsRow W5.heap.size 29 3 v6 i (flat3 (ms.take i)) := by simpa using hown6
      have G6 := grown_below (B := W5.heap.size) (World.ownsRow.drew (emptyM W5)) hgrow6 bE.drew bE.drew.size
      have HX6 := hide ((G6.block _ (heapLt (unhide HX5))).trans (unhide HX5))
      have O6 := hide o6
      have HG6 := hide G6
      clear hown6 hgrow6 o6 G6 bE
      change K (Act.put _ (some 52) _) _
      refine hK.out _ _ ?_ (fun hHeldN => ?_)
      · exact cellOf (unhide HX6) 2
      clear hHeld
      have hHeld := hHeldN
      clear hHeldN
      clear hK K
      try simp only [Act.put, List.setIfInBounds_toArray, List.set_cons_zero, List.set_cons_succ]
      refine wpAnyH_ready (rs := [11]) (by kernel_rfl) (by simp) ?_
      refine AllReadyH.cons rfl (fun K hK => ?_) AllReadyH.nil
      rw [if_pos (by rfl)]
      refine wp_append_own _ _ _ 23 rfl W5.heap.size 29 i0 _ 3 24 Try.underlying23 hI0 hz0 hz1 hz2 rfl (by decide) v6 i (flat3 (ms.take i)) rfl (unhide O6) ⟨bk, ok + (i + 1) * 3, none⟩ _ _ (flat3 (ms.drop (i + 1))) rfl (by rw [(flat3_cells _).1, List.length_drop]) (newsM (s := i + 1) (unhide HC5) (unhide HG6) hbk5 drop_at) (flat3_cells _).2 (by unfold maxLen; omega) (by omega) (unhide HG6).size ?_
      intro v7 w7 hown7 hgrow7 _
      have o7 := without_ownM hown7 (by omega)
      have G7 := grown_below (B := W5.heap.size) (unhide O6) hgrow7 (unhide HG6) (unhide HG6).size
      obtain ⟨ya, yc, hv7⟩ := own_formS o7
      subst hv7
      have hX7 := (G7.block _ (heapLt (unhide HX5))).trans (unhide HX5)
      have hY7 := (G7.block _ (heapLt (unhide HY5))).trans (unhide HY5)
      have O7 := hide o7
      have HG7 := hide G7
      have HX7 := hide hX7
      have HY7 := hide hY7
      have yc2 := cellOf hY7 2
      have yf2 := frozenOf hY7 2
      clear hown7 hgrow7 o7 G7 O6 HG6 HX6 hX7 hY7
      change K (Act.put _ (some 58) _) _
      refine hK.out _ _ ?_ (fun hHeldN => ?_)
      · exact cellOf (unhide HX7) 2
      clear hHeld
      have hHeld := hHeldN
      clear hHeldN
      clear hK K
      try simp only [Act.put, List.setIfInBounds_toArray, List.set_cons_zero, List.set_cons_succ]
      refine anyH_at (i := 12) (d := some 59) rfl rfl (by kernel_rfl) (by kernel_rfl) (by kernel_rfl) (fun _ _ _ h => h) (by rfl) (v := ?_) ?_ (by assumption) ?_
      rotate_left
      · (intro w hSw; (try dsimp only at hSw); go_simp <;> with_reducible rfl)
      simp only [Act.put, List.setIfInBounds_toArray, List.set_cons_zero, List.set_cons_succ]
      refine wpAnyH_ready (rs := [13]) (by kernel_rfl) (by simp) ?_
      refine AllReadyH.cons rfl (fun K hK => ?_) AllReadyH.nil
      go_simp
      have far : ∀ k, k ≠ Yb → (w7.setCell ⟨Yb, 2, none⟩ (.slice ya (Ix.without ms i).length yc)).heap[k]? = w7.heap[k]? := fun k hk => Below.heap_setCell _ _ _ _ hk
      refine hK.out _ _ ?_ (fun hHeldN => ?_)
      · exact cellOf ((far X hYne).trans (unhide HX7)) 2
      clear hHeld
      have hHeld := hHeldN
      clear hHeldN
      clear hK K
      try simp only [Act.put, List.setIfInBounds_toArray, List.set_cons_zero, List.set_cons_succ]
      refine wpAnyH_done (by kernel_rfl) ?_ _
      go_wp2_with fail
      go_meet
      refine ⟨ya, yc, fun k hk hne => (far k hne).trans ((unhide HG7).block k hk), by simp only [World.setCell, Array.size_modify]; exact (unhide HG7).size, by rw [heapSet (unhide HY7)]; rfl, ?_, (unhide HG7).os, (unhide HG7).tape, (unhide HG7).output⟩
      exact Trs.own (B := W5.heap.size) (own_set (unhide O7) (unhide HY7) (by decide)) (by have := Ix.without_length hi; omega)
  case rest =>
    obtain ⟨ya, yc, hfar, hsz, hY, hT, hos, htp, hop⟩ := hcut
    have hXY : X < Yb := (unhide HLTS).1
    have hbY : bk < Yb := (unhide HLTS).2.1
    have hwY : w.heap.size ≤ Yb := (unhide HLTS).2.2
    have hYW : Yb < W5.heap.size := heapLt (unhide HY5)
    have Bc : Below Yb W5 wc := ⟨hos, htp, hop, hsz, fun k hk => hfar k (by omega) (by omega)⟩
    have BCw : Hid (Below w.heap.size w wc) := (unhide B5).trans (Below.mono Bc hwY)
    have hXc := (hfar X (heapLt (unhide HX5)) (by omega)).trans (unhide HX5)
    have HXc := hide hXc
    have HYc := hide hY
    have HTc := hide hT
    have HCc : Hid (∀ i, i < ms.length → wc.cell? ⟨bk, ok + i * 3, none⟩ = some (.int .i64 (Ix.nm ms i)) ∧ wc.cell? ⟨bk, ok + i * 3 + 1, none⟩ = some (.int .i64 (Ix.vr ms i)) ∧ wc.cell? ⟨bk, ok + i * 3 + 2, none⟩ = some (.int .i64 (Ix.sm ms i))) := fun i hi => by rw [Bc.cell hbY, Bc.cell hbY, Bc.cell hbY]; exact unhide HC5 i hi
    have hbc : bk < wc.heap.size := by omega
    obtain ⟨x0, x1, x2⟩ : _ ∧ _ ∧ _ := ⟨cellOf hXc 0, cellOf hXc 1, cellOf hXc 2⟩
    have hXlt := heapLt hXc
    clear hfar hsz hY hT hos htp hop Bc hXc HX5 HY5 HC5 B5 hbk5 hYW hXY hbY hwY HYS HLTS hYne
    go_wp2_with fail
    have bz := below1 wc (.cells #[.int .i64 num, .int .i64 til, .slice (some ⟨bk, ok, none⟩) ms.length mc] 25)
    have HZz := hide (heap_alloc_new wc (.cells #[.int .i64 num, .int .i64 til, .slice (some ⟨bk, ok, none⟩) ms.length mc] 25))
    have HXz := hide ((bz.block _ hXlt).trans (unhide HXc))
    have HYz := hide ((bz.block _ (heapLt (unhide HYc))).trans (unhide HYc))
    have HBc := hide bz
    have HCz : Hid (∀ i, i < ms.length → (wc.alloc (.cells #[.int .i64 num, .int .i64 til, .slice (some ⟨bk, ok, none⟩) ms.length mc] 25)).cell? ⟨bk, ok + i * 3, none⟩ = some (.int .i64 (Ix.nm ms i)) ∧ (wc.alloc (.cells #[.int .i64 num, .int .i64 til, .slice (some ⟨bk, ok, none⟩) ms.length mc] 25)).cell? ⟨bk, ok + i * 3 + 1, none⟩ = some (.int .i64 (Ix.vr ms i)) ∧ (wc.alloc (.cells #[.int .i64 num, .int .i64 til, .slice (some ⟨bk, ok, none⟩) ms.length mc] 25)).cell? ⟨bk, ok + i * 3 + 2, none⟩ = some (.int .i64 (Ix.sm ms i))) := fun i hi => by rw [bz.cell hbc, bz.cell hbc, bz.cell hbc]; exact unhide HCc i hi
    have HBz := hide ((unhide BCw).trans (bz.mono (unhide BCw).size))
    have HNz := hide (And.intro hXlt (And.intro hbc (And.intro (heapLt (unhide HYc)) (unhide BCw).size)))
    clear bz HXc HYc HCc BCw x0 x1 x2 hXlt hbc
    generalize hWz : wc.alloc _ = Wz at *
    clear hWz
    generalize hzz : wc.heap.size = Zb at *
    have HZZ := hide hzz
    clear hzz
    have hbkz : bk < Wz.heap.size := by have := heapLt (unhide HZz); have := (unhide HNz).2.1; omega
    have cz := unhide HCz i hi
    have hS : ∀ w', Below Wz.heap.size Wz w' → w'.cell? ⟨X, 2, none⟩ = some (.slice (some ⟨bk, ok, none⟩) ms.length mc) ∧ w'.cell? ⟨bk, ok + i * 3, none⟩ = some (.int .i64 (Ix.nm ms i)) ∧ w'.cell? ⟨bk, ok + i * 3 + 1, none⟩ = some (.int .i64 (Ix.vr ms i)) ∧ w'.cell? ⟨bk, ok + i * 3 + 2, none⟩ = some (.int .i64 (Ix.sm ms i)) := fun w' hw' => ⟨cellOf ((hw'.block _ (heapLt (unhide HXz))).trans (unhide HXz)) 2, (hw'.cell hbkz).trans cz.1, (hw'.cell hbkz).trans cz.2.1, (hw'.cell hbkz).trans cz.2.2⟩
    have hS2 : ∀ w' : World, (∀ k, k < Wz.heap.size → k ≠ Zb → w'.heap[k]? = Wz.heap[k]?) → w'.cell? ⟨X, 2, none⟩ = some (.slice (some ⟨bk, ok, none⟩) ms.length mc) ∧ w'.cell? ⟨bk, ok + i * 3, none⟩ = some (.int .i64 (Ix.nm ms i)) ∧ w'.cell? ⟨bk, ok + i * 3 + 1, none⟩ = some (.int .i64 (Ix.vr ms i)) ∧ w'.cell? ⟨bk, ok + i * 3 + 2, none⟩ = some (.int .i64 (Ix.sm ms i)) := fun w' hw' => by
      have hn := unhide HNz
      have eb : w'.heap[bk]? = Wz.heap[bk]? := hw' bk hbkz (by omega)
      exact ⟨cellOf ((hw' X (heapLt (unhide HXz)) (by omega)).trans (unhide HXz)) 2, (World.cell?_of_block (a := ⟨bk, ok + i * 3, none⟩) eb).trans cz.1, (World.cell?_of_block (a := ⟨bk, ok + i * 3 + 1, none⟩) eb).trans cz.2.1, (World.cell?_of_block (a := ⟨bk, ok + i * 3 + 2, none⟩) eb).trans cz.2.2⟩
    have HS := hide hS
    have HS2 := hide hS2
    clear hS hS2 cz
    obtain ⟨tw, htw⟩ : ∃ tw : List Ix.M, tw = ms ++ [(Ix.nm ms i, Ix.vr ms i, Ix.sm ms i)] := ⟨_, rfl⟩
    have htwl : tw.length ≤ 11 := by rw [htw, List.length_append]; simp only [List.length_cons, List.length_nil]; omega
    have HTW := hide htw
    clear htw
    go_cut [] from 61 to 72 (fun wx => ∃ (za : Option Addr) (zc : Nat), (∀ k, k < Wz.heap.size → k ≠ Zb → wx.heap[k]? = Wz.heap[k]?) ∧ Wz.heap.size ≤ wx.heap.size ∧ wx.heap[Zb]? = some (.cells #[.int .i64 num, .int .i64 til, .slice za tw.length zc] 25 (0, 0)) ∧ Trs wx (.slice za tw.length zc) tw ∧ wx.os = Wz.os ∧ wx.tape = Wz.tape ∧ wx.output = Wz.output)
    case first =>
      refine wp_region_held_drew (S := fun w' => w'.cell? ⟨X, 2, none⟩ = some (.slice (some ⟨bk, ok, none⟩) ms.length mc) ∧ w'.cell? ⟨bk, ok + i * 3, none⟩ = some (.int .i64 (Ix.nm ms i)) ∧ w'.cell? ⟨bk, ok + i * 3 + 1, none⟩ = some (.int .i64 (Ix.vr ms i)) ∧ w'.cell? ⟨bk, ok + i * 3 + 2, none⟩ = some (.int .i64 (Ix.sm ms i))) (by kernel_rfl) (unhide HS _ (below_drew Wz)) (fun hHeld => ?_)
      refine anyH_at (i := 1) (d := some 62) rfl rfl (by kernel_rfl) (by kernel_rfl) (by kernel_rfl) (fun _ _ _ h => h) (by rfl) (v := ?_) ?_ (by assumption) ?_
      rotate_left
      · (intro w hSw; (try dsimp only at hSw); go_simp <;> with_reducible rfl)
      simp only [Act.put, List.setIfInBounds_toArray, List.set_cons_zero, List.set_cons_succ]
      refine anyH_at (i := 2) (d := some 63) rfl rfl (by kernel_rfl) (by kernel_rfl) (by kernel_rfl) (fun _ _ _ h => h) (by rfl) (v := ?_) ?_ (by assumption) ?_
      rotate_left
      · (intro w hSw; (try dsimp only at hSw); go_simp <;> with_reducible rfl)
      simp only [Act.put, List.setIfInBounds_toArray, List.set_cons_zero, List.set_cons_succ]
      refine anyH_at (i := 4) (d := some 65) rfl rfl (by kernel_rfl) (by kernel_rfl) (by kernel_rfl) (fun _ _ _ h => h) (by rfl) (v := ?_) ?_ (by assumption) ?_
      rotate_left
      · (intro w hSw; (try dsimp only at hSw); go_simp <;> with_reducible rfl)
      simp only [Act.put, List.setIfInBounds_toArray, List.set_cons_zero, List.set_cons_succ]
      refine anyH_at (i := 5) (d := some 66) rfl rfl (by kernel_rfl) (by kernel_rfl) (by kernel_rfl) (fun _ _ _ h => h) (by rfl) (v := ?_) ?_ (by assumption) ?_
      rotate_left
      · (intro w hSw; (try dsimp only at hSw); go_simp <;> with_reducible rfl)
      simp only [Act.put, List.setIfInBounds_toArray, List.set_cons_zero, List.set_cons_succ]
      refine anyH_at (i := 6) (d := some 67) rfl rfl (by kernel_rfl) (by kernel_rfl) (by kernel_rfl) (fun _ _ _ h => h) (by rfl) (v := ?_) ?_ (by assumption) ?_
      rotate_left
      · (intro w hSw; (try dsimp only at hSw); go_simp <;> with_reducible rfl)
      simp only [Act.put, List.setIfInBounds_toArray, List.set_cons_zero, List.set_cons_succ]
      refine anyH_at (i := 7) (d := some 68) rfl rfl (by kernel_rfl) (by kernel_rfl) (by kernel_rfl) (fun _ _ _ h => h) (by rfl) (v := ?_) ?_ (by assumption) ?_
      rotate_left
      · (intro w hSw; (try dsimp only at hSw); go_simp <;> with_reducible rfl)
      simp only [Act.put, List.setIfInBounds_toArray, List.set_cons_zero, List.set_cons_succ]
      refine anyH_at (i := 8) (d := some 69) rfl rfl (by kernel_rfl) (by kernel_rfl) (by kernel_rfl) (fun _ _ _ h => h) (by rfl) (v := ?_) ?_ (by assumption) ?_
      rotate_left
      · (intro w hSw; (try dsimp only at hSw); go_simp <;> with_reducible rfl)
      simp only [Act.put, List.setIfInBounds_toArray, List.set_cons_zero, List.set_cons_succ]
      have bE := (below1 Wz (.cells #[] 29)).drew
      have bO := (below1 Wz (.cells #[.int .i64 (Ix.nm ms i), .int .i64 (Ix.vr ms i), .int .i64 (Ix.sm ms i)] 29)).drew
      have bEO := (below2M Wz (.cells #[] 29) (.cells #[.int .i64 (Ix.nm ms i), .int .i64 (Ix.vr ms i), .int .i64 (Ix.sm ms i)] 29)).drew
      have bOE := (below2M Wz (.cells #[.int .i64 (Ix.nm ms i), .int .i64 (Ix.vr ms i), .int .i64 (Ix.sm ms i)] 29) (.cells #[] 29)).drew
      refine wpAnyH_ready (rs := [0, 9]) (by kernel_rfl) (by simp) ?_
      refine AllReadyH.cons rfl (fun K hK => ?_) (AllReadyH.cons rfl (fun K hK => ?_) AllReadyH.nil)
      · go_simp
        refine hK.out _ _ ?_ (fun hHeldN => ?_)
        · exact unhide HS _ (bE)
        clear hHeld
        have hHeld := hHeldN
        clear hHeldN
        clear hK K
        try simp only [Act.put, List.setIfInBounds_toArray, List.set_cons_zero, List.set_cons_succ]
        refine wpAnyH_ready (rs := [3, 9]) (by kernel_rfl) (by simp) ?_
        refine AllReadyH.cons rfl (fun K hK => ?_) (AllReadyH.cons rfl (fun K hK => ?_) AllReadyH.nil)
        · rw [if_pos (by rfl)]
          refine wp_append_own _ _ _ 23 rfl Wz.heap.size 29 i0 _ 3 24 Try.underlying23 hI0 hz0 hz1 hz2 rfl (by decide) (.slice (some ⟨Wz.heap.size, 0, none⟩) 0 0) 0 [] rfl (World.ownsRow.drew (emptyM Wz)) ⟨bk, ok, none⟩ ms.length mc (flat3 ms) rfl (by rw [(flat3_cells _).1]) (by simpa using newsM (s := 0) (unhide HCz) (bE) hbkz all_at) (flat3_cells _).2 (by unfold maxLen; omega) (by omega) (bE).size ?_
          intro v6 w6 hown6 hgrow6 _
          have o6 : w6.ownsRow Wz.heap.size 29 3 v6 ms.length (flat3 ms) := (by simpa using hown6)
          have O6 := hide o6
          clear o6
          have G6 := hide (grown_below (B := Wz.heap.size) (World.ownsRow.drew (emptyM Wz)) hgrow6 (bE) (bE).size)
          clear hown6 hgrow6
          change K (Act.put _ (some 64) _) _
          refine hK.out _ _ ?_ (fun hHeldN => ?_)
          · exact unhide HS _ (unhide G6)
          clear hHeld
          have hHeld := hHeldN
          clear hHeldN
          clear hK K
          try simp only [Act.put, List.setIfInBounds_toArray, List.set_cons_zero, List.set_cons_succ]
          refine wpAnyH_ready (rs := [9]) (by kernel_rfl) (by simp) ?_
          refine AllReadyH.cons rfl (fun K hK => ?_) AllReadyH.nil
          go_simp
          have H9 := hide (heap_alloc_new w6 (.cells #[.int .i64 (Ix.nm ms i), .int .i64 (Ix.vr ms i), .int .i64 (Ix.sm ms i)] 29))
          have G9 := hide ((unhide G6).trans ((below1 w6 (.cells #[.int .i64 (Ix.nm ms i), .int .i64 (Ix.vr ms i), .int .i64 (Ix.sm ms i)] 29)).mono (unhide G6).size))
          have O9 := hide (own_later (unhide O6) (below1 w6 (.cells #[.int .i64 (Ix.nm ms i), .int .i64 (Ix.vr ms i), .int .i64 (Ix.sm ms i)] 29)))
          refine hK.out _ _ ?_ (fun hHeldN => ?_)
          · exact unhide HS _ (unhide G9)
          clear hHeld
          have hHeld := hHeldN
          clear hHeldN
          clear hK K
          try simp only [Act.put, List.setIfInBounds_toArray, List.set_cons_zero, List.set_cons_succ]
          refine wpAnyH_ready (rs := [10]) (by kernel_rfl) (by simp) ?_
          refine AllReadyH.cons rfl (fun K hK => ?_) AllReadyH.nil
          rw [if_pos (by rfl)]
          refine wp_append_own _ _ _ 23 rfl Wz.heap.size 29 i0 _ 3 24 Try.underlying23 hI0 hz0 hz1 hz2 rfl (by decide) v6 ms.length (flat3 ms) rfl (unhide O9) ⟨w6.heap.size, 0, none⟩ 1 1 [.int .i64 (Ix.nm ms i), .int .i64 (Ix.vr ms i), .int .i64 (Ix.sm ms i)] rfl rfl (World.news_of_block (unhide H9)) (by simp [Value.oneCell']) (by unfold maxLen; omega) (by omega) (unhide G9).size ?_
          intro v7 w7 hown7 hgrow7 _
          have o7 : w7.ownsRow Wz.heap.size 29 3 v7 tw.length (flat3 tw) := by rw [unhide HTW]; exact twice_ownM hown7
          have G7 := grown_below (B := Wz.heap.size) (unhide O9) hgrow7 (unhide G9) (unhide G9).size
          obtain ⟨ya, yc, hv7⟩ := own_formS o7
          subst hv7
          have hZ7 := (G7.block _ (heapLt (unhide HZz))).trans (unhide HZz)
          have O7 := hide o7
          have HG7 := hide G7
          have HZ7 := hide hZ7
          have zc2 := cellOf hZ7 2
          have zf2 := frozenOf hZ7 2
          clear hown7 hgrow7 o7 G7 hZ7
          change K (Act.put _ (some 71) _) _
          refine hK.out _ _ ?_ (fun hHeldN => ?_)
          · exact unhide HS _ (unhide HG7)
          clear hHeld
          have hHeld := hHeldN
          clear hHeldN
          clear hK K
          try simp only [Act.put, List.setIfInBounds_toArray, List.set_cons_zero, List.set_cons_succ]
          refine anyH_at (i := 11) (d := some 72) rfl rfl (by kernel_rfl) (by kernel_rfl) (by kernel_rfl) (fun _ _ _ h => h) (by rfl) (v := ?_) ?_ (by assumption) ?_
          rotate_left
          · (intro w hSw; (try dsimp only at hSw); go_simp <;> with_reducible rfl)
          simp only [Act.put, List.setIfInBounds_toArray, List.set_cons_zero, List.set_cons_succ]
          refine wpAnyH_ready (rs := [12]) (by kernel_rfl) (by simp) ?_
          refine AllReadyH.cons rfl (fun K hK => ?_) AllReadyH.nil
          go_simp
          have far : ∀ k, k ≠ Zb → (w7.setCell ⟨Zb, 2, none⟩ (.slice ya tw.length yc)).heap[k]? = w7.heap[k]? := fun k hk => Below.heap_setCell _ _ _ _ hk
          refine hK.out _ _ ?_ (fun hHeldN => ?_)
          · exact unhide HS2 _ (fun k hk hne => (far k hne).trans ((unhide HG7).block k hk))
          clear hHeld
          have hHeld := hHeldN
          clear hHeldN
          clear hK K
          try simp only [Act.put, List.setIfInBounds_toArray, List.set_cons_zero, List.set_cons_succ]
          refine wpAnyH_done (by kernel_rfl) ?_ _
          go_wp2_with fail
          go_meet
          refine ⟨ya, yc, fun k hk hne => (far k hne).trans ((unhide HG7).block k hk), by simp only [World.setCell, Array.size_modify]; exact (unhide HG7).size, by rw [heapSet (unhide HZ7)]; rfl, ?_, (unhide HG7).os, (unhide HG7).tape, (unhide HG7).output⟩
          exact Trs.own (B := Wz.heap.size) (own_set (unhide O7) (unhide HZ7) (by decide)) (by omega)
        · go_simp
          have H9 := hide (heap_alloc_new (Wz.alloc (.cells #[] 29)) (.cells #[.int .i64 (Ix.nm ms i), .int .i64 (Ix.vr ms i), .int .i64 (Ix.sm ms i)] 29))
          rw [sz1'] at H9
          refine hK.out _ _ ?_ (fun hHeldN => ?_)
          · exact unhide HS _ (bEO)
          clear hHeld
          have hHeld := hHeldN
          clear hHeldN
          clear hK K
          try simp only [Act.put, List.setIfInBounds_toArray, List.set_cons_zero, List.set_cons_succ]
          refine wpAnyH_ready (rs := [3]) (by kernel_rfl) (by simp) ?_
          refine AllReadyH.cons rfl (fun K hK => ?_) AllReadyH.nil
          rw [if_pos (by rfl)]
          refine wp_append_own _ _ _ 23 rfl Wz.heap.size 29 i0 _ 3 24 Try.underlying23 hI0 hz0 hz1 hz2 rfl (by decide) (.slice (some ⟨Wz.heap.size, 0, none⟩) 0 0) 0 [] rfl (World.ownsRow.drew (own_later (emptyM Wz) (below1 _ (.cells #[.int .i64 (Ix.nm ms i), .int .i64 (Ix.vr ms i), .int .i64 (Ix.sm ms i)] 29)))) ⟨bk, ok, none⟩ ms.length mc (flat3 ms) rfl (by rw [(flat3_cells _).1]) (by simpa using newsM (s := 0) (unhide HCz) (bEO) hbkz all_at) (flat3_cells _).2 (by unfold maxLen; omega) (by omega) (bEO).size ?_
          intro v6 w6 hown6 hgrow6 _
          have o6 : w6.ownsRow Wz.heap.size 29 3 v6 ms.length (flat3 ms) := (by simpa using hown6)
          have O6 := hide o6
          clear o6
          have G6 := hide (grown_below (B := Wz.heap.size) (World.ownsRow.drew (own_later (emptyM Wz) (below1 _ (.cells #[.int .i64 (Ix.nm ms i), .int .i64 (Ix.vr ms i), .int .i64 (Ix.sm ms i)] 29)))) hgrow6 (bEO) (bEO).size)
          have H6 := hide ((hgrow6.block _ (heapLt (unhide H9)) (by simp [Value.ownBlock])).trans (unhide H9))
          clear hown6 hgrow6
          change K (Act.put _ (some 64) _) _
          refine hK.out _ _ ?_ (fun hHeldN => ?_)
          · exact unhide HS _ (unhide G6)
          clear hHeld
          have hHeld := hHeldN
          clear hHeldN
          clear hK K
          try simp only [Act.put, List.setIfInBounds_toArray, List.set_cons_zero, List.set_cons_succ]
          refine wpAnyH_ready (rs := [10]) (by kernel_rfl) (by simp) ?_
          refine AllReadyH.cons rfl (fun K hK => ?_) AllReadyH.nil
          rw [if_pos (by rfl)]
          refine wp_append_own _ _ _ 23 rfl Wz.heap.size 29 i0 _ 3 24 Try.underlying23 hI0 hz0 hz1 hz2 rfl (by decide) v6 ms.length (flat3 ms) rfl (unhide O6) ⟨Wz.heap.size + 1, 0, none⟩ 1 1 [.int .i64 (Ix.nm ms i), .int .i64 (Ix.vr ms i), .int .i64 (Ix.sm ms i)] rfl rfl (World.news_of_block (unhide H6)) (by simp [Value.oneCell']) (by unfold maxLen; omega) (by omega) (unhide G6).size ?_
          intro v7 w7 hown7 hgrow7 _
          have o7 : w7.ownsRow Wz.heap.size 29 3 v7 tw.length (flat3 tw) := by rw [unhide HTW]; exact twice_ownM hown7
          have G7 := grown_below (B := Wz.heap.size) (unhide O6) hgrow7 (unhide G6) (unhide G6).size
          obtain ⟨ya, yc, hv7⟩ := own_formS o7
          subst hv7
          have hZ7 := (G7.block _ (heapLt (unhide HZz))).trans (unhide HZz)
          have O7 := hide o7
          have HG7 := hide G7
          have HZ7 := hide hZ7
          have zc2 := cellOf hZ7 2
          have zf2 := frozenOf hZ7 2
          clear hown7 hgrow7 o7 G7 hZ7
          change K (Act.put _ (some 71) _) _
          refine hK.out _ _ ?_ (fun hHeldN => ?_)
          · exact unhide HS _ (unhide HG7)
          clear hHeld
          have hHeld := hHeldN
          clear hHeldN
          clear hK K
          try simp only [Act.put, List.setIfInBounds_toArray, List.set_cons_zero, List.set_cons_succ]
          refine anyH_at (i := 11) (d := some 72) rfl rfl (by kernel_rfl) (by kernel_rfl) (by kernel_rfl) (fun _ _ _ h => h) (by rfl) (v := ?_) ?_ (by assumption) ?_
          rotate_left
          · (intro w hSw; (try dsimp only at hSw); go_simp <;> with_reducible rfl)
          simp only [Act.put, List.setIfInBounds_toArray, List.set_cons_zero, List.set_cons_succ]
          refine wpAnyH_ready (rs := [12]) (by kernel_rfl) (by simp) ?_
          refine AllReadyH.cons rfl (fun K hK => ?_) AllReadyH.nil
          go_simp
          have far : ∀ k, k ≠ Zb → (w7.setCell ⟨Zb, 2, none⟩ (.slice ya tw.length yc)).heap[k]? = w7.heap[k]? := fun k hk => Below.heap_setCell _ _ _ _ hk
          refine hK.out _ _ ?_ (fun hHeldN => ?_)
          · exact unhide HS2 _ (fun k hk hne => (far k hne).trans ((unhide HG7).block k hk))
          clear hHeld
          have hHeld := hHeldN
          clear hHeldN
          clear hK K
          try simp only [Act.put, List.setIfInBounds_toArray, List.set_cons_zero, List.set_cons_succ]
          refine wpAnyH_done (by kernel_rfl) ?_ _
          go_wp2_with fail
          go_meet
          refine ⟨ya, yc, fun k hk hne => (far k hne).trans ((unhide HG7).block k hk), by simp only [World.setCell, Array.size_modify]; exact (unhide HG7).size, by rw [heapSet (unhide HZ7)]; rfl, ?_, (unhide HG7).os, (unhide HG7).tape, (unhide HG7).output⟩
          exact Trs.own (B := Wz.heap.size) (own_set (unhide O7) (unhide HZ7) (by decide)) (by omega)
      · go_simp
        have H9 := hide (heap_alloc_new Wz (.cells #[.int .i64 (Ix.nm ms i), .int .i64 (Ix.vr ms i), .int .i64 (Ix.sm ms i)] 29))
        refine hK.out _ _ ?_ (fun hHeldN => ?_)
        · exact unhide HS _ (bO)
        clear hHeld
        have hHeld := hHeldN
        clear hHeldN
        clear hK K
        try simp only [Act.put, List.setIfInBounds_toArray, List.set_cons_zero, List.set_cons_succ]
        refine wpAnyH_ready (rs := [0]) (by kernel_rfl) (by simp) ?_
        refine AllReadyH.cons rfl (fun K hK => ?_) AllReadyH.nil
        go_simp
        have H9b := hide (((below1 (Wz.alloc (.cells #[.int .i64 (Ix.nm ms i), .int .i64 (Ix.vr ms i), .int .i64 (Ix.sm ms i)] 29)) (.cells #[] 29)).block _ (heapLt (unhide H9))).trans (unhide H9))
        refine hK.out _ _ ?_ (fun hHeldN => ?_)
        · exact unhide HS _ (bOE)
        clear hHeld
        have hHeld := hHeldN
        clear hHeldN
        clear hK K
        try simp only [Act.put, List.setIfInBounds_toArray, List.set_cons_zero, List.set_cons_succ]
        refine wpAnyH_ready (rs := [3]) (by kernel_rfl) (by simp) ?_
        refine AllReadyH.cons rfl (fun K hK => ?_) AllReadyH.nil
        rw [if_pos (by rfl)]
        refine wp_append_own _ _ _ 23 rfl Wz.heap.size 29 i0 _ 3 24 Try.underlying23 hI0 hz0 hz1 hz2 rfl (by decide) (.slice (some ⟨Wz.heap.size + 1, 0, none⟩) 0 0) 0 [] rfl (World.ownsRow.drew (emptyM2 Wz (.cells #[.int .i64 (Ix.nm ms i), .int .i64 (Ix.vr ms i), .int .i64 (Ix.sm ms i)] 29))) ⟨bk, ok, none⟩ ms.length mc (flat3 ms) rfl (by rw [(flat3_cells _).1]) (by simpa using newsM (s := 0) (unhide HCz) (bOE) hbkz all_at) (flat3_cells _).2 (by unfold maxLen; omega) (by omega) (bOE).size ?_
        intro v6 w6 hown6 hgrow6 _
        have o6 : w6.ownsRow Wz.heap.size 29 3 v6 ms.length (flat3 ms) := (by simpa using hown6)
        have O6 := hide o6
        clear o6
        have G6 := hide (grown_below (B := Wz.heap.size) (World.ownsRow.drew (emptyM2 Wz (.cells #[.int .i64 (Ix.nm ms i), .int .i64 (Ix.vr ms i), .int .i64 (Ix.sm ms i)] 29))) hgrow6 (bOE) (bOE).size)
        have H6 := hide ((hgrow6.block _ (heapLt (unhide H9b)) (by simp [Value.ownBlock])).trans (unhide H9b))
        clear hown6 hgrow6
        change K (Act.put _ (some 64) _) _
        refine hK.out _ _ ?_ (fun hHeldN => ?_)
        · exact unhide HS _ (unhide G6)
        clear hHeld
        have hHeld := hHeldN
        clear hHeldN
        clear hK K
        try simp only [Act.put, List.setIfInBounds_toArray, List.set_cons_zero, List.set_cons_succ]
        refine wpAnyH_ready (rs := [10]) (by kernel_rfl) (by simp) ?_
        refine AllReadyH.cons rfl (fun K hK => ?_) AllReadyH.nil
        rw [if_pos (by rfl)]
        refine wp_append_own _ _ _ 23 rfl Wz.heap.size 29 i0 _ 3 24 Try.underlying23 hI0 hz0 hz1 hz2 rfl (by decide) v6 ms.length (flat3 ms) rfl (unhide O6) ⟨Wz.heap.size, 0, none⟩ 1 1 [.int .i64 (Ix.nm ms i), .int .i64 (Ix.vr ms i), .int .i64 (Ix.sm ms i)] rfl rfl (World.news_of_block (unhide H6)) (by simp [Value.oneCell']) (by unfold maxLen; omega) (by omega) (unhide G6).size ?_
        intro v7 w7 hown7 hgrow7 _
        have o7 : w7.ownsRow Wz.heap.size 29 3 v7 tw.length (flat3 tw) := by rw [unhide HTW]; exact twice_ownM hown7
        have G7 := grown_below (B := Wz.heap.size) (unhide O6) hgrow7 (unhide G6) (unhide G6).size
        obtain ⟨ya, yc, hv7⟩ := own_formS o7
        subst hv7
        have hZ7 := (G7.block _ (heapLt (unhide HZz))).trans (unhide HZz)
        have O7 := hide o7
        have HG7 := hide G7
        have HZ7 := hide hZ7
        have zc2 := cellOf hZ7 2
        have zf2 := frozenOf hZ7 2
        clear hown7 hgrow7 o7 G7 hZ7
        change K (Act.put _ (some 71) _) _
        refine hK.out _ _ ?_ (fun hHeldN => ?_)
        · exact unhide HS _ (unhide HG7)
        clear hHeld
        have hHeld := hHeldN
        clear hHeldN
        clear hK K
        try simp only [Act.put, List.setIfInBounds_toArray, List.set_cons_zero, List.set_cons_succ]
        refine anyH_at (i := 11) (d := some 72) rfl rfl (by kernel_rfl) (by kernel_rfl) (by kernel_rfl) (fun _ _ _ h => h) (by rfl) (v := ?_) ?_ (by assumption) ?_
        rotate_left
        · (intro w hSw; (try dsimp only at hSw); go_simp <;> with_reducible rfl)
        simp only [Act.put, List.setIfInBounds_toArray, List.set_cons_zero, List.set_cons_succ]
        refine wpAnyH_ready (rs := [12]) (by kernel_rfl) (by simp) ?_
        refine AllReadyH.cons rfl (fun K hK => ?_) AllReadyH.nil
        go_simp
        have far : ∀ k, k ≠ Zb → (w7.setCell ⟨Zb, 2, none⟩ (.slice ya tw.length yc)).heap[k]? = w7.heap[k]? := fun k hk => Below.heap_setCell _ _ _ _ hk
        refine hK.out _ _ ?_ (fun hHeldN => ?_)
        · exact unhide HS2 _ (fun k hk hne => (far k hne).trans ((unhide HG7).block k hk))
        clear hHeld
        have hHeld := hHeldN
        clear hHeldN
        clear hK K
        try simp only [Act.put, List.setIfInBounds_toArray, List.set_cons_zero, List.set_cons_succ]
        refine wpAnyH_done (by kernel_rfl) ?_ _
        go_wp2_with fail
        go_meet
        refine ⟨ya, yc, fun k hk hne => (far k hne).trans ((unhide HG7).block k hk), by simp only [World.setCell, Array.size_modify]; exact (unhide HG7).size, by rw [heapSet (unhide HZ7)]; rfl, ?_, (unhide HG7).os, (unhide HG7).tape, (unhide HG7).output⟩
        exact Trs.own (B := Wz.heap.size) (own_set (unhide O7) (unhide HZ7) (by decide)) (by omega)
    case rest =>
      obtain ⟨za, zc, hfar, hsz, hZ, hTw, hos, htp, hop⟩ := hcut
      have hn := unhide HNz
      have Bd : Below Zb Wz wc := ⟨hos, htp, hop, hsz, fun k hk => hfar k (by have := heapLt (unhide HZz); omega) (by omega)⟩
      have HBd : Hid (Below w.heap.size w wc) := (unhide HBz).trans (Below.mono Bd hn.2.2.2)
      have hYd := (Bd.block Yb hn.2.2.1).trans (unhide HYz)
      have hTd : Trs wc (.slice ya (Ix.without ms i).length yc) (Ix.without ms i) := (unhide HTc).later (by rw [unhide HZZ]; exact (unhide HBc).trans Bd)
      have HYd := hide hYd
      have HZd := hide hZ
      have HTd := hide (And.intro hTd hTw)
      obtain ⟨y0, y1, y2⟩ : _ ∧ _ ∧ _ := ⟨cellOf hYd 0, cellOf hYd 1, cellOf hYd 2⟩
      have CY := hide (fun (W : World) hW => implIndexOk_any W num til (.slice ya (Ix.without ms i).length yc) (Ix.without ms i) hW)
      have CZ := hide (fun (W : World) hW => implIndexOk_any W num til (.slice za tw.length zc) tw hW)
      rw [(unhide HOK True.intro).1 i hi] at CY
      rw [show Ix.idxOk num til tw = false by rw [unhide HTW]; exact (unhide HOK True.intro).2 i hi] at CZ
      clear hfar hsz hZ hTw hos htp hop Bd hYd hTd
      go_wp2_with fail
      refine (unhide CY _ (unhide HTd).1).mono ?_
      rintro e w8 ⟨rfl, b8⟩
      have hZ8 := (b8.block _ (heapLt (unhide HZd))).trans (unhide HZd)
      have HT8 := hide ((unhide HTd).2.later b8)
      have B8 := hide ((unhide HBd).trans (b8.mono (unhide HBd).size))
      obtain ⟨z0, z1, z2⟩ : _ ∧ _ ∧ _ := ⟨cellOf hZ8 0, cellOf hZ8 1, cellOf hZ8 2⟩
      clear b8 hZ8 y0 y1 y2
      go_wp2_with fail
      refine (unhide CZ _ (unhide HT8)).mono ?_
      rintro e w9 ⟨rfl, b9⟩
      have B9 := hide ((unhide B8).trans (b9.mono (unhide B8).size))
      clear b9 z0 z1 z2
      go_wp2
      go_ret
      exact ⟨rfl, unhide B9⟩
end Go.Proofs.Ytbldhnkiidkdkaa
