import Derived.Test.YtjehpeojdcaklaaGreatDoorImplHasW
import Derived.Test.YtjehpeojdcaklaaGreatDoorMixI
import Derived.Test.YtjehpeojdcaklaaGreatDoorLuTW
import Derived.Test.YtjehpeojdcaklaaGreatDoorLuW
import Derived.Test.YtjehpeojdcaklaaGreatDoorMixK
import Derived.Test.YtjehpeojdcaklaaGreatDoorLawIndexLessW
import Derived.Deep.CutRange
/- The walk of laws.FnIndexOther: it returns true; for every code. -/
namespace Go.Proofs.YtjehpeojdcaklaaGreatDoor
open Go.RowKit

attribute [local go_sem ↓] Go.wp_at_zero Go.wp_at_succ

set_option maxHeartbeats 8000000 in
set_option maxRecDepth 100000 in
theorem indexOther_walk (w : World) (a0 : Option Addr) (len0 cap0 : Nat) (a1 : Option Addr) (len1 cap1 : Nat) (w0 : Bytes w a0 len0 cap0) (_hb1 : Bytes w a1 len1 cap1) (ev : Addr) (g : Gl w ev) :
    Calls Tryz.prog 6 #[.slice a0 len0 cap0, .slice a1 len1 cap1] w fun e w' => e = .returned (.bool true) ∧ Below w.heap.size w w' := by
  have W0 := hide w0
  clear _hb1
  have G := hide g
  clear w0 g
  by_cases g0 : len0 ≤ 1048576
  rotate_left
  · have g0' : decide ((1048576 : Int) < (len0 : Int)) = true := by simp; omega
    go_enter Tryz.func6, Tryz.ntmps6
    go_wp2
    go_ret
    exact ⟨rfl, Below.refl _ _⟩
  by_cases g1 : len1 ≤ 1048576
  rotate_left
  · have g0' : decide ((1048576 : Int) < (len0 : Int)) = false := by simp; omega
    have g1' : decide ((1048576 : Int) < (len1 : Int)) = true := by simp; omega
    go_enter Tryz.func6, Tryz.ntmps6
    go_wp2
    go_ret
    exact ⟨rfl, Below.refl _ _⟩
  go_enter Tryz.func6, Tryz.ntmps6
  go_wp2_with fail
  refine (drawIndexOf_any w a0 len0 cap0 (unhide W0)).mono ?_
  rintro e w1 ⟨num, til, v, els, rfl, n0, n1, t0, t1, ho, hle, b⟩
  obtain ⟨l, hl⟩ : ∃ l, els.map (·.1) = l := ⟨_, rfl⟩
  have hll : l.length ≤ 8 := by rw [← hl, List.length_map]; exact hle
  have hpk : Pks (fun b => w.heap.size ≤ b) w1 v l := by rw [← hl]; exact POwn.pks (POwn.weak ho (fun b hb => hb.1)) (fun b hb => hb) (by omega)
  have HP := hide hpk
  have BW := hide b
  replace G := hide ((unhide G).later b)
  obtain ⟨pa, pc, hv⟩ := hpk.slice
  subst hv
  clear b ho hle hpk hl W0
  clear els
  go_wp2_with fail
  refine (indexOf_any _ num til _ l (unhide HP)).mono ?_
  rintro e w2 ⟨mv, rfl, ho, b⟩
  have CI := hide (fun (W : World) h => implIndexOf_any (N := fun b => w.heap.size ≤ b) W num til (.slice pa l.length pc) l h)
  have HD := hide (Ix.ofD_facts num til l)
  have hml := Ix.ofD_le8 (num := num) (til := til) (l := l) hll
  obtain ⟨bo, hbo⟩ : ∃ bo, Ix.ofOk num til l = bo := ⟨_, rfl⟩
  obtain ⟨x0, x1, ms, hx⟩ : ∃ x0 x1 ms, Ix.ofD num til l = (x0, x1, ms) := ⟨_, _, _, rfl⟩
  have HBO := hide hbo
  rw [hbo, hx] at CI HD
  rw [hx] at ho hml
  rw [hbo, hx]
  dsimp only at ho hml ⊢
  obtain ⟨fa, fc, rfl⟩ := own_formS ho
  have bx := below1 w2 (.cells #[.int .i64 x0, .int .i64 x1, .slice fa ms.length fc] 28)
  have T2 := hide ((Trs.own ho (by omega)).later bx)
  have X2 := hide (heap_alloc_new w2 (.cells #[.int .i64 x0, .int .i64 x1, .slice fa ms.length fc] 28))
  have b2 := b.trans (bx.mono b.size)
  replace HP := hide ((unhide HP).later b2)
  replace BW := hide ((unhide BW).trans (b2.mono (unhide BW).size))
  replace G := hide ((unhide G).later b2)
  have hne : (bo != bo) = false := by simp
  clear bx b2 b ho hbo hx
  go_wp2_with fail
  refine (unhide CI _ (unhide HP)).mono ?_
  generalize hQ : w2.heap.size = Q at *
  generalize w2.alloc _ = W2 at *
  clear hQ
  clear w2
  rintro e w3 ⟨mv, rfl, ho, b⟩
  dsimp only at ho ⊢
  obtain ⟨ga, gc, rfl⟩ := own_formS ho
  have hroom : ms.length ≤ gc ∧ gc ≤ maxLen := by
    obtain ⟨_, _, er, h1, h2⟩ := own_roomI ho
    injection er with e1 e2 e3
    subst e3
    exact ⟨h1, h2⟩
  have bx := below1 w3 (.cells #[.int .i64 x0, .int .i64 x1, .slice ga ms.length gc] 28)
  have T4 := hide ((Trs.own ho (by omega)).later bx)
  have X4 := hide (heap_alloc_new w3 (.cells #[.int .i64 x0, .int .i64 x1, .slice ga ms.length gc] 28))
  have b4 := b.trans (bx.mono b.size)
  replace T2 := hide ((unhide T2).later b4)
  replace X2 := hide ((b4.block _ (heapLt (unhide X2))).trans (unhide X2))
  replace HP := hide ((unhide HP).later b4)
  replace BW := hide ((unhide BW).trans (b4.mono (unhide BW).size))
  replace G := hide ((unhide G).later b4)
  clear bx b4 b ho CI
  obtain ⟨p0, p1, p2⟩ : _ ∧ _ ∧ _ := ⟨cellOf (unhide X2) 0, cellOf (unhide X2) 1, cellOf (unhide X2) 2⟩
  go_wp2_with fail
  refine (luIndex_same _ x0 x1 _ _ ms (unhide T4) (unhide T2)).mono ?_
  generalize hQ : w3.heap.size = X at *
  generalize w3.alloc _ = W4 at *
  clear hQ
  clear w3
  rintro e w5 ⟨rfl, b⟩
  replace T2 := hide ((unhide T2).later b)
  replace X2 := hide ((b.block _ (heapLt (unhide X2))).trans (unhide X2))
  replace T4 := hide ((unhide T4).later b)
  replace X4 := hide ((b.block _ (heapLt (unhide X4))).trans (unhide X4))
  replace HP := hide ((unhide HP).later b)
  replace BW := hide ((unhide BW).trans (b.mono (unhide BW).size))
  replace G := hide ((unhide G).later b)
  clear b p0 p1 p2
  clear W2
  clear W4
  cases bo with
  | false =>
    obtain ⟨p0, p1, p2⟩ : _ ∧ _ ∧ _ := ⟨cellOf (unhide X2) 0, cellOf (unhide X2) 1, cellOf (unhide X2) 2⟩
    obtain ⟨y0, y1, y2⟩ : _ ∧ _ ∧ _ := ⟨cellOf (unhide X4) 0, cellOf (unhide X4) 1, cellOf (unhide X4) 2⟩
    go_wp2_with fail
    refine (luIndex_same _ x0 x1 _ _ ms (unhide T4) (unhide T2)).mono ?_
    rintro e w6 ⟨rfl, b⟩
    replace BW := hide ((unhide BW).trans (b.mono (unhide BW).size))
    clear b
    go_wp2
    go_ret
    exact ⟨rfl, unhide BW⟩
  | true =>
    obtain ⟨hx0, hx1, hms⟩ : x0 = num ∧ x1 = til ∧ ms = l.map Ix.metaP := by
      have := unhide HD rfl
      injection this with e1 e2
      injection e2 with e2 e3
      exact ⟨e1, e2, e3⟩
    have HO := hide (unhide HBO)
    subst hx0 hx1
    clear HD
    have HMS := hide hms
    have hmlen : ms.length = l.length := by rw [hms, List.length_map]
    have HL := hide hmlen
    clear hms hmlen
    by_cases hl0 : l.length = 0
    · obtain ⟨y0, y1, y2⟩ : _ ∧ _ ∧ _ := ⟨cellOf (unhide X4) 0, cellOf (unhide X4) 1, cellOf (unhide X4) 2⟩
      obtain ⟨p0, p1, p2⟩ : _ ∧ _ ∧ _ := ⟨cellOf (unhide X2) 0, cellOf (unhide X2) 1, cellOf (unhide X2) 2⟩
      have e1 : ((l.length : Int) == 0) = true := by rw [beq_iff_eq]; omega
      clear hl0
      go_wp2_with fail
      refine (luIndex_same _ x0 x1 _ _ ms (unhide T4) (unhide T2)).mono ?_
      rintro e w6 ⟨rfl, b⟩
      replace BW := hide ((unhide BW).trans (b.mono (unhide BW).size))
      clear b
      go_wp2
      go_ret
      exact ⟨rfl, unhide BW⟩
    clear X2 T2
    obtain ⟨i, hil, hrem⟩ : ∃ i : Nat, i < l.length ∧ (len1 : Int) % (l.length : Int) = (i : Int) := ⟨len1 % l.length, Nat.mod_lt _ (by omega), by simp⟩
    have hi : i < ms.length := by have := unhide HL; omega
    obtain ⟨bk, ok, hak, hbk, hcells⟩ := (unhide T4).spotL (by omega)
    subst hak
    have HC := hide hcells
    have hkz : ((l.length : Int) == 0) = false := by rw [beq_eq_false_iff_ne]; omega
    have hkz' : ¬ (l.length : Int) = 0 := by omega
    have hmx : maxLen = 9223372036854775807 := rfl
    have er : IntKind.i64.wrap ((len1 : Int) % (l.length : Int)) = (len1 : Int) % (l.length : Int) := by rw [hrem]; simp [IntKind.wrap, IntKind.bits, IntKind.signed]; omega
    have hXlt := heapLt (unhide X4)
    obtain ⟨x'0, x'1, x'2⟩ : _ ∧ _ ∧ _ := ⟨cellOf (unhide X4) 0, cellOf (unhide X4) 1, cellOf (unhide X4) 2⟩
    clear hcells hne
    go_wp2_with fail
    simp only [hrem]
    clear hrem hkz hkz' er
    obtain ⟨i0, hI0, hz0, hz1, hz2⟩ := info_parts infoMeta
    have b5 := below1 w5 (.cells #[.int .i64 x0, .int .i64 x1, .slice (some ⟨bk, ok, none⟩) ms.length gc] 28)
    have HY5 := hide (heap_alloc_new w5 (.cells #[.int .i64 x0, .int .i64 x1, .slice (some ⟨bk, ok, none⟩) ms.length gc] 28))
    have HX5 := hide ((b5.block _ hXlt).trans (unhide X4))
    have HC5 : Hid (∀ i, i < ms.length → (w5.alloc (.cells #[.int .i64 x0, .int .i64 x1, .slice (some ⟨bk, ok, none⟩) ms.length gc] 28)).cell? ⟨bk, ok + i * 3, none⟩ = some (.int .i64 (Ix.nm ms i)) ∧ (w5.alloc (.cells #[.int .i64 x0, .int .i64 x1, .slice (some ⟨bk, ok, none⟩) ms.length gc] 28)).cell? ⟨bk, ok + i * 3 + 1, none⟩ = some (.int .i64 (Ix.vr ms i)) ∧ (w5.alloc (.cells #[.int .i64 x0, .int .i64 x1, .slice (some ⟨bk, ok, none⟩) ms.length gc] 28)).cell? ⟨bk, ok + i * 3 + 2, none⟩ = some (.int .i64 (Ix.sm ms i))) := fun i hi => by rw [b5.cell hbk, b5.cell hbk, b5.cell hbk]; exact unhide HC i hi
    have hbk5 : bk < (w5.alloc (.cells #[.int .i64 x0, .int .i64 x1, .slice (some ⟨bk, ok, none⟩) ms.length gc] 28)).heap.size := by rw [sz1']; omega
    have hYne : X ≠ w5.heap.size := by omega
    have HPP := hide (And.intro (unhide HP) (And.intro (unhide G) (unhide BW)))
    have hs5 := sz1' w5 (.cells #[.int .i64 x0, .int .i64 x1, .slice (some ⟨bk, ok, none⟩) ms.length gc] 28)
    have B5o := hide b5
    clear b5 X4 HC T4 x'0 x'1 x'2 hbk hXlt HP G BW
    generalize hW5 : w5.alloc _ = W5 at *
    clear hW5
    generalize hYb : w5.heap.size = Yb at *
    have HYB := hide (And.intro hYb hs5)
    clear hYb hs5
    have hi0' : (0 : Int) ≤ (i : Int) := by omega
    have hi1 : (i : Int) ≤ (gc : Int) := by omega
    have hi2 : (0 : Int) ≤ (i : Int) + 1 := by omega
    have hi3 : (i : Int) + 1 ≤ (ms.length : Int) := by omega
    have hi4 : (i : Int) < (ms.length : Int) := by omega
    have hck : ¬ gc = 0 := by omega
    have ew : IntKind.i64.wrap ((i : Int) + 1) = (i : Int) + 1 := by simp [IntKind.wrap, IntKind.bits, IntKind.signed]; omega
    have et : ((i : Int) + 1).toNat = i + 1 := by omega
    go_cut [] from 77 to 89 (fun wx => ∃ (ya : Option Addr) (yc : Nat), (∀ k, k < W5.heap.size → k ≠ Yb → wx.heap[k]? = W5.heap[k]?) ∧ W5.heap.size ≤ wx.heap.size ∧ wx.heap[Yb]? = some (.cells #[.int .i64 x0, .int .i64 x1, .slice ya (Ix.without ms i).length yc] 28 (0, 0)) ∧ Trs wx (.slice ya (Ix.without ms i).length yc) (Ix.without ms i) ∧ wx.os = W5.os ∧ wx.tape = W5.tape ∧ wx.output = W5.output)
    case first =>
      have x2 := cellOf (unhide HX5) 2
      by_cases hce : gc = i + 1
      · have HCE := hide hce
        clear hce
        refine wp_region_held_drew (S := fun w' => w'.cell? ⟨X, 2, none⟩ = some (.slice (some ⟨bk, ok, none⟩) ms.length gc)) (by kernel_rfl) x2 (fun hHeld => ?_)
        refine anyH_at (i := 1) (d := some 78) rfl rfl (by kernel_rfl) (by kernel_rfl) (by kernel_rfl) (fun _ _ _ h => h) (by rfl) (v := ?_) ?_ (by assumption) ?_
        rotate_left
        · (intro w hSw; (try dsimp only at hSw); go_simp <;> with_reducible rfl)
        simp only [Act.put, List.setIfInBounds_toArray, List.set_cons_zero, List.set_cons_succ]
        refine anyH_at (i := 2) (d := some 79) rfl rfl (by kernel_rfl) (by kernel_rfl) (by kernel_rfl) (fun _ _ _ h => h) (by rfl) (v := ?_) ?_ (by assumption) ?_
        rotate_left
        · (intro w hSw; (try dsimp only at hSw); go_simp <;> with_reducible rfl)
        simp only [Act.put, List.setIfInBounds_toArray, List.set_cons_zero, List.set_cons_succ]
        refine anyH_at (i := 3) (d := some 80) rfl rfl (by kernel_rfl) (by kernel_rfl) (by kernel_rfl) (fun _ _ _ h => h) (by rfl) (v := ?_) ?_ (by assumption) ?_
        rotate_left
        · (intro w hSw; (try dsimp only at hSw); go_simp <;> with_reducible rfl)
        simp only [Act.put, List.setIfInBounds_toArray, List.set_cons_zero, List.set_cons_succ]
        refine anyH_at (i := 4) (d := some 81) rfl rfl (by kernel_rfl) (by kernel_rfl) (by kernel_rfl) (fun _ _ _ h => h) (by rfl) (v := ?_) ?_ (by assumption) ?_
        rotate_left
        · (intro w hSw; (try dsimp only at hSw); go_simp <;> with_reducible rfl)
        simp only [Act.put, List.setIfInBounds_toArray, List.set_cons_zero, List.set_cons_succ]
        refine anyH_at (i := 6) (d := some 83) rfl rfl (by kernel_rfl) (by kernel_rfl) (by kernel_rfl) (fun _ _ _ h => h) (by rfl) (v := ?_) ?_ (by assumption) ?_
        rotate_left
        · (intro w hSw; (try dsimp only at hSw); go_simp <;> with_reducible rfl)
        simp only [Act.put, List.setIfInBounds_toArray, List.set_cons_zero, List.set_cons_succ]
        refine anyH_at (i := 7) (d := some 84) rfl rfl (by kernel_rfl) (by kernel_rfl) (by kernel_rfl) (fun _ _ _ h => h) (by rfl) (v := ?_) ?_ (by assumption) ?_
        rotate_left
        · (intro w hSw; (try dsimp only at hSw); go_simp <;> with_reducible rfl)
        simp only [Act.put, List.setIfInBounds_toArray, List.set_cons_zero, List.set_cons_succ]
        refine anyH_at (i := 8) (d := some 85) rfl rfl (by kernel_rfl) (by kernel_rfl) (by kernel_rfl) (fun _ _ _ h => h) (by rfl) (v := ?_) ?_ (by assumption) ?_
        rotate_left
        · (intro w hSw; (try dsimp only at hSw); go_simp <;> with_reducible rfl)
        simp only [Act.put, List.setIfInBounds_toArray, List.set_cons_zero, List.set_cons_succ]
        refine anyH_at (i := 9) (d := some 86) rfl rfl (by kernel_rfl) (by kernel_rfl) (by kernel_rfl) (fun _ _ _ h => h) (by rfl) (v := ?_) ?_ (by assumption) ?_
        rotate_left
        · (intro w hSw; (try dsimp only at hSw); go_simp <;> with_reducible rfl)
        simp only [Act.put, List.setIfInBounds_toArray, List.set_cons_zero, List.set_cons_succ]
        refine anyH_at (i := 10) (d := some 87) rfl rfl (by kernel_rfl) (by kernel_rfl) (by kernel_rfl) (fun _ _ _ h => h) (by rfl) (v := ?_) ?_ (by assumption) ?_
        rotate_left
        · (intro w hSw; (try dsimp only at hSw); have hce := unhide HCE; go_simp <;> with_reducible rfl)
        simp only [Act.put, List.setIfInBounds_toArray, List.set_cons_zero, List.set_cons_succ]
        refine wpAnyH_ready (rs := [0]) (by kernel_rfl) (by simp) ?_
        refine AllReadyH.cons rfl (fun K hK => ?_) AllReadyH.nil
        go_simp
        have bE := below1 W5 (.cells #[] 47)
        refine hK.out _ _ ?_ (fun hHeldN => ?_)
        · exact cellOf ((bE.block _ (heapLt (unhide HX5))).trans (unhide HX5)) 2
        clear hHeld
        have hHeld := hHeldN
        clear hHeldN
        clear hK K
        try simp only [Act.put, List.setIfInBounds_toArray, List.set_cons_zero, List.set_cons_succ]
        refine wpAnyH_ready (rs := [5]) (by kernel_rfl) (by simp) ?_
        refine AllReadyH.cons rfl (fun K hK => ?_) AllReadyH.nil
        rw [if_pos (by rfl)]
        refine wp_append_own _ _ _ 26 rfl W5.heap.size 47 i0 _ 3 24 Tryz.underlying26 hI0 hz0 hz1 hz2 rfl (by decide) (.slice (some ⟨W5.heap.size, 0, none⟩) 0 0) 0 [] rfl (World.ownsRow.drew (emptyM W5)) ⟨bk, ok, none⟩ i gc (flat3 (ms.take i)) rfl (by rw [(flat3_cells _).1, List.length_take]; omega) (by simpa using newsM (s := 0) (unhide HC5) bE.drew hbk5 (take_at (by omega))) (flat3_cells _).2 (by unfold maxLen; omega) (by omega) (by simp) ?_
        intro v6 w6 hown6 hgrow6 _
        have o6 : w6.ownsRow W5.heap.size 47 3 v6 i (flat3 (ms.take i)) := by simpa using hown6
        have G6 := grown_below (B := W5.heap.size) (World.ownsRow.drew (emptyM W5)) hgrow6 bE.drew bE.drew.size
        have HX6 := hide ((G6.block _ (heapLt (unhide HX5))).trans (unhide HX5))
        have O6 := hide o6
        have HG6 := hide G6
        clear hown6 hgrow6 o6 G6 bE
        change K (Act.put _ (some 82) _) _
        refine hK.out _ _ ?_ (fun hHeldN => ?_)
        · exact cellOf (unhide HX6) 2
        clear hHeld
        have hHeld := hHeldN
        clear hHeldN
        clear hK K
        try simp only [Act.put, List.setIfInBounds_toArray, List.set_cons_zero, List.set_cons_succ]
        refine wpAnyH_ready (rs := [11]) (by kernel_rfl) (by simp) ?_
        refine AllReadyH.cons rfl (fun K hK => ?_) AllReadyH.nil
        rw [if_pos (by rfl)]
        refine wp_append_own _ _ _ 26 rfl W5.heap.size 47 i0 _ 3 24 Tryz.underlying26 hI0 hz0 hz1 hz2 rfl (by decide) v6 i (flat3 (ms.take i)) rfl (unhide O6) ⟨bk, ok, none⟩ _ _ (flat3 (ms.drop (i + 1))) rfl (by rw [(flat3_cells _).1, List.length_drop]) (by have hce := unhide HCE; intro j u hu; exfalso; have hd : ms.drop (i + 1) = [] := List.drop_eq_nil_of_le (by omega); rw [hd] at hu; simp [flat3] at hu) (flat3_cells _).2 (by unfold maxLen; omega) (by omega) (unhide HG6).size ?_
        intro v7 w7 hown7 hgrow7 _
        have o7 := without_ownM hown7 (by omega)
        have G7 := grown_below (B := W5.heap.size) (unhide O6) hgrow7 (unhide HG6) (unhide HG6).size
        obtain ⟨ya, yc, hv7⟩ := own_formS o7
        subst hv7
        have hX7 := (G7.block _ (heapLt (unhide HX5))).trans (unhide HX5)
        have hY7 := (G7.block _ (heapLt (unhide HY5))).trans (unhide HY5)
        have O7 := hide o7
        have HG7 := hide G7
        have HX7 := hide hX7
        have HY7 := hide hY7
        have yc2 := cellOf hY7 2
        have yf2 := frozenOf hY7 2
        clear hown7 hgrow7 o7 G7 O6 HG6 HX6 hX7 hY7
        change K (Act.put _ (some 88) _) _
        refine hK.out _ _ ?_ (fun hHeldN => ?_)
        · exact cellOf (unhide HX7) 2
        clear hHeld
        have hHeld := hHeldN
        clear hHeldN
        clear hK K
        try simp only [Act.put, List.setIfInBounds_toArray, List.set_cons_zero, List.set_cons_succ]
        refine anyH_at (i := 12) (d := some 89) rfl rfl (by kernel_rfl) (by kernel_rfl) (by kernel_rfl) (fun _ _ _ h => h) (by rfl) (v := ?_) ?_ (by assumption) ?_
        rotate_left
        · (intro w hSw; (try dsimp only at hSw); go_simp <;> with_reducible rfl)
        simp only [Act.put, List.setIfInBounds_toArray, List.set_cons_zero, List.set_cons_succ]
        refine wpAnyH_ready (rs := [13]) (by kernel_rfl) (by simp) ?_
        refine AllReadyH.cons rfl (fun K hK => ?_) AllReadyH.nil
        go_simp
        have far : ∀ k, k ≠ Yb → (w7.setCell ⟨Yb, 2, none⟩ (.slice ya (Ix.without ms i).length yc)).heap[k]? = w7.heap[k]? := fun k hk => Below.heap_setCell _ _ _ _ hk
        refine hK.out _ _ ?_ (fun hHeldN => ?_)
        · exact cellOf ((far X hYne).trans (unhide HX7)) 2
        clear hHeld
        have hHeld := hHeldN
        clear hHeldN
        clear hK K
        try simp only [Act.put, List.setIfInBounds_toArray, List.set_cons_zero, List.set_cons_succ]
        refine wpAnyH_done (by kernel_rfl) ?_ _
        go_wp2_with fail
        go_meet
        refine ⟨ya, yc, fun k hk hne => (far k hne).trans ((unhide HG7).block k hk), by simp only [World.setCell, Array.size_modify]; exact (unhide HG7).size, by rw [heapSet (unhide HY7)]; rfl, ?_, (unhide HG7).os, (unhide HG7).tape, (unhide HG7).output⟩
        exact Trs.own (B := W5.heap.size) (own_set (unhide O7) (unhide HY7) (by decide)) (by have := Ix.without_length hi; omega)
      · refine wp_region_held_drew (S := fun w' => w'.cell? ⟨X, 2, none⟩ = some (.slice (some ⟨bk, ok, none⟩) ms.length gc)) (by kernel_rfl) x2 (fun hHeld => ?_)
        refine anyH_at (i := 1) (d := some 78) rfl rfl (by kernel_rfl) (by kernel_rfl) (by kernel_rfl) (fun _ _ _ h => h) (by rfl) (v := ?_) ?_ (by assumption) ?_
        rotate_left
        · (intro w hSw; (try dsimp only at hSw); go_simp <;> with_reducible rfl)
        simp only [Act.put, List.setIfInBounds_toArray, List.set_cons_zero, List.set_cons_succ]
        refine anyH_at (i := 2) (d := some 79) rfl rfl (by kernel_rfl) (by kernel_rfl) (by kernel_rfl) (fun _ _ _ h => h) (by rfl) (v := ?_) ?_ (by assumption) ?_
        rotate_left
        · (intro w hSw; (try dsimp only at hSw); go_simp <;> with_reducible rfl)
        simp only [Act.put, List.setIfInBounds_toArray, List.set_cons_zero, List.set_cons_succ]
        refine anyH_at (i := 3) (d := some 80) rfl rfl (by kernel_rfl) (by kernel_rfl) (by kernel_rfl) (fun _ _ _ h => h) (by rfl) (v := ?_) ?_ (by assumption) ?_
        rotate_left
        · (intro w hSw; (try dsimp only at hSw); go_simp <;> with_reducible rfl)
        simp only [Act.put, List.setIfInBounds_toArray, List.set_cons_zero, List.set_cons_succ]
        refine anyH_at (i := 4) (d := some 81) rfl rfl (by kernel_rfl) (by kernel_rfl) (by kernel_rfl) (fun _ _ _ h => h) (by rfl) (v := ?_) ?_ (by assumption) ?_
        rotate_left
        · (intro w hSw; (try dsimp only at hSw); go_simp <;> with_reducible rfl)
        simp only [Act.put, List.setIfInBounds_toArray, List.set_cons_zero, List.set_cons_succ]
        refine anyH_at (i := 6) (d := some 83) rfl rfl (by kernel_rfl) (by kernel_rfl) (by kernel_rfl) (fun _ _ _ h => h) (by rfl) (v := ?_) ?_ (by assumption) ?_
        rotate_left
        · (intro w hSw; (try dsimp only at hSw); go_simp <;> with_reducible rfl)
        simp only [Act.put, List.setIfInBounds_toArray, List.set_cons_zero, List.set_cons_succ]
        refine anyH_at (i := 7) (d := some 84) rfl rfl (by kernel_rfl) (by kernel_rfl) (by kernel_rfl) (fun _ _ _ h => h) (by rfl) (v := ?_) ?_ (by assumption) ?_
        rotate_left
        · (intro w hSw; (try dsimp only at hSw); go_simp <;> with_reducible rfl)
        simp only [Act.put, List.setIfInBounds_toArray, List.set_cons_zero, List.set_cons_succ]
        refine anyH_at (i := 8) (d := some 85) rfl rfl (by kernel_rfl) (by kernel_rfl) (by kernel_rfl) (fun _ _ _ h => h) (by rfl) (v := ?_) ?_ (by assumption) ?_
        rotate_left
        · (intro w hSw; (try dsimp only at hSw); go_simp <;> with_reducible rfl)
        simp only [Act.put, List.setIfInBounds_toArray, List.set_cons_zero, List.set_cons_succ]
        refine anyH_at (i := 9) (d := some 86) rfl rfl (by kernel_rfl) (by kernel_rfl) (by kernel_rfl) (fun _ _ _ h => h) (by rfl) (v := ?_) ?_ (by assumption) ?_
        rotate_left
        · (intro w hSw; (try dsimp only at hSw); go_simp <;> with_reducible rfl)
        simp only [Act.put, List.setIfInBounds_toArray, List.set_cons_zero, List.set_cons_succ]
        refine anyH_at (i := 10) (d := some 87) rfl rfl (by kernel_rfl) (by kernel_rfl) (by kernel_rfl) (fun _ _ _ h => h) (by rfl) (v := ?_) ?_ (by assumption) ?_
        rotate_left
        · (intro w hSw; (try dsimp only at hSw); go_simp <;> with_reducible rfl)
        simp only [Act.put, List.setIfInBounds_toArray, List.set_cons_zero, List.set_cons_succ]
        refine wpAnyH_ready (rs := [0]) (by kernel_rfl) (by simp) ?_
        refine AllReadyH.cons rfl (fun K hK => ?_) AllReadyH.nil
        go_simp
        have bE := below1 W5 (.cells #[] 47)
        refine hK.out _ _ ?_ (fun hHeldN => ?_)
        · exact cellOf ((bE.block _ (heapLt (unhide HX5))).trans (unhide HX5)) 2
        clear hHeld
        have hHeld := hHeldN
        clear hHeldN
        clear hK K
        try simp only [Act.put, List.setIfInBounds_toArray, List.set_cons_zero, List.set_cons_succ]
        refine wpAnyH_ready (rs := [5]) (by kernel_rfl) (by simp) ?_
        refine AllReadyH.cons rfl (fun K hK => ?_) AllReadyH.nil
        rw [if_pos (by rfl)]
        refine wp_append_own _ _ _ 26 rfl W5.heap.size 47 i0 _ 3 24 Tryz.underlying26 hI0 hz0 hz1 hz2 rfl (by decide) (.slice (some ⟨W5.heap.size, 0, none⟩) 0 0) 0 [] rfl (World.ownsRow.drew (emptyM W5)) ⟨bk, ok, none⟩ i gc (flat3 (ms.take i)) rfl (by rw [(flat3_cells _).1, List.length_take]; omega) (by simpa using newsM (s := 0) (unhide HC5) bE.drew hbk5 (take_at (by omega))) (flat3_cells _).2 (by unfold maxLen; omega) (by omega) (by simp) ?_
        intro v6 w6 hown6 hgrow6 _
        have o6 : w6.ownsRow W5.heap.size 47 3 v6 i (flat3 (ms.take i)) := by simpa using hown6
        have G6 := grown_below (B := W5.heap.size) (World.ownsRow.drew (emptyM W5)) hgrow6 bE.drew bE.drew.size
        have HX6 := hide ((G6.block _ (heapLt (unhide HX5))).trans (unhide HX5))
        have O6 := hide o6
        have HG6 := hide G6
        clear hown6 hgrow6 o6 G6 bE
        change K (Act.put _ (some 82) _) _
        refine hK.out _ _ ?_ (fun hHeldN => ?_)
        · exact cellOf (unhide HX6) 2
        clear hHeld
        have hHeld := hHeldN
        clear hHeldN
        clear hK K
        try simp only [Act.put, List.setIfInBounds_toArray, List.set_cons_zero, List.set_cons_succ]
        refine wpAnyH_ready (rs := [11]) (by kernel_rfl) (by simp) ?_
        refine AllReadyH.cons rfl (fun K hK => ?_) AllReadyH.nil
        rw [if_pos (by rfl)]
        refine wp_append_own _ _ _ 26 rfl W5.heap.size 47 i0 _ 3 24 Tryz.underlying26 hI0 hz0 hz1 hz2 rfl (by decide) v6 i (flat3 (ms.take i)) rfl (unhide O6) ⟨bk, ok + (i + 1) * 3, none⟩ _ _ (flat3 (ms.drop (i + 1))) rfl (by rw [(flat3_cells _).1, List.length_drop]) (newsM (s := i + 1) (unhide HC5) (unhide HG6) hbk5 drop_at) (flat3_cells _).2 (by unfold maxLen; omega) (by omega) (unhide HG6).size ?_
        intro v7 w7 hown7 hgrow7 _
        have o7 := without_ownM hown7 (by omega)
        have G7 := grown_below (B := W5.heap.size) (unhide O6) hgrow7 (unhide HG6) (unhide HG6).size
        obtain ⟨ya, yc, hv7⟩ := own_formS o7
        subst hv7
        have hX7 := (G7.block _ (heapLt (unhide HX5))).trans (unhide HX5)
        have hY7 := (G7.block _ (heapLt (unhide HY5))).trans (unhide HY5)
        have O7 := hide o7
        have HG7 := hide G7
        have HX7 := hide hX7
        have HY7 := hide hY7
        have yc2 := cellOf hY7 2
        have yf2 := frozenOf hY7 2
        clear hown7 hgrow7 o7 G7 O6 HG6 HX6 hX7 hY7
        change K (Act.put _ (some 88) _) _
        refine hK.out _ _ ?_ (fun hHeldN => ?_)
        · exact cellOf (unhide HX7) 2
        clear hHeld
        have hHeld := hHeldN
        clear hHeldN
        clear hK K
        try simp only [Act.put, List.setIfInBounds_toArray, List.set_cons_zero, List.set_cons_succ]
        refine anyH_at (i := 12) (d := some 89) rfl rfl (by kernel_rfl) (by kernel_rfl) (by kernel_rfl) (fun _ _ _ h => h) (by rfl) (v := ?_) ?_ (by assumption) ?_
        rotate_left
        · (intro w hSw; (try dsimp only at hSw); go_simp <;> with_reducible rfl)
        simp only [Act.put, List.setIfInBounds_toArray, List.set_cons_zero, List.set_cons_succ]
        refine wpAnyH_ready (rs := [13]) (by kernel_rfl) (by simp) ?_
        refine AllReadyH.cons rfl (fun K hK => ?_) AllReadyH.nil
        go_simp
        have far : ∀ k, k ≠ Yb → (w7.setCell ⟨Yb, 2, none⟩ (.slice ya (Ix.without ms i).length yc)).heap[k]? = w7.heap[k]? := fun k hk => Below.heap_setCell _ _ _ _ hk
        refine hK.out _ _ ?_ (fun hHeldN => ?_)
        · exact cellOf ((far X hYne).trans (unhide HX7)) 2
        clear hHeld
        have hHeld := hHeldN
        clear hHeldN
        clear hK K
        try simp only [Act.put, List.setIfInBounds_toArray, List.set_cons_zero, List.set_cons_succ]
        refine wpAnyH_done (by kernel_rfl) ?_ _
        go_wp2_with fail
        go_meet
        refine ⟨ya, yc, fun k hk hne => (far k hne).trans ((unhide HG7).block k hk), by simp only [World.setCell, Array.size_modify]; exact (unhide HG7).size, by rw [heapSet (unhide HY7)]; rfl, ?_, (unhide HG7).os, (unhide HG7).tape, (unhide HG7).output⟩
        exact Trs.own (B := W5.heap.size) (own_set (unhide O7) (unhide HY7) (by decide)) (by have := Ix.without_length hi; omega)
    case rest =>
      obtain ⟨ya, yc, hfar, hsz, hY, hT, hos, htp, hop⟩ := hcut
      have Bc : Below Yb W5 wc := ⟨hos, htp, hop, hsz, fun k hk => hfar k (by have := (unhide HYB).2; omega) (by omega)⟩
      have B6 : Below w5.heap.size w5 wc := by
        have e := (unhide HYB).1
        have h := (unhide B5o).trans Bc
        rw [← e] at h
        exact h
      have HP := hide ((unhide HPP).1.later B6)
      have G := hide ((unhide HPP).2.1.later B6)
      have BW := hide ((unhide HPP).2.2.trans (B6.mono (unhide HPP).2.2.size))
      have X4 := hide hY
      have T4 := hide hT
      clear hfar hsz hY hT hos htp hop Bc B6 HPP HX5 HY5 HC5 hbk5 HYB B5o hYne hi0' hi1 hi2 hi3 hi4 hck ew et hmx hI0 hz0 hz1 hz2
      obtain ⟨ws, hws⟩ : ∃ ws, Ix.without ms i = ws := ⟨_, rfl⟩
      rw [hws] at X4 T4
      have HWS := hide hws
      clear hws
      obtain ⟨_, _, e1, hlen, hrow⟩ := unhide HP
      injection e1 with e1 _ e3
      subst e1 e3
      go_wp2_with fail
      go_loopw [14] (fun q w' => ∃ k : Nat, k ≤ l.length ∧ q = .int .i64 k ∧ Below wc.heap.size wc w') (fun q _ => l.length - (intOf q).toNat)
      case atStart => exact ⟨0, Nat.zero_le _, rfl, Below.refl _ _⟩
      case round =>
        obtain ⟨k, hk, rfl, hw⟩ := hrel
        have HW := hide hw
        clear hw
        by_cases hlt : k < l.length
        · obtain ⟨bk, off, rfl, hbs, _, hc⟩ := hrow (by omega)
          obtain ⟨fv, dv, hAt, hf, hd⟩ := hc k hlt
          clear hc hrow
          obtain ⟨nm, vr, fs, ds, hpk⟩ : ∃ nm vr fs ds, Ix.pg l k = (nm, vr, fs, ds) := ⟨_, _, _, _, rfl⟩
          have hHas := Ix.other_has (unhide HO) hlt hil
          rw [← unhide HMS, unhide HWS] at hHas
          rw [hpk] at hAt hf hd hHas
          dsimp only at hf hd
          obtain ⟨fa', fc', rfl⟩ := hf.slice
          obtain ⟨da', dc', rfl⟩ := hd.slice
          have HF := hide (And.intro (hf.prs.later (unhide HW)) (hd.prs.later (unhide HW)))
          have hi0 : (0 : Int) ≤ (k : Int) := Int.natCast_nonneg _
          have hi1 : (k : Int) < (l.length : Int) := by omega
          have kk : ∀ w', Below wr.heap.size wr w' → (w'.cell? ⟨Yb, 0, none⟩ = some (.int .i64 x0) ∧ w'.cell? ⟨Yb, 1, none⟩ = some (.int .i64 x1) ∧ w'.cell? ⟨Yb, 2, none⟩ = some (.slice ya ws.length yc)) ∧ (w'.cell? ⟨bk, off + k * 4, none⟩ = some (.int .i64 nm) ∧ w'.cell? ⟨bk, off + k * 4 + 1, none⟩ = some (.int .i64 vr) ∧ w'.cell? ⟨bk, off + k * 4 + 2, none⟩ = some (.slice fa' fs.length fc') ∧ w'.cell? ⟨bk, off + k * 4 + 3, none⟩ = some (.slice da' ds.length dc')) := fun w' hw' => by
            have hb := (unhide HW).trans (hw'.mono (unhide HW).size)
            have hx := (hb.block _ (heapLt (unhide X4))).trans (unhide X4)
            exact ⟨⟨cellOf hx 0, cellOf hx 1, cellOf hx 2⟩, hAt.keep (hb.block bk hbs)⟩
          have KK := hide kk
          have TW := hide ((unhide T4).later (unhide HW))
          have GW := hide ((unhide G).later (unhide HW))
          clear kk hAt hf hd hpk
          obtain ⟨s, hs⟩ : ∃ s : ByteArray, s = ⟨(Pk.text nm vr fs ds).toArray⟩ := ⟨_, rfl⟩
          have hH2 : Ix.hasB x0 x1 ws s.data.toList = decide (k ≠ i) := by
            rw [hs]
            exact hHas
          have hkn : ((k : Int) != (i : Int)) = decide (k ≠ i) := by
            by_cases h : k = i
            · simp [h]
            · have : (k : Int) ≠ (i : Int) := by omega
              simp [h, this]
          have HS := hide hs
          clear hs hHas
          obtain ⟨hb, hhb⟩ : ∃ hb, decide (k ≠ i) = hb := ⟨_, rfl⟩
          rw [hhb] at hH2 hkn
          have hhh : (hb != hb) = false := by cases hb <;> rfl
          have HH := hide hH2
          clear hH2 hhb
          go_wp2_with fail
          go_cut [15, 16] from 96 to 105 (fun y o wx => ∃ (Xb : Nat), y = .pointer (some ⟨Xb, 0, none⟩) ∧ o = .bool hb ∧ Below wr.heap.size wr wx)
          case first =>
            refine wp_region_held_drew (S := fun w' => (w'.cell? ⟨Yb, 0, none⟩ = some (.int .i64 x0) ∧ w'.cell? ⟨Yb, 1, none⟩ = some (.int .i64 x1) ∧ w'.cell? ⟨Yb, 2, none⟩ = some (.slice ya ws.length yc)) ∧ (w'.cell? ⟨bk, off + k * 4, none⟩ = some (.int .i64 nm) ∧ w'.cell? ⟨bk, off + k * 4 + 1, none⟩ = some (.int .i64 vr) ∧ w'.cell? ⟨bk, off + k * 4 + 2, none⟩ = some (.slice fa' fs.length fc') ∧ w'.cell? ⟨bk, off + k * 4 + 3, none⟩ = some (.slice da' ds.length dc'))) (by kernel_rfl) (by exact unhide KK _ (below_drew wr)) (fun hHeld => ?_)
            refine anyH_at (i := 0) (d := some 97) rfl rfl (by kernel_rfl) (by kernel_rfl) (by kernel_rfl) (fun _ _ _ h => h) (by rfl) (v := ?_) ?_ (by assumption) ?_
            rotate_left
            · (intro w hSw; (try dsimp only at hSw); go_simp <;> with_reducible rfl)
            simp only [Act.put, List.setIfInBounds_toArray, List.set_cons_zero, List.set_cons_succ]
            refine anyH_at (i := 1) (d := some 98) rfl rfl (by kernel_rfl) (by kernel_rfl) (by kernel_rfl) (fun _ _ _ h => h) (by rfl) (v := ?_) ?_ (by assumption) ?_
            rotate_left
            · (intro w hSw; (try dsimp only at hSw); go_simp <;> with_reducible rfl)
            simp only [Act.put, List.setIfInBounds_toArray, List.set_cons_zero, List.set_cons_succ]
            refine anyH_at (i := 2) (d := some 99) rfl rfl (by kernel_rfl) (by kernel_rfl) (by kernel_rfl) (fun _ _ _ h => h) (by rfl) (v := ?_) ?_ (by assumption) ?_
            rotate_left
            · (intro w hSw; (try dsimp only at hSw); go_simp <;> with_reducible rfl)
            simp only [Act.put, List.setIfInBounds_toArray, List.set_cons_zero, List.set_cons_succ]
            refine anyH_at (i := 3) (d := some 100) rfl rfl (by kernel_rfl) (by kernel_rfl) (by kernel_rfl) (fun _ _ _ h => h) (by rfl) (v := ?_) ?_ (by assumption) ?_
            rotate_left
            · (intro w hSw; (try dsimp only at hSw); go_simp <;> with_reducible rfl)
            simp only [Act.put, List.setIfInBounds_toArray, List.set_cons_zero, List.set_cons_succ]
            refine anyH_at (i := 4) (d := some 101) rfl rfl (by kernel_rfl) (by kernel_rfl) (by kernel_rfl) (fun _ _ _ h => h) (by rfl) (v := ?_) ?_ (by assumption) ?_
            rotate_left
            · (intro w hSw; (try dsimp only at hSw); go_simp <;> with_reducible rfl)
            simp only [Act.put, List.setIfInBounds_toArray, List.set_cons_zero, List.set_cons_succ]
            have DD : Hid (Below wr.heap.size wr wr.drew) := below_drew wr
            refine wpAnyH_ready (rs := [5, 10]) (by kernel_rfl) (by simp) ?_
            refine AllReadyH.cons rfl (fun K hK => ?_) (AllReadyH.cons rfl (fun K hK => ?_) AllReadyH.nil)
            rotate_left
            · go_simp
              have HBX : Hid ((wr.drew.alloc (.cells #[.int .i64 0, .int .i64 0, .slice none 0 0, .slice none 0 0] 35)).heap[wr.heap.size]? = _) := heap_alloc_new wr.drew (.cells #[.int .i64 0, .int .i64 0, .slice none 0 0, .slice none 0 0] 35)
              have LOX : Hid (wr.heap.size ≤ wr.heap.size) := (unhide DD).size
              have bX := below1 wr.drew (.cells #[.int .i64 0, .int .i64 0, .slice none 0 0, .slice none 0 0] 35)
              replace DD := hide ((unhide DD).trans (bX.mono (unhide DD).size))
              clear bX
              refine hK.out _ _ ?_ (fun hHeldN => ?_)
              · exact unhide KK _ (unhide DD)
              clear hHeld
              have hHeld := hHeldN
              clear hHeldN
              clear hK K
              try simp only [Act.put, List.setIfInBounds_toArray, List.set_cons_zero, List.set_cons_succ]
              refine wpAnyH_ready (rs := [5]) (by kernel_rfl) (by simp) ?_
              refine AllReadyH.cons rfl (fun K hK => ?_) AllReadyH.nil
              go_simp
              have LP := hide (unhide DD).size
              refine (implText_any _ nm vr _ _ fs ds ((unhide HF).1.later (unhide DD)) ((unhide HF).2.later (unhide DD))).mono ?_
              rintro e u1 ⟨rfl, b⟩
              replace DD := hide ((unhide DD).trans (b.mono (unhide DD).size))
              replace HBX := hide ((b.block _ (heapLt (unhide HBX))).trans (unhide HBX))
              rw [← unhide HS]
              clear b LP
              go_wp2_with fail
              refine hK.out _ _ ?_ (fun hHeldN => ?_)
              · exact unhide KK _ (unhide DD)
              clear hHeld
              have hHeld := hHeldN
              clear hHeldN
              clear hK K
              try simp only [Act.put, List.setIfInBounds_toArray, List.set_cons_zero, List.set_cons_succ]
              refine wpAnyH_ready (rs := [6]) (by kernel_rfl) (by simp) ?_
              refine AllReadyH.cons rfl (fun K hK => ?_) AllReadyH.nil
              go_simp
              have LP := hide (unhide DD).size
              refine (implHas_any _ x0 x1 _ ws s ev ((unhide GW).later (unhide DD)) ((unhide TW).later (unhide DD))).mono ?_
              rintro e u2 ⟨fv2, dv2, rfl, hf2, hd2, b⟩
              replace DD := hide ((unhide DD).trans (b.mono (unhide DD).size))
              replace HBX := hide ((b.block _ (heapLt (unhide HBX))).trans (unhide HBX))
              rw [unhide HH]
              generalize Ix.hasD x0 x1 ws s.data.toList = pq at *
              obtain ⟨pn, pv, pf, pd⟩ := pq
              dsimp only at hf2 hd2 ⊢
              obtain ⟨fa2, fc2, rfl⟩ := own_form hf2
              obtain ⟨da2, dc2, rfl⟩ := own_form hd2
              have LO2 := LP
              have OF := hide (own2_base hf2 (unhide LO2))
              have OD := hide (own2_base hd2 (unhide LO2))
              clear hf2 hd2 LO2
              clear b LP
              go_wp2_with fail
              refine hK.out _ _ ?_ (fun hHeldN => ?_)
              · exact unhide KK _ (unhide DD)
              clear hHeld
              have hHeld := hHeldN
              clear hHeldN
              clear hK K
              try simp only [Act.put, List.setIfInBounds_toArray, List.set_cons_zero, List.set_cons_succ]
              refine anyH_at (i := 7) (d := some 96) rfl rfl (by kernel_rfl) (by kernel_rfl) (by kernel_rfl) (fun _ _ _ h => h) (by rfl) (v := ?_) ?_ (by assumption) ?_
              rotate_left
              · (intro w hSw; (try dsimp only at hSw); go_simp <;> with_reducible rfl)
              simp only [Act.put, List.setIfInBounds_toArray, List.set_cons_zero, List.set_cons_succ]
              refine anyH_at (i := 8) (d := some 104) rfl rfl (by kernel_rfl) (by kernel_rfl) (by kernel_rfl) (fun _ _ _ h => h) (by rfl) (v := ?_) ?_ (by assumption) ?_
              rotate_left
              · (intro w hSw; (try dsimp only at hSw); go_simp <;> with_reducible rfl)
              simp only [Act.put, List.setIfInBounds_toArray, List.set_cons_zero, List.set_cons_succ]
              refine anyH_at (i := 9) (d := some 105) rfl rfl (by kernel_rfl) (by kernel_rfl) (by kernel_rfl) (fun _ _ _ h => h) (by rfl) (v := ?_) ?_ (by assumption) ?_
              rotate_left
              · (intro w hSw; (try dsimp only at hSw); go_simp <;> with_reducible rfl)
              simp only [Act.put, List.setIfInBounds_toArray, List.set_cons_zero, List.set_cons_succ]
              refine wpAnyH_ready (rs := [11]) (by kernel_rfl) (by simp) ?_
              refine AllReadyH.cons rfl (fun K hK => ?_) AllReadyH.nil
              obtain ⟨⟨r0, r1, r2, r3⟩, ⟨q0, q1, q2, q3⟩⟩ := box_cells (unhide HBX)
              go_simp
              obtain ⟨hBX, hOF, hOD, hBB⟩ := pkg_fill (unhide HBX) (unhide OF) (unhide OD) (unhide DD) (unhide LOX) rfl
              refine hK.out _ _ ?_ (fun hHeldN => ?_)
              · exact unhide KK _ hBB
              clear hHeld
              have hHeld := hHeldN
              clear hHeldN
              clear hK K
              try simp only [Act.put, List.setIfInBounds_toArray, List.set_cons_zero, List.set_cons_succ]
              refine anyH_at (i := 12) (d := some 16) rfl rfl (by kernel_rfl) (by kernel_rfl) (by kernel_rfl) (fun _ _ _ h => h) (by rfl) (v := ?_) ?_ (by assumption) ?_
              rotate_left
              · (intro w hSw; (try dsimp only at hSw); go_simp <;> with_reducible rfl)
              simp only [Act.put, List.setIfInBounds_toArray, List.set_cons_zero, List.set_cons_succ]
              refine wpAnyH_done (by kernel_rfl) ?_ _
              go_wp2_with fail
              go_meet
              exact ⟨_, rfl, rfl, hBB⟩
            go_simp
            have LP := hide (unhide DD).size
            refine (implText_any _ nm vr _ _ fs ds ((unhide HF).1.later (unhide DD)) ((unhide HF).2.later (unhide DD))).mono ?_
            rintro e u1 ⟨rfl, b⟩
            replace DD := hide ((unhide DD).trans (b.mono (unhide DD).size))
            rw [← unhide HS]
            clear b LP
            go_wp2_with fail
            refine hK.out _ _ ?_ (fun hHeldN => ?_)
            · exact unhide KK _ (unhide DD)
            clear hHeld
            have hHeld := hHeldN
            clear hHeldN
            clear hK K
            try simp only [Act.put, List.setIfInBounds_toArray, List.set_cons_zero, List.set_cons_succ]
            refine wpAnyH_ready (rs := [6, 10]) (by kernel_rfl) (by simp) ?_
            refine AllReadyH.cons rfl (fun K hK => ?_) (AllReadyH.cons rfl (fun K hK => ?_) AllReadyH.nil)
            rotate_left
            · go_simp
              have HBX := hide (heap_alloc_new u1 (.cells #[.int .i64 0, .int .i64 0, .slice none 0 0, .slice none 0 0] 35))
              have LOX : Hid (wr.heap.size ≤ u1.heap.size) := (unhide DD).size
              have bX := below1 u1 (.cells #[.int .i64 0, .int .i64 0, .slice none 0 0, .slice none 0 0] 35)
              replace DD := hide ((unhide DD).trans (bX.mono (unhide DD).size))
              clear bX
              refine hK.out _ _ ?_ (fun hHeldN => ?_)
              · exact unhide KK _ (unhide DD)
              clear hHeld
              have hHeld := hHeldN
              clear hHeldN
              clear hK K
              try simp only [Act.put, List.setIfInBounds_toArray, List.set_cons_zero, List.set_cons_succ]
              generalize hXb : u1.heap.size = Xb at *
              clear hXb
              refine wpAnyH_ready (rs := [6]) (by kernel_rfl) (by simp) ?_
              refine AllReadyH.cons rfl (fun K hK => ?_) AllReadyH.nil
              go_simp
              have LP := hide (unhide DD).size
              refine (implHas_any _ x0 x1 _ ws s ev ((unhide GW).later (unhide DD)) ((unhide TW).later (unhide DD))).mono ?_
              rintro e u2 ⟨fv2, dv2, rfl, hf2, hd2, b⟩
              replace DD := hide ((unhide DD).trans (b.mono (unhide DD).size))
              replace HBX := hide ((b.block _ (heapLt (unhide HBX))).trans (unhide HBX))
              rw [unhide HH]
              generalize Ix.hasD x0 x1 ws s.data.toList = pq at *
              obtain ⟨pn, pv, pf, pd⟩ := pq
              dsimp only at hf2 hd2 ⊢
              obtain ⟨fa2, fc2, rfl⟩ := own_form hf2
              obtain ⟨da2, dc2, rfl⟩ := own_form hd2
              have LO2 := LP
              have OF := hide (own2_base hf2 (unhide LO2))
              have OD := hide (own2_base hd2 (unhide LO2))
              clear hf2 hd2 LO2
              clear b LP
              go_wp2_with fail
              refine hK.out _ _ ?_ (fun hHeldN => ?_)
              · exact unhide KK _ (unhide DD)
              clear hHeld
              have hHeld := hHeldN
              clear hHeldN
              clear hK K
              try simp only [Act.put, List.setIfInBounds_toArray, List.set_cons_zero, List.set_cons_succ]
              refine anyH_at (i := 7) (d := some 96) rfl rfl (by kernel_rfl) (by kernel_rfl) (by kernel_rfl) (fun _ _ _ h => h) (by rfl) (v := ?_) ?_ (by assumption) ?_
              rotate_left
              · (intro w hSw; (try dsimp only at hSw); go_simp <;> with_reducible rfl)
              simp only [Act.put, List.setIfInBounds_toArray, List.set_cons_zero, List.set_cons_succ]
              refine anyH_at (i := 8) (d := some 104) rfl rfl (by kernel_rfl) (by kernel_rfl) (by kernel_rfl) (fun _ _ _ h => h) (by rfl) (v := ?_) ?_ (by assumption) ?_
              rotate_left
              · (intro w hSw; (try dsimp only at hSw); go_simp <;> with_reducible rfl)
              simp only [Act.put, List.setIfInBounds_toArray, List.set_cons_zero, List.set_cons_succ]
              refine anyH_at (i := 9) (d := some 105) rfl rfl (by kernel_rfl) (by kernel_rfl) (by kernel_rfl) (fun _ _ _ h => h) (by rfl) (v := ?_) ?_ (by assumption) ?_
              rotate_left
              · (intro w hSw; (try dsimp only at hSw); go_simp <;> with_reducible rfl)
              simp only [Act.put, List.setIfInBounds_toArray, List.set_cons_zero, List.set_cons_succ]
              refine wpAnyH_ready (rs := [11]) (by kernel_rfl) (by simp) ?_
              refine AllReadyH.cons rfl (fun K hK => ?_) AllReadyH.nil
              obtain ⟨⟨r0, r1, r2, r3⟩, ⟨q0, q1, q2, q3⟩⟩ := box_cells (unhide HBX)
              go_simp
              obtain ⟨hBX, hOF, hOD, hBB⟩ := pkg_fill (unhide HBX) (unhide OF) (unhide OD) (unhide DD) (unhide LOX) rfl
              refine hK.out _ _ ?_ (fun hHeldN => ?_)
              · exact unhide KK _ hBB
              clear hHeld
              have hHeld := hHeldN
              clear hHeldN
              clear hK K
              try simp only [Act.put, List.setIfInBounds_toArray, List.set_cons_zero, List.set_cons_succ]
              refine anyH_at (i := 12) (d := some 16) rfl rfl (by kernel_rfl) (by kernel_rfl) (by kernel_rfl) (fun _ _ _ h => h) (by rfl) (v := ?_) ?_ (by assumption) ?_
              rotate_left
              · (intro w hSw; (try dsimp only at hSw); go_simp <;> with_reducible rfl)
              simp only [Act.put, List.setIfInBounds_toArray, List.set_cons_zero, List.set_cons_succ]
              refine wpAnyH_done (by kernel_rfl) ?_ _
              go_wp2_with fail
              go_meet
              exact ⟨_, rfl, rfl, hBB⟩
            go_simp
            have LP := hide (unhide DD).size
            refine (implHas_any _ x0 x1 _ ws s ev ((unhide GW).later (unhide DD)) ((unhide TW).later (unhide DD))).mono ?_
            rintro e u2 ⟨fv2, dv2, rfl, hf2, hd2, b⟩
            replace DD := hide ((unhide DD).trans (b.mono (unhide DD).size))
            rw [unhide HH]
            generalize Ix.hasD x0 x1 ws s.data.toList = pq at *
            obtain ⟨pn, pv, pf, pd⟩ := pq
            dsimp only at hf2 hd2 ⊢
            obtain ⟨fa2, fc2, rfl⟩ := own_form hf2
            obtain ⟨da2, dc2, rfl⟩ := own_form hd2
            have LO2 := LP
            have OF := hide (own2_base hf2 (unhide LO2))
            have OD := hide (own2_base hd2 (unhide LO2))
            clear hf2 hd2 LO2
            clear b LP
            go_wp2_with fail
            refine hK.out _ _ ?_ (fun hHeldN => ?_)
            · exact unhide KK _ (unhide DD)
            clear hHeld
            have hHeld := hHeldN
            clear hHeldN
            clear hK K
            try simp only [Act.put, List.setIfInBounds_toArray, List.set_cons_zero, List.set_cons_succ]
            refine anyH_at (i := 7) (d := some 96) rfl rfl (by kernel_rfl) (by kernel_rfl) (by kernel_rfl) (fun _ _ _ h => h) (by rfl) (v := ?_) ?_ (by assumption) ?_
            rotate_left
            · (intro w hSw; (try dsimp only at hSw); go_simp <;> with_reducible rfl)
            simp only [Act.put, List.setIfInBounds_toArray, List.set_cons_zero, List.set_cons_succ]
            refine anyH_at (i := 8) (d := some 104) rfl rfl (by kernel_rfl) (by kernel_rfl) (by kernel_rfl) (fun _ _ _ h => h) (by rfl) (v := ?_) ?_ (by assumption) ?_
            rotate_left
            · (intro w hSw; (try dsimp only at hSw); go_simp <;> with_reducible rfl)
            simp only [Act.put, List.setIfInBounds_toArray, List.set_cons_zero, List.set_cons_succ]
            refine anyH_at (i := 9) (d := some 105) rfl rfl (by kernel_rfl) (by kernel_rfl) (by kernel_rfl) (fun _ _ _ h => h) (by rfl) (v := ?_) ?_ (by assumption) ?_
            rotate_left
            · (intro w hSw; (try dsimp only at hSw); go_simp <;> with_reducible rfl)
            simp only [Act.put, List.setIfInBounds_toArray, List.set_cons_zero, List.set_cons_succ]
            refine wpAnyH_ready (rs := [10]) (by kernel_rfl) (by simp) ?_
            refine AllReadyH.cons rfl (fun K hK => ?_) AllReadyH.nil
            go_simp
            have HBX := hide (heap_alloc_new u2 (.cells #[.int .i64 0, .int .i64 0, .slice none 0 0, .slice none 0 0] 35))
            have LOX : Hid (wr.heap.size ≤ u2.heap.size) := (unhide DD).size
            have bX := below1 u2 (.cells #[.int .i64 0, .int .i64 0, .slice none 0 0, .slice none 0 0] 35)
            replace DD := hide ((unhide DD).trans (bX.mono (unhide DD).size))
            replace OF := hide (own2_later (unhide OF) bX)
            replace OD := hide (own2_later (unhide OD) bX)
            clear bX
            refine hK.out _ _ ?_ (fun hHeldN => ?_)
            · exact unhide KK _ (unhide DD)
            clear hHeld
            have hHeld := hHeldN
            clear hHeldN
            clear hK K
            try simp only [Act.put, List.setIfInBounds_toArray, List.set_cons_zero, List.set_cons_succ]
            generalize hXb : u2.heap.size = Xb at *
            clear hXb
            refine wpAnyH_ready (rs := [11]) (by kernel_rfl) (by simp) ?_
            refine AllReadyH.cons rfl (fun K hK => ?_) AllReadyH.nil
            obtain ⟨⟨r0, r1, r2, r3⟩, ⟨q0, q1, q2, q3⟩⟩ := box_cells (unhide HBX)
            go_simp
            obtain ⟨hBX, hOF, hOD, hBB⟩ := pkg_fill (unhide HBX) (unhide OF) (unhide OD) (unhide DD) (unhide LOX) rfl
            refine hK.out _ _ ?_ (fun hHeldN => ?_)
            · exact unhide KK _ hBB
            clear hHeld
            have hHeld := hHeldN
            clear hHeldN
            clear hK K
            try simp only [Act.put, List.setIfInBounds_toArray, List.set_cons_zero, List.set_cons_succ]
            refine anyH_at (i := 12) (d := some 16) rfl rfl (by kernel_rfl) (by kernel_rfl) (by kernel_rfl) (fun _ _ _ h => h) (by rfl) (v := ?_) ?_ (by assumption) ?_
            rotate_left
            · (intro w hSw; (try dsimp only at hSw); go_simp <;> with_reducible rfl)
            simp only [Act.put, List.setIfInBounds_toArray, List.set_cons_zero, List.set_cons_succ]
            refine wpAnyH_done (by kernel_rfl) ?_ _
            go_wp2_with fail
            go_meet
            exact ⟨_, rfl, rfl, hBB⟩
          case rest =>
            obtain ⟨Xb, rfl, rfl, hb2⟩ := hcut
            have HW2 := hide ((unhide HW).trans (hb2.mono (unhide HW).size))
            clear hb2
            go_wp2
            go_roundw
            case rel => exact ⟨k + 1, by omega, by go_num, unhide HW2⟩
            case measure => simp [intOf]; omega
        · obtain rfl : k = l.length := by omega
          clear hlt hrow
          have HB := hide ((unhide BW).trans ((unhide HW).mono (unhide BW).size))
          go_wp2
          go_ret
          exact ⟨rfl, unhide HB⟩
end Go.Proofs.YtjehpeojdcaklaaGreatDoor
