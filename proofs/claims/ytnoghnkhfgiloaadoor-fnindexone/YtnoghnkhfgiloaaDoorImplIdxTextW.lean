/- What impl.IndexText returns: the text of the index; for every index, where the library's table lies; nothing old is written. -/
import Derived.Test.YtnoghnkhfgiloaaDoorItoaW
import Derived.Test.YtnoghnkhfgiloaaDoorIndexTextW
import Derived.Test.YtnoghnkhfgiloaaDoorRoundW
import Derived.Test.YtnoghnkhfgiloaaDoorSkipW
namespace Go.Proofs.YtnoghnkhfgiloaaDoor
open Go.RowKit Go.Shelf

attribute [local go_sem] Oper.semAt_some

set_option maxHeartbeats 4000000 in
set_option maxRecDepth 100000 in
theorem implIdxText_any (w : World) (num til : Int) (mv : Value) (l : List Ix.M) (h : Trs w mv l) (hTab : Tab w) :
    Calls Tryd.prog 9 #[.agg #[.int .i64 num, .int .i64 til, mv]] w fun e w' => e = .returned (.string ⟨(Ix.text num til l).toArray⟩) ∧ Below w.heap.size w w' := by
  have HN := hide (And.intro (heap_alloc_new w (.cells #[.int .i64 num, .int .i64 til, mv] 25)) (below1 w (.cells #[.int .i64 num, .int .i64 til, mv] 25)))
  have HT0 := hide h
  have HT := hide (h.later (unhide HN).2)
  have HTB := hide hTab
  obtain ⟨a, cap, hmv⟩ := h.slice
  clear h hTab
  subst hmv
  cases hok : Ix.idxOk num til l
  · go_enter Tryd.func9, Tryd.ntmps9
    go_wp2_with fail
    refine (implIndexOk_any _ num til _ l (unhide HT)).mono ?_
    rw [hok]
    rintro e w1 ⟨rfl, hb1⟩
    have HB1 := hide ((unhide HN).2.trans (hb1.mono (unhide HN).2.size))
    clear hb1 HN
    go_wp2
    go_ret
    exact ⟨ret_str (by rw [Ix.text_bad hok]), unhide HB1⟩
  · have HOK := hide hok
    obtain ⟨⟨n0, n1⟩, ⟨t0, t1⟩, hl8, hmo⟩ := Ix.idxOk_get hok
    have HMM := hide hmo
    clear hmo
    refine (callsIn_wide (n := 5)).1 ?_
    refine callsIn_of_wp_marks Tryd.func9 rfl trivial ?_ rfl
    simp only [Tryd.ntmps9, List.size_toArray, List.length_cons, List.length_nil, Nat.reduceAdd, Nat.reduceSub, Array.replicate_succ, Array.replicate_zero, List.push_toArray, List.append_toArray, List.nil_append, List.cons_append]
    gi_wp2_with (refine ⟨trivial, ?_⟩; gi_at_call 13; refine (callsIn_wide.2 (implIndexOk_any _ num til _ l (unhide HT))).mono ?_; rw [hok]; rintro e w1 ⟨rfl, hb1⟩; have HX1 := hide (blk_below (unhide HN).1 hb1 rfl); have HB1 := hide ((unhide HN).2.trans (hb1.mono (unhide HN).2.size)); clear hb1 HN HT hok)
    obtain ⟨s1, hs1⟩ : ∃ s : ByteArray, s = ⟨(Ix.dec num.toNat).toArray⟩ := ⟨_, rfl⟩
    obtain ⟨s2, hs2⟩ : ∃ s : ByteArray, s = ⟨(Ix.dec til.toNat).toArray⟩ := ⟨_, rfl⟩
    have z1 : s1.size ≤ 2 := by rw [hs1, toArr_size]; exact Ix.dec_len2 (by omega)
    have z2 : s2.size ≤ 2 := by rw [hs2, toArr_size]; exact Ix.dec_len2 (by omega)
    have HS1 := hide hs1
    have HS2 := hide hs2
    clear hs1 hs2
    have y1 : ¬ 9223372036854775807 < s1.size + 1 := by omega
    have y2 : ¬ 9223372036854775807 < s1.size + 1 + s2.size := by omega
    have y3 : ¬ 9223372036854775807 < s1.size + 1 + s2.size + 1 := by omega
    have hlt1 := heapLt (unhide HX1)
    have k0 := cellOf (unhide HX1) 0
    have k1 := cellOf (unhide HX1) 1
    refine wpIn_wide.2 ?_
    go_region_held3 (fun w' => w'.cell? ⟨w.heap.size, 0, none⟩ = some (.int .i64 num) ∧ w'.cell? ⟨w.heap.size, 1, none⟩ = some (.int .i64 til)) (go_keep)
      (first
        | (go_at_call_of 21 num; refine (itoa2_any num (by omega) (by omega) _).mono ?_; rw [← unhide HS1]; rintro e w' ⟨rfl, rfl⟩)
        | (go_at_call_of 21 til; refine (itoa2_any til (by omega) (by omega) _).mono ?_; rw [← unhide HS2]; rintro e w' ⟨rfl, rfl⟩))
    all_goals
      have hB00 : Below w1.heap.size w1 (w1.alloc (.cells #[.string (s1 ++ ⟨#[32]⟩ ++ s2 ++ ⟨#[10]⟩)] 9)).drew := (below1 w1 _).drew
      have bT : (w1.alloc (.cells #[.string (s1 ++ ⟨#[32]⟩ ++ s2 ++ ⟨#[10]⟩)] 9)).drew.heap[w1.heap.size]? = some (.cells #[.string (s1 ++ ⟨#[32]⟩ ++ s2 ++ ⟨#[10]⟩)] 9) := heap_alloc_new w1 _
      generalize (w1.alloc (.cells #[.string (s1 ++ ⟨#[32]⟩ ++ s2 ++ ⟨#[10]⟩)] 9)).drew = W1 at *
      rw [show s1 ++ ⟨#[32]⟩ ++ s2 ++ ⟨#[10]⟩ = ⟨(Ix.headT num til).toArray⟩ from str_one _ _ _ (str_two _ _ _ _ (str_one _ _ _ (unhide HS1)) (unhide HS2))] at bT
      have HX2 := hide (blk_below (unhide HX1) hB00 rfl)
      have HBW1 := hide ((unhide HB1).trans (hB00.mono (unhide HB1).size))
      have BT := hide bT
      have m0 := cellOf (unhide HX2) 0
      have m1 := cellOf (unhide HX2) 1
      have m2 := cellOf (unhide HX2) 2
      clear hB00 bT k0 k1 y1 y2 y3
      gi_wp2_with (refine ⟨trivial, ?_⟩; gi_at_call 22; refine (metasOf_in _ _ _ _ _ _ _).mono ?_; rintro e w' ⟨rfl, rfl⟩)
      have b3 := heap_alloc_new W1 (.cells #[.int .i64 num, .int .i64 til, .slice a l.length cap] 25)
      have hB0 : Below w.heap.size w (W1.alloc (.cells #[.int .i64 num, .int .i64 til, .slice a l.length cap] 25)) := (unhide HBW1).alloc (unhide HBW1).size _
      have hsz : (W1.alloc (.cells #[.int .i64 num, .int .i64 til, .slice a l.length cap] 25)).heap.size = W1.heap.size + 1 := by simp
      have b1 := (Below.heap_alloc W1 (.cells #[.int .i64 num, .int .i64 til, .slice a l.length cap] 25) _ (heapLt (unhide BT))).trans (unhide BT)
      have hsw := (unhide HBW1).size
      have hsb := (unhide HB1).size
      generalize W1.alloc _ = W0 at *
      refine wpIn_rangeFunc_ownH rfl (by omega) (gf := 41) (lb := #[.pointer (some ⟨W1.heap.size, 0, none⟩)]) rfl trivial (enters_of Tryd.func41 (by kernel_rfl) rfl)
        (metas_stopsP (fun x => (1 ≤ x.1 ∧ x.1 ≤ 4) ∧ (1 ≤ x.2.1 ∧ x.2.1 ≤ 5) ∧ (0 ≤ x.2.2 ∧ x.2.2 ≤ 9972)) 4 (by omega) W1.heap.size w.heap.size _ l (Ix.ok_mem (unhide HMM)) W0 (by omega) (by omega) (cellOf b3 2) w rfl (unhide HT0) hB0) belowK_t (belowK_b (by omega)) (Below.refl _ _) (fun _ => rfl)
        (fun pre W => W.heap[w1.heap.size]? = some (.cells #[.string ⟨(Ix.headT num til ++ (pre.map (fun x => x.1)).flatMap Ix.metaT).toArray⟩] 9 (0, 0)) ∧ Below w.heap.size w W)
        (fun _ _ _ => False)
        (OwnFrom.and (Own.from (blk_own _ _ _) _) (ownFrom_below (Nat.le_refl _) (by omega)))
        (fun _ _ _ _ _ hs _ _ => hs)
        ⟨by simpa using b1, hB0⟩
        (fun x a' W => ∃ Bx, w1.heap.size < Bx ∧ W.heap[Bx]? = some (.cells #[.int .i64 x.1.1, .int .i64 x.1.2.1, .int .i64 x.1.2.2] 45 (0, 0)) ∧ ∃ e0 e1 e2 e5 e6 e7 e8 e9 e10 e11 e12 e13 e14 e15 e16 e17 e18 e19, a' = { tmps := #[e0, e1, e2, .pointer (some ⟨w1.heap.size, 0, none⟩), .pointer (some ⟨Bx, 0, none⟩), e5, e6, e7, e8, e9, e10, e11, e12, e13, e14, e15, e16, e17, e18, e19, undef, undef, undef, undef, undef, undef, undef, undef, undef, undef, undef, undef, undef, undef], defers := [] })
        (fun x a' _ X Y row hs hg hr => by obtain ⟨Bx, e1, e2, e3⟩ := hs; exact ⟨Bx, e1, blk_own Bx 45 (fun (_ : Unit) => #[.int .i64 x.1.1, .int .i64 x.1.2.1, .int .i64 x.1.2.2]) () X Y row e2 hg (fun r e => (hr r e).2), e3⟩)
        ?assign ?body ?done ?stop
      case assign =>
        rintro l0 pre x W K ⟨e1, hBW⟩ hK
        gi_wp2
        exact hK _ _ ((KeepsOthers.alloc _ _).from _) ((Below.refl _ W).alloc hBW.size _) ⟨(Below.heap_alloc W _ _ (heapLt e1)).trans e1, hBW.alloc hBW.size _⟩ ⟨W.heap.size, heapLt e1, heap_alloc_new W _, _, _, _, _, _, _, _, _, _, _, _, _, _, _, _, _, _, _, rfl⟩
      case body =>
        rintro l0 pre x a' W hl ⟨r, hr⟩ ⟨e1, hBW⟩ ⟨Bx, hBx, bX, u0, u1', u2', u5, u6, u7, u8, u9, u10, u11, u12, u13, u14, u15, u16, u17, u18, u19, rfl⟩ hlt
        have hsW := hBW.size
        have hxp := x.2
        obtain ⟨⟨p0, p1⟩, ⟨v0, v1⟩, ⟨r0, r1⟩⟩ := hxp
        obtain ⟨s, hs⟩ : ∃ s : ByteArray, s = ⟨(Ix.headT num til ++ (pre.map (fun x => x.1)).flatMap Ix.metaT).toArray⟩ := ⟨_, rfl⟩
        have hsz2 : s.size ≤ 70 := by
          rw [hs, toArr_size, List.length_append]
          have h1 := Ix.headT_len (num := num) (til := til) (by omega) (by omega)
          have h2 := Ix.flat_le (pre.map (fun x => x.1)) (fun y hy => by obtain ⟨z, _, rfl⟩ := List.mem_map.1 hy; have := z.2; omega)
          rw [List.length_map] at h2
          omega
        rw [← hs] at e1
        obtain ⟨u1, hu1⟩ : ∃ s : ByteArray, s = ⟨(Pk.nameT x.1.1 x.1.2.1).toArray⟩ := ⟨_, rfl⟩
        obtain ⟨u2, hu2⟩ : ∃ s : ByteArray, s = ⟨(Ix.dec x.1.2.2.toNat).toArray⟩ := ⟨_, rfl⟩
        have z1 : u1.size = 2 := by rw [hu1, toArr_size]; rfl
        have z2 : u2.size ≤ 4 := by rw [hu2, toArr_size]; exact Ix.dec_len4 (by omega)
        have HU1 := hide hu1
        have HU2 := hide hu2
        have HS := hide hs
        have HE := hide e1
        have HX := hide bX
        have HBW := hide hBW
        have y1 : ¬ 9223372036854775807 < u1.size + 1 := by omega
        have y2 : ¬ 9223372036854775807 < u1.size + 1 + u2.size := by omega
        have y3 : ¬ 9223372036854775807 < u1.size + 1 + u2.size + 1 := by omega
        have y4 : ¬ 9223372036854775807 < s.size + (u1.size + 1 + u2.size + 1) := by omega
        have x0 := cellOf bX 0
        have x1 := cellOf bX 1
        have x2 := cellOf bX 2
        have c0 := cellOf e1 0
        have hne : Bx ≠ w1.heap.size := by omega
        clear hu1 hu2 hs e1 bX hBW hr z1 b1 b3 hB0 HT0 HMM HOK HX1 HX2 BT
        gi_wp2_with fail
        refine round_held (S := fun w' => w'.cell? ⟨Bx, 0, none⟩ = some (.int .i64 x.1.1) ∧ w'.cell? ⟨Bx, 1, none⟩ = some (.int .i64 x.1.2.1) ∧ w'.cell? ⟨Bx, 2, none⟩ = some (.int .i64 x.1.2.2)) (by kernel_rfl) (by kernel_rfl) (by rintro ⟨_, _, hf⟩; exact hf) ⟨x0, x1, x2⟩ (fun hHeld => ?_)
        refine anyH_at (i := 1) (d := some 21) rfl rfl (by kernel_rfl) (by kernel_rfl) (by kernel_rfl) (fun _ _ _ h => h) (by rfl) (v := ?_) ?_ (by assumption) ?_
        rotate_left
        · (intro w hSw; (try dsimp only at hSw); go_simp <;> with_reducible rfl)
        simp only [Act.put, List.setIfInBounds_toArray, List.set_cons_zero, List.set_cons_succ]
        refine anyH_at (i := 2) (d := some 22) rfl rfl (by kernel_rfl) (by kernel_rfl) (by kernel_rfl) (fun _ _ _ h => h) (by rfl) (v := ?_) ?_ (by assumption) ?_
        rotate_left
        · (intro w hSw; (try dsimp only at hSw); go_simp <;> with_reducible rfl)
        simp only [Act.put, List.setIfInBounds_toArray, List.set_cons_zero, List.set_cons_succ]
        refine anyH_at (i := 3) (d := some 23) rfl rfl (by kernel_rfl) (by kernel_rfl) (by kernel_rfl) (fun _ _ _ h => h) (by rfl) (v := ?_) ?_ (by assumption) ?_
        rotate_left
        · (intro w hSw; (try dsimp only at hSw); go_simp <;> with_reducible rfl)
        simp only [Act.put, List.setIfInBounds_toArray, List.set_cons_zero, List.set_cons_succ]
        refine anyH_at (i := 4) (d := some 24) rfl rfl (by kernel_rfl) (by kernel_rfl) (by kernel_rfl) (fun _ _ _ h => h) (by rfl) (v := ?_) ?_ (by assumption) ?_
        rotate_left
        · (intro w hSw; (try dsimp only at hSw); go_simp <;> with_reducible rfl)
        simp only [Act.put, List.setIfInBounds_toArray, List.set_cons_zero, List.set_cons_succ]
        refine anyH_at (i := 7) (d := some 27) rfl rfl (by kernel_rfl) (by kernel_rfl) (by kernel_rfl) (fun _ _ _ h => h) (by rfl) (v := ?_) ?_ (by assumption) ?_
        rotate_left
        · (intro w hSw; (try dsimp only at hSw); go_simp <;> with_reducible rfl)
        simp only [Act.put, List.setIfInBounds_toArray, List.set_cons_zero, List.set_cons_succ]
        refine anyH_at (i := 8) (d := some 28) rfl rfl (by kernel_rfl) (by kernel_rfl) (by kernel_rfl) (fun _ _ _ h => h) (by rfl) (v := ?_) ?_ (by assumption) ?_
        rotate_left
        · (intro w hSw; (try dsimp only at hSw); go_simp <;> with_reducible rfl)
        simp only [Act.put, List.setIfInBounds_toArray, List.set_cons_zero, List.set_cons_succ]
        refine wpAnyH_ready (rs := [0, 5]) (by kernel_rfl) (by simp) ?_
        refine AllReadyH.cons rfl (fun K hK => ?_) (AllReadyH.cons rfl (fun K hK => ?_) AllReadyH.nil)
        · go_simp
          refine hK.out _ _ ?_ (fun hHeldN => ?_)
          · exact ⟨x0, x1, x2⟩
          clear hHeld
          have hHeld := hHeldN
          clear hHeldN
          clear hK K
          try simp only [Act.put, List.setIfInBounds_toArray, List.set_cons_zero, List.set_cons_succ]
          refine wpAnyH_ready (rs := [5]) (by kernel_rfl) (by simp) ?_
          refine AllReadyH.cons rfl (fun K hK => ?_) AllReadyH.nil
          go_simp
          refine (spellNamed_any x.1.1 x.1.2.1 _ p0 p1 (by omega) (by omega)).mono ?_
          rw [← unhide HU1]
          rintro e w' ⟨rfl, rfl⟩
          go_wp2_with fail
          refine hK.out _ _ ?_ (fun hHeldN => ?_)
          · exact ⟨x0, x1, x2⟩
          clear hHeld
          have hHeld := hHeldN
          clear hHeldN
          clear hK K
          try simp only [Act.put, List.setIfInBounds_toArray, List.set_cons_zero, List.set_cons_succ]
          refine anyH_at (i := 6) (d := some 26) rfl rfl (by kernel_rfl) (by kernel_rfl) (by kernel_rfl) (fun _ _ _ h => h) (by rfl) (v := ?_) ?_ (by assumption) ?_
          rotate_left
          · (intro w hSw; (try dsimp only at hSw); go_simp <;> with_reducible rfl)
          simp only [Act.put, List.setIfInBounds_toArray, List.set_cons_zero, List.set_cons_succ]
          refine wpAnyH_ready (rs := [9]) (by kernel_rfl) (by simp) ?_
          refine AllReadyH.cons rfl (fun K hK => ?_) AllReadyH.nil
          go_simp
          refine (itoaT_any x.1.2.2 r0 (by omega) _ (by exact (unhide HTB).later (unhide HBW).drew)).mono ?_
          rw [← unhide HU2]
          rintro e W2 ⟨rfl, hb2⟩
          have HB2 := hide (show Below W.heap.size W W2 from (below_drew W).trans hb2)
          have HF2 := hide (blk_below (unhide HE) (unhide HB2) rfl)
          have HX2 := hide (blk_below (unhide HX) (unhide HB2) rfl)
          have q0 := cellOf (unhide HX2) 0
          have q1 := cellOf (unhide HX2) 1
          have q2 := cellOf (unhide HX2) 2
          have tt0 := cellOf (unhide HF2) 0
          have tf0 := frozenOf (unhide HF2) 0
          clear hb2
          go_wp2_with fail
          refine hK.out _ _ ?_ (fun hHeldN => ?_)
          · exact ⟨q0, q1, q2⟩
          clear hHeld
          have hHeld := hHeldN
          clear hHeldN
          clear hK K
          try simp only [Act.put, List.setIfInBounds_toArray, List.set_cons_zero, List.set_cons_succ]
          refine anyH_at (i := 10) (d := some 30) rfl rfl (by kernel_rfl) (by kernel_rfl) (by kernel_rfl) (fun _ _ _ h => h) (by rfl) (v := ?_) ?_ (by assumption) ?_
          rotate_left
          · (intro w hSw; (try dsimp only at hSw); go_simp <;> with_reducible rfl)
          simp only [Act.put, List.setIfInBounds_toArray, List.set_cons_zero, List.set_cons_succ]
          refine anyH_at (i := 11) (d := some 31) rfl rfl (by kernel_rfl) (by kernel_rfl) (by kernel_rfl) (fun _ _ _ h => h) (by rfl) (v := ?_) ?_ (by assumption) ?_
          rotate_left
          · (intro w hSw; (try dsimp only at hSw); go_simp <;> with_reducible rfl)
          simp only [Act.put, List.setIfInBounds_toArray, List.set_cons_zero, List.set_cons_succ]
          refine anyH_at (i := 12) (d := some 32) rfl rfl (by kernel_rfl) (by kernel_rfl) (by kernel_rfl) (fun _ _ _ h => h) (by rfl) (v := ?_) ?_ (by assumption) ?_
          rotate_left
          · (intro w hSw; (try dsimp only at hSw); go_simp <;> with_reducible rfl)
          simp only [Act.put, List.setIfInBounds_toArray, List.set_cons_zero, List.set_cons_succ]
          refine wpAnyH_ready (rs := [13]) (by kernel_rfl) (by simp) ?_
          refine AllReadyH.cons rfl (fun K hK => ?_) AllReadyH.nil
          go_simp
          refine hK.out _ _ ?_ (fun hHeldN => ?_)
          · exact ⟨(World.cell?_setCell_other _ _ _ _ (by intro hc; injection hc with hc; exact hne hc.symm)).trans q0, (World.cell?_setCell_other _ _ _ _ (by intro hc; injection hc with hc; exact hne hc.symm)).trans q1, (World.cell?_setCell_other _ _ _ _ (by intro hc; injection hc with hc; exact hne hc.symm)).trans q2⟩
          clear hHeld
          have hHeld := hHeldN
          clear hHeldN
          clear hK K
          try simp only [Act.put, List.setIfInBounds_toArray, List.set_cons_zero, List.set_cons_succ]
          refine wpAnyH_done (by kernel_rfl) ?_ _
          clear hHeld
          refine ⟨((keeps_below (unhide HB2)).trans (KeepsOthers.setCell _ _ _)).from _, ((unhide HB2).mono hsW).setCell (p := ⟨w1.heap.size, 0, none⟩) (unhide HB1).size _, ?_, ((unhide HBW).trans ((unhide HB2).mono (unhide HBW).size)).setCell (p := ⟨w1.heap.size, 0, none⟩) (unhide HB1).size _⟩
          have e1 := str_one _ 10 _ (str_two _ _ _ _ (str_one _ 32 _ (unhide HU1)) (unhide HU2))
          have e2 := str_two _ _ _ _ (unhide HS) e1
          rw [heapSet (unhide HF2), e2]
          simp [Ix.metaT, List.append_assoc]
        · go_simp
          refine (spellNamed_any x.1.1 x.1.2.1 _ p0 p1 (by omega) (by omega)).mono ?_
          rw [← unhide HU1]
          rintro e w' ⟨rfl, rfl⟩
          go_wp2_with fail
          refine hK.out _ _ ?_ (fun hHeldN => ?_)
          · exact ⟨x0, x1, x2⟩
          clear hHeld
          have hHeld := hHeldN
          clear hHeldN
          clear hK K
          try simp only [Act.put, List.setIfInBounds_toArray, List.set_cons_zero, List.set_cons_succ]
          refine anyH_at (i := 6) (d := some 26) rfl rfl (by kernel_rfl) (by kernel_rfl) (by kernel_rfl) (fun _ _ _ h => h) (by rfl) (v := ?_) ?_ (by assumption) ?_
          rotate_left
          · (intro w hSw; (try dsimp only at hSw); go_simp <;> with_reducible rfl)
          simp only [Act.put, List.setIfInBounds_toArray, List.set_cons_zero, List.set_cons_succ]
          refine wpAnyH_ready (rs := [0, 9]) (by kernel_rfl) (by simp) ?_
          refine AllReadyH.cons rfl (fun K hK => ?_) (AllReadyH.cons rfl (fun K hK => ?_) AllReadyH.nil)
          · go_simp
            refine hK.out _ _ ?_ (fun hHeldN => ?_)
            · exact ⟨x0, x1, x2⟩
            clear hHeld
            have hHeld := hHeldN
            clear hHeldN
            clear hK K
            try simp only [Act.put, List.setIfInBounds_toArray, List.set_cons_zero, List.set_cons_succ]
            refine wpAnyH_ready (rs := [9]) (by kernel_rfl) (by simp) ?_
            refine AllReadyH.cons rfl (fun K hK => ?_) AllReadyH.nil
            go_simp
            refine (itoaT_any x.1.2.2 r0 (by omega) _ (by exact (unhide HTB).later (unhide HBW).drew)).mono ?_
            rw [← unhide HU2]
            rintro e W2 ⟨rfl, hb2⟩
            have HB2 := hide (show Below W.heap.size W W2 from (below_drew W).trans hb2)
            have HF2 := hide (blk_below (unhide HE) (unhide HB2) rfl)
            have HX2 := hide (blk_below (unhide HX) (unhide HB2) rfl)
            have q0 := cellOf (unhide HX2) 0
            have q1 := cellOf (unhide HX2) 1
            have q2 := cellOf (unhide HX2) 2
            have tt0 := cellOf (unhide HF2) 0
            have tf0 := frozenOf (unhide HF2) 0
            clear hb2
            go_wp2_with fail
            refine hK.out _ _ ?_ (fun hHeldN => ?_)
            · exact ⟨q0, q1, q2⟩
            clear hHeld
            have hHeld := hHeldN
            clear hHeldN
            clear hK K
            try simp only [Act.put, List.setIfInBounds_toArray, List.set_cons_zero, List.set_cons_succ]
            refine anyH_at (i := 10) (d := some 30) rfl rfl (by kernel_rfl) (by kernel_rfl) (by kernel_rfl) (fun _ _ _ h => h) (by rfl) (v := ?_) ?_ (by assumption) ?_
            rotate_left
            · (intro w hSw; (try dsimp only at hSw); go_simp <;> with_reducible rfl)
            simp only [Act.put, List.setIfInBounds_toArray, List.set_cons_zero, List.set_cons_succ]
            refine anyH_at (i := 11) (d := some 31) rfl rfl (by kernel_rfl) (by kernel_rfl) (by kernel_rfl) (fun _ _ _ h => h) (by rfl) (v := ?_) ?_ (by assumption) ?_
            rotate_left
            · (intro w hSw; (try dsimp only at hSw); go_simp <;> with_reducible rfl)
            simp only [Act.put, List.setIfInBounds_toArray, List.set_cons_zero, List.set_cons_succ]
            refine anyH_at (i := 12) (d := some 32) rfl rfl (by kernel_rfl) (by kernel_rfl) (by kernel_rfl) (fun _ _ _ h => h) (by rfl) (v := ?_) ?_ (by assumption) ?_
            rotate_left
            · (intro w hSw; (try dsimp only at hSw); go_simp <;> with_reducible rfl)
            simp only [Act.put, List.setIfInBounds_toArray, List.set_cons_zero, List.set_cons_succ]
            refine wpAnyH_ready (rs := [13]) (by kernel_rfl) (by simp) ?_
            refine AllReadyH.cons rfl (fun K hK => ?_) AllReadyH.nil
            go_simp
            refine hK.out _ _ ?_ (fun hHeldN => ?_)
            · exact ⟨(World.cell?_setCell_other _ _ _ _ (by intro hc; injection hc with hc; exact hne hc.symm)).trans q0, (World.cell?_setCell_other _ _ _ _ (by intro hc; injection hc with hc; exact hne hc.symm)).trans q1, (World.cell?_setCell_other _ _ _ _ (by intro hc; injection hc with hc; exact hne hc.symm)).trans q2⟩
            clear hHeld
            have hHeld := hHeldN
            clear hHeldN
            clear hK K
            try simp only [Act.put, List.setIfInBounds_toArray, List.set_cons_zero, List.set_cons_succ]
            refine wpAnyH_done (by kernel_rfl) ?_ _
            clear hHeld
            refine ⟨((keeps_below (unhide HB2)).trans (KeepsOthers.setCell _ _ _)).from _, ((unhide HB2).mono hsW).setCell (p := ⟨w1.heap.size, 0, none⟩) (unhide HB1).size _, ?_, ((unhide HBW).trans ((unhide HB2).mono (unhide HBW).size)).setCell (p := ⟨w1.heap.size, 0, none⟩) (unhide HB1).size _⟩
            have e1 := str_one _ 10 _ (str_two _ _ _ _ (str_one _ 32 _ (unhide HU1)) (unhide HU2))
            have e2 := str_two _ _ _ _ (unhide HS) e1
            rw [heapSet (unhide HF2), e2]
            simp [Ix.metaT, List.append_assoc]
          · go_simp
            refine (itoaT_any x.1.2.2 r0 (by omega) _ (by exact (unhide HTB).later (unhide HBW).drew)).mono ?_
            rw [← unhide HU2]
            rintro e W2 ⟨rfl, hb2⟩
            have HB2 := hide (show Below W.heap.size W W2 from (below_drew W).trans hb2)
            have HF2 := hide (blk_below (unhide HE) (unhide HB2) rfl)
            have HX2 := hide (blk_below (unhide HX) (unhide HB2) rfl)
            have q0 := cellOf (unhide HX2) 0
            have q1 := cellOf (unhide HX2) 1
            have q2 := cellOf (unhide HX2) 2
            have tt0 := cellOf (unhide HF2) 0
            have tf0 := frozenOf (unhide HF2) 0
            clear hb2
            go_wp2_with fail
            refine hK.out _ _ ?_ (fun hHeldN => ?_)
            · exact ⟨q0, q1, q2⟩
            clear hHeld
            have hHeld := hHeldN
            clear hHeldN
            clear hK K
            try simp only [Act.put, List.setIfInBounds_toArray, List.set_cons_zero, List.set_cons_succ]
            refine anyH_at (i := 10) (d := some 30) rfl rfl (by kernel_rfl) (by kernel_rfl) (by kernel_rfl) (fun _ _ _ h => h) (by rfl) (v := ?_) ?_ (by assumption) ?_
            rotate_left
            · (intro w hSw; (try dsimp only at hSw); go_simp <;> with_reducible rfl)
            simp only [Act.put, List.setIfInBounds_toArray, List.set_cons_zero, List.set_cons_succ]
            refine anyH_at (i := 11) (d := some 31) rfl rfl (by kernel_rfl) (by kernel_rfl) (by kernel_rfl) (fun _ _ _ h => h) (by rfl) (v := ?_) ?_ (by assumption) ?_
            rotate_left
            · (intro w hSw; (try dsimp only at hSw); go_simp <;> with_reducible rfl)
            simp only [Act.put, List.setIfInBounds_toArray, List.set_cons_zero, List.set_cons_succ]
            refine wpAnyH_ready (rs := [0]) (by kernel_rfl) (by simp) ?_
            refine AllReadyH.cons rfl (fun K hK => ?_) AllReadyH.nil
            go_simp
            refine hK.out _ _ ?_ (fun hHeldN => ?_)
            · exact ⟨q0, q1, q2⟩
            clear hHeld
            have hHeld := hHeldN
            clear hHeldN
            clear hK K
            try simp only [Act.put, List.setIfInBounds_toArray, List.set_cons_zero, List.set_cons_succ]
            refine anyH_at (i := 12) (d := some 32) rfl rfl (by kernel_rfl) (by kernel_rfl) (by kernel_rfl) (fun _ _ _ h => h) (by rfl) (v := ?_) ?_ (by assumption) ?_
            rotate_left
            · (intro w hSw; (try dsimp only at hSw); go_simp <;> with_reducible rfl)
            simp only [Act.put, List.setIfInBounds_toArray, List.set_cons_zero, List.set_cons_succ]
            refine wpAnyH_ready (rs := [13]) (by kernel_rfl) (by simp) ?_
            refine AllReadyH.cons rfl (fun K hK => ?_) AllReadyH.nil
            go_simp
            refine hK.out _ _ ?_ (fun hHeldN => ?_)
            · exact ⟨(World.cell?_setCell_other _ _ _ _ (by intro hc; injection hc with hc; exact hne hc.symm)).trans q0, (World.cell?_setCell_other _ _ _ _ (by intro hc; injection hc with hc; exact hne hc.symm)).trans q1, (World.cell?_setCell_other _ _ _ _ (by intro hc; injection hc with hc; exact hne hc.symm)).trans q2⟩
            clear hHeld
            have hHeld := hHeldN
            clear hHeldN
            clear hK K
            try simp only [Act.put, List.setIfInBounds_toArray, List.set_cons_zero, List.set_cons_succ]
            refine wpAnyH_done (by kernel_rfl) ?_ _
            clear hHeld
            refine ⟨((keeps_below (unhide HB2)).trans (KeepsOthers.setCell _ _ _)).from _, ((unhide HB2).mono hsW).setCell (p := ⟨w1.heap.size, 0, none⟩) (unhide HB1).size _, ?_, ((unhide HBW).trans ((unhide HB2).mono (unhide HBW).size)).setCell (p := ⟨w1.heap.size, 0, none⟩) (unhide HB1).size _⟩
            have e1 := str_one _ 10 _ (str_two _ _ _ _ (str_one _ 32 _ (unhide HU1)) (unhide HU2))
            have e2 := str_two _ _ _ _ (unhide HS) e1
            rw [heapSet (unhide HF2), e2]
            simp [Ix.metaT, List.append_assoc]
      case done =>
        rintro D zs W hD hzs ⟨e1, hBW⟩ hK
        rw [hzs] at e1
        have c0 := cellOf e1 0
        gi_wp2
        refine ⟨by simp, .inl ⟨_, _, rfl, run_takeDeferred hK, ?_⟩⟩
        refine ⟨_, results_tmp rfl _ _ _, by rw [Ix.text_ok (unhide HOK)]; rfl, hBW.trans (belowK_b (w := w) (Nat.le_refl _) W D _ _ (by omega) hK rfl rfl)⟩
      case stop =>
        rintro D c pre W _ _ h _
        exact h.elim
end Go.Proofs.YtnoghnkhfgiloaaDoor
