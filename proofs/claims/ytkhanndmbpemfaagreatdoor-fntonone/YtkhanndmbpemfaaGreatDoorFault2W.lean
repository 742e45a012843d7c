import Derived.Test.YtkhanndmbpemfaaGreatDoorMix6
/- What impl's lines of what lacks, and of places, are: rows of texts of one's own. -/
namespace Go.Proofs.YtkhanndmbpemfaaGreatDoor
open Go.RowKit

attribute [local go_sem ↓] Go.wp_at_zero Go.wp_at_succ

/-- What is said of a place. -/
def Ix.placeOf (la : List Ix.Pg) (p : Ix.Pg) (f : Int × Int) : List (List UInt8) := match la.find? (Ix.hasAt f.1) with
  | some o => [Ix.titleT p ++ Ix.andT ++ Ix.titleT o ++ Ix.atT ++ [Pk.b8 (48 + f.1)]]
  | none => []
theorem Ix.placeOf_len (la : List Ix.Pg) (p : Ix.Pg) (d : Int × Int) : (Ix.placeOf la p d).length ≤ 1 := by unfold Ix.placeOf; split <;> simp

set_option maxHeartbeats 8000000 in
set_option maxRecDepth 100000 in
theorem lackLines_any {N : Nat → Prop} (w : World) (nm vr : Int) (fa : Option Addr) (fn fc : Nat) (da : Option Addr) (dc : Nat) (fs ds : List (Int × Int)) (v : Value) (l : List Ix.Pg) (h : Pks N w v l) (hd : Prs w (.slice da ds.length dc) ds) (n0 : 1 ≤ nm ∧ nm ≤ 4) (v0 : 1 ≤ vr ∧ vr ≤ 5) (hlen : ds.length ≤ 2) (hok : ∀ i, i < ds.length → (1 ≤ Pk.fst ds i ∧ Pk.fst ds i ≤ 4) ∧ (1 ≤ Pk.snd ds i ∧ Pk.snd ds i ≤ 5)) :
    Calls Tryz.prog 112 #[.agg #[.int .i64 nm, .int .i64 vr, .slice fa fn fc, .slice da ds.length dc], v] w fun e w' => ∃ u, e = .returned u ∧ StrR w.heap.size w' u (ds.flatMap (Ix.lackL l (nm, vr, fs, ds))) ∧ Below w.heap.size w w' := by
  obtain ⟨i0, hI0, hz0, hz1, hz2⟩ := info_parts infoS
  have B0 := below1 w (.cells #[.int .i64 nm, .int .i64 vr, .slice fa fn fc, .slice da ds.length dc] 94)
  have H0 := hide (And.intro B0 (heap_alloc_new w (.cells #[.int .i64 nm, .int .i64 vr, .slice fa fn fc, .slice da ds.length dc] 94)))
  have HO := hide hok
  have HP := hide h
  obtain ⟨pa, pc, hv⟩ := h.slice
  subst hv
  obtain ⟨xa, xc, e1, _, hrow⟩ := hd
  injection e1 with e1 _ e3
  subst e1 e3
  clear B0 h hok
  have x3 := cellOf (unhide H0).2 3
  have xlt := heapLt (unhide H0).2
  go_enter Tryz.func112, Tryz.ntmps112
  go_wp2_with fail
  clear x3 xlt
  go_loopw [5, 13] (fun o i w' => ∃ k : Nat, k ≤ ds.length ∧ i = .int .i64 k ∧ StrR w.heap.size w' o ((ds.take k).flatMap (Ix.lackL l (nm, vr, fs, ds))) ∧ Below w.heap.size w w' ∧ w'.heap[w.heap.size]? = some (.cells #[.int .i64 nm, .int .i64 vr, .slice fa fn fc, .slice da ds.length dc] 94 (0, 0))) (fun _ i _ => ds.length - (intOf i).toNat)
  case atStart => exact ⟨0, Nat.zero_le _, rfl, StrR.nil _ _, (unhide H0).1, (unhide H0).2⟩
  case round =>
    clear H0
    obtain ⟨k, hk, rfl, ho, hw, hX⟩ := hrel
    obtain ⟨oa, oc, hov⟩ := own_formS ho
    subst hov
    have HS := hide ho
    have HW := hide hw
    have HX := hide hX
    clear ho hw hX
    by_cases hlt : k < ds.length
    · obtain ⟨b, off, rfl, hb, hc⟩ := hrow (by omega)
      obtain ⟨c0, c1⟩ := hc k hlt
      rw [← (unhide HW).cell hb] at c0 c1
      have hb' : b < wr.heap.size := Nat.lt_of_lt_of_le hb (unhide HW).size
      have hi0 : (0 : Int) ≤ (k : Int) := Int.natCast_nonneg _
      have hi1 : (k : Int) < (ds.length : Int) := by omega
      have er : IntKind.i64.wrap ((k : Int) + 1) = (k : Int) + 1 := by simp [IntKind.wrap, IntKind.bits, IntKind.signed]; omega
      have hstep := Ix.take_cons_flat (Ix.lackL l (nm, vr, fs, ds)) ds k _ (Ix.pair_mem hlt).2
      have HST := hide hstep
      have hbd := unhide HO k hlt
      have hfl : ((ds.take k).flatMap (Ix.lackL l (nm, vr, fs, ds))).length ≤ 2 := Nat.le_trans (Ix.flat_le _ (Ix.lackL_len l (nm, vr, fs, ds)) _) (by rw [List.length_take]; omega)
      generalize (ds.take k).flatMap (Ix.lackL l (nm, vr, fs, ds)) = ls at *
      clear hc hrow hb hstep
      have bD := below1 wr (.cells #[.int .i64 (Pk.fst ds k), .int .i64 (Pk.snd ds k)] 117)
      have HD := hide (heap_alloc_new wr (.cells #[.int .i64 (Pk.fst ds k), .int .i64 (Pk.snd ds k)] 117))
      have HX1 := hide ((bD.block _ (heapLt (unhide HX))).trans (unhide HX))
      have HW1 := hide ((unhide HW).trans (bD.mono (unhide HW).size))
      have HS1 := hide ((unhide HS).later bD)
      have hwD : w.heap.size < wr.heap.size := heapLt (unhide HX)
      clear bD HS HX
      generalize Pk.fst ds k = x at *
      generalize Pk.snd ds k = y at *
      have CF := hide (firstDep_any _ (.slice pa l.length pc) l x y ((unhide HP).later (unhide HW1)))
      go_wp2_with fail
      refine (unhide CF).mono ?_
      generalize hDe : wr.heap.size = D at *
      have HDE := hide hDe
      clear hDe
      generalize wr.alloc _ = W1 at *
      clear c0 c1 hb' CF
      rintro e w2 ⟨hcase, b2⟩
      have HD2 := hide ((b2.block _ (heapLt (unhide HD))).trans (unhide HD))
      have HX2 := hide ((b2.block _ (heapLt (unhide HX1))).trans (unhide HX1))
      have HW2 := hide ((unhide HW1).trans (b2.mono (unhide HW1).size))
      have HS2 := hide ((unhide HS1).later b2)
      clear b2 HD HX1 HW1 HS1
      clear W1
      rcases hcase with ⟨q, ya, yn, yc, za, zn, zc, hq, rfl⟩ | ⟨hq, rfl⟩
      · have b3 := below1 w2 (.cells #[.int .i64 q.1, .int .i64 q.2.1, .slice ya yn yc, .slice za zn zc] 94)
        have HY3 := hide (heap_alloc_new w2 (.cells #[.int .i64 q.1, .int .i64 q.2.1, .slice ya yn yc, .slice za zn zc] 94))
        have HD3 := hide ((b3.block _ (heapLt (unhide HD2))).trans (unhide HD2))
        have HX3 := hide ((b3.block _ (heapLt (unhide HX2))).trans (unhide HX2))
        have HW3 := hide ((unhide HW2).trans (b3.mono (unhide HW2).size))
        have HS3 := hide ((unhide HS2).later b3)
        have hYl : D < w2.heap.size := heapLt (unhide HD2)
        clear b3 HD2 HX2 HW2 HS2
        have hnil : Ix.lackL l (nm, vr, fs, ds) (x, y) = [] := by unfold Ix.lackL Ix.met; rw [hq]
        go_wp2
        go_roundw
        case rel => exact ⟨k + 1, by omega, by go_num, by rw [unhide HST, hnil, List.append_nil]; exact unhide HS3, unhide HW3, unhide HX3⟩
        case measure => simp [intOf]; omega
      · have b3 := below1 w2 (.cells #[.int .i64 0, .int .i64 0, .slice none 0 0, .slice none 0 0] 94)
        have HY3 := hide (heap_alloc_new w2 (.cells #[.int .i64 0, .int .i64 0, .slice none 0 0, .slice none 0 0] 94))
        have HD3 := hide ((b3.block _ (heapLt (unhide HD2))).trans (unhide HD2))
        have HX3 := hide ((b3.block _ (heapLt (unhide HX2))).trans (unhide HX2))
        have HW3 := hide ((unhide HW2).trans (b3.mono (unhide HW2).size))
        have HS3 := hide ((unhide HS2).later b3)
        have hYl : D < w2.heap.size := heapLt (unhide HD2)
        clear b3 HD2 HX2 HW2 HS2
        have hone : Ix.lackL l (nm, vr, fs, ds) (x, y) = [Ix.titleT (nm, vr, fs, ds) ++ Ix.lacksT ++ Pk.nameT x y] := by unfold Ix.lackL Ix.met; rw [hq]
        go_wp2_with fail
        generalize hYe : w2.heap.size = Y at *
        clear hYe
        generalize w2.alloc _ = W3 at *
        clear w2
        have sOf : ∀ w' : World, (∀ (j : Nat) (c : Array Value) (t : TypeId), t ≠ 9 → W3.heap[j]? = some (Obj.cells c t (0, 0)) → w'.heap[j]? = W3.heap[j]?) → (w'.cell? ⟨w.heap.size, 0, none⟩ = some (.int .i64 nm) ∧ w'.cell? ⟨w.heap.size, 1, none⟩ = some (.int .i64 vr) ∧ w'.cell? ⟨w.heap.size, 2, none⟩ = some (.slice fa fn fc) ∧ w'.cell? ⟨w.heap.size, 3, none⟩ = some (.slice (some ⟨b, off, none⟩) ds.length dc)) ∧ (w'.cell? ⟨D, 0, none⟩ = some (.int .i64 x) ∧ w'.cell? ⟨D, 1, none⟩ = some (.int .i64 y)) := fun w' hb => by
          have hx := (hb _ _ _ (by decide) (unhide HX3)).trans (unhide HX3)
          have hd := (hb _ _ _ (by decide) (unhide HD3)).trans (unhide HD3)
          exact ⟨⟨cellOf hx 0, cellOf hx 1, cellOf hx 2, cellOf hx 3⟩, ⟨cellOf hd 0, cellOf hd 1⟩⟩
        have SOF : Hid (∀ w' : World, Below W3.heap.size W3 w' → (w'.cell? ⟨w.heap.size, 0, none⟩ = some (.int .i64 nm) ∧ w'.cell? ⟨w.heap.size, 1, none⟩ = some (.int .i64 vr) ∧ w'.cell? ⟨w.heap.size, 2, none⟩ = some (.slice fa fn fc) ∧ w'.cell? ⟨w.heap.size, 3, none⟩ = some (.slice (some ⟨b, off, none⟩) ds.length dc)) ∧ (w'.cell? ⟨D, 0, none⟩ = some (.int .i64 x) ∧ w'.cell? ⟨D, 1, none⟩ = some (.int .i64 y))) := fun w' hb => sOf w' (fun j _ _ _ hj => hb.block j (heapLt hj))
        have SOG := hide sOf
        clear sOf
        refine wp_region_held_drew (S := fun w' => (w'.cell? ⟨w.heap.size, 0, none⟩ = some (.int .i64 nm) ∧ w'.cell? ⟨w.heap.size, 1, none⟩ = some (.int .i64 vr) ∧ w'.cell? ⟨w.heap.size, 2, none⟩ = some (.slice fa fn fc) ∧ w'.cell? ⟨w.heap.size, 3, none⟩ = some (.slice (some ⟨b, off, none⟩) ds.length dc)) ∧ (w'.cell? ⟨D, 0, none⟩ = some (.int .i64 x) ∧ w'.cell? ⟨D, 1, none⟩ = some (.int .i64 y))) (by kernel_rfl) (unhide SOF _ (below_drew W3)) (fun hHeld => ?_)
        refine anyH_at (i := 0) (d := some 25) rfl rfl (by kernel_rfl) (by kernel_rfl) (by kernel_rfl) (fun _ _ _ h => h) (by rfl) (v := ?_) ?_ (by assumption) ?_
        rotate_left
        · (intro w hSw; (try dsimp only at hSw); go_simp <;> with_reducible rfl)
        simp only [Act.put, List.setIfInBounds_toArray, List.set_cons_zero, List.set_cons_succ]
        refine anyH_at (i := 1) (d := some 26) rfl rfl (by kernel_rfl) (by kernel_rfl) (by kernel_rfl) (fun _ _ _ h => h) (by rfl) (v := ?_) ?_ (by assumption) ?_
        rotate_left
        · (intro w hSw; (try dsimp only at hSw); go_simp <;> with_reducible rfl)
        simp only [Act.put, List.setIfInBounds_toArray, List.set_cons_zero, List.set_cons_succ]
        refine anyH_at (i := 4) (d := some 29) rfl rfl (by kernel_rfl) (by kernel_rfl) (by kernel_rfl) (fun _ _ _ h => h) (by rfl) (v := ?_) ?_ (by assumption) ?_
        rotate_left
        · (intro w hSw; (try dsimp only at hSw); go_simp <;> with_reducible rfl)
        simp only [Act.put, List.setIfInBounds_toArray, List.set_cons_zero, List.set_cons_succ]
        refine anyH_at (i := 5) (d := some 30) rfl rfl (by kernel_rfl) (by kernel_rfl) (by kernel_rfl) (fun _ _ _ h => h) (by rfl) (v := ?_) ?_ (by assumption) ?_
        rotate_left
        · (intro w hSw; (try dsimp only at hSw); go_simp <;> with_reducible rfl)
        simp only [Act.put, List.setIfInBounds_toArray, List.set_cons_zero, List.set_cons_succ]
        refine anyH_at (i := 6) (d := some 31) rfl rfl (by kernel_rfl) (by kernel_rfl) (by kernel_rfl) (fun _ _ _ h => h) (by rfl) (v := ?_) ?_ (by assumption) ?_
        rotate_left
        · (intro w hSw; (try dsimp only at hSw); go_simp <;> with_reducible rfl)
        simp only [Act.put, List.setIfInBounds_toArray, List.set_cons_zero, List.set_cons_succ]
        refine anyH_at (i := 7) (d := some 32) rfl rfl (by kernel_rfl) (by kernel_rfl) (by kernel_rfl) (fun _ _ _ h => h) (by rfl) (v := ?_) ?_ (by assumption) ?_
        rotate_left
        · (intro w hSw; (try dsimp only at hSw); go_simp <;> with_reducible rfl)
        simp only [Act.put, List.setIfInBounds_toArray, List.set_cons_zero, List.set_cons_succ]
        refine wpAnyH_ready (rs := [2]) (by kernel_rfl) (by simp) ?_
        refine AllReadyH.cons rfl (fun K hK => ?_) AllReadyH.nil
        go_simp
        refine (title_any _ nm vr _ _ n0.1 n0.2 (by omega) (by omega)).mono ?_
        rintro e w4 ⟨rfl, b4⟩
        have HB4 : Hid (Below W3.heap.size W3 w4) := (below_drew W3).trans b4
        clear b4
        go_wp2_with fail
        refine hK.out _ _ ?_ (fun hHeldN => ?_)
        · exact unhide SOF _ (unhide HB4)
        clear hHeld
        have hHeld := hHeldN
        clear hHeldN
        clear hK K
        try simp only [Act.put, List.setIfInBounds_toArray, List.set_cons_zero, List.set_cons_succ]
        refine anyH_at (i := 3) (d := some 28) rfl rfl (by kernel_rfl) (by kernel_rfl) (by kernel_rfl) (fun _ _ _ h => h) (by rfl) (v := .string ⟨(Ix.titleT (nm, vr, fs, ds) ++ Ix.lacksT).toArray⟩) (fun _ _ => run_add _ _ _ rfl (Pk.nameT nm vr) (Ix.lacksT) rfl rfl (of_decide_eq_true rfl)) (by assumption) ?_
        simp only [Act.put, List.setIfInBounds_toArray, List.set_cons_zero, List.set_cons_succ]
        refine wpAnyH_ready (rs := [8]) (by kernel_rfl) (by simp) ?_
        refine AllReadyH.cons rfl (fun K hK => ?_) AllReadyH.nil
        go_simp
        refine (spellNamed_any x y _ hbd.1.1 hbd.1.2 (by omega) (by omega)).mono ?_
        rintro e w5 ⟨rfl, rfl⟩
        go_wp2_with fail
        refine hK.out _ _ ?_ (fun hHeldN => ?_)
        · exact unhide SOF _ (unhide HB4)
        clear hHeld
        have hHeld := hHeldN
        clear hHeldN
        clear hK K
        try simp only [Act.put, List.setIfInBounds_toArray, List.set_cons_zero, List.set_cons_succ]
        refine anyH_at (i := 9) (d := some 34) rfl rfl (by kernel_rfl) (by kernel_rfl) (by kernel_rfl) (fun _ _ _ h => h) (by rfl) (v := .string ⟨(Ix.titleT (nm, vr, fs, ds) ++ Ix.lacksT ++ Pk.nameT x y).toArray⟩) (fun _ _ => run_add _ _ _ rfl (Ix.titleT (nm, vr, fs, ds) ++ Ix.lacksT) (Pk.nameT x y) rfl rfl (of_decide_eq_true rfl)) (by assumption) ?_
        simp only [Act.put, List.setIfInBounds_toArray, List.set_cons_zero, List.set_cons_succ]
        refine wpAnyH_ready (rs := [10]) (by kernel_rfl) (by simp) ?_
        refine AllReadyH.cons rfl (fun K hK => ?_) AllReadyH.nil
        go_simp
        have b7 := below1 w5 (.cells #[strB (Ix.titleT (nm, vr, fs, ds) ++ Ix.lacksT ++ Pk.nameT x y)] 9)
        have HB7 := hide ((unhide HB4).trans (b7.mono (unhide HB4).size))
        have hnw := World.news_of_block (cs := #[strB (Ix.titleT (nm, vr, fs, ds) ++ Ix.lacksT ++ Pk.nameT x y)]) (t := 9) (fr := (0, 0)) (heap_alloc_new w5 (.cells #[strB (Ix.titleT (nm, vr, fs, ds) ++ Ix.lacksT ++ Pk.nameT x y)] 9))
        have HNW := hide hnw
        clear b7 hnw
        refine hK.out _ _ ?_ (fun hHeldN => ?_)
        · exact unhide SOF _ (unhide HB7)
        clear hHeld
        have hHeld := hHeldN
        clear hHeldN
        clear hK K
        try simp only [Act.put, List.setIfInBounds_toArray, List.set_cons_zero, List.set_cons_succ]
        refine wpAnyH_ready (rs := [11]) (by kernel_rfl) (by simp) ?_
        refine AllReadyH.cons rfl (fun K hK => ?_) AllReadyH.nil
        rw [if_pos (by rfl)]
        have HS7 := hide ((unhide HS3).later (unhide HB7))
        refine wp_append_own _ _ _ 111 rfl w.heap.size 9 i0 _ 1 16 Tryz.underlying111 hI0 hz0 hz1 hz2 rfl (by decide) (.slice oa ls.length oc) ls.length (ls.map strB) rfl (unhide HS7) ⟨w5.heap.size, 0, none⟩ 1 1 [strB (Ix.titleT (nm, vr, fs, ds) ++ Ix.lacksT ++ Pk.nameT x y)] rfl rfl (unhide HNW) (by simp [strB, Value.oneCell']) (by unfold maxLen; omega) (by omega) (Nat.le_trans (unhide HW3).size (unhide HB7).size) ?_
        intro v8 w8 hown8 hgrow8 _
        have hoth : ∀ (j : Nat) (c : Array Value) (t : TypeId), t ≠ 9 → W3.heap[j]? = some (Obj.cells c t (0, 0)) → w8.heap[j]? = W3.heap[j]? := fun j c t ht hj => by
          have h7 := (unhide HB7).block j (heapLt hj)
          exact (grown_other (unhide HS7) hgrow8 (h7.trans hj) ht).trans h7
        have hBw := (unhide HW3).trans ((unhide HB7).mono (unhide HW3).size)
        have HB8 := hide (grown_below (B := w.heap.size) (unhide HS7) hgrow8 hBw hBw.size)
        have HOT := hide hoth
        have HO8 := hide hown8
        clear hown8 hgrow8 hoth hBw
        change K (Act.put _ (some 36) _) _
        refine hK.out _ _ ?_ (fun hHeldN => ?_)
        · exact unhide SOG _ (unhide HOT)
        clear hHeld
        have hHeld := hHeldN
        clear hHeldN
        clear hK K
        try simp only [Act.put, List.setIfInBounds_toArray, List.set_cons_zero, List.set_cons_succ]
        refine anyH_at (i := 12) (d := some 5) rfl rfl (by kernel_rfl) (by kernel_rfl) (by kernel_rfl) (fun _ _ _ h => h) (by rfl) (v := ?_) ?_ (by assumption) ?_
        rotate_left
        · (intro w hSw; (try dsimp only at hSw); go_simp <;> with_reducible rfl)
        simp only [Act.put, List.setIfInBounds_toArray, List.set_cons_zero, List.set_cons_succ]
        refine wpAnyH_done (by kernel_rfl) ?_ _
        go_wp2
        go_roundw
        case rel => exact ⟨k + 1, by omega, by go_num, by rw [unhide HST, hone]; show World.ownsRow _ _ _ _ _ (List.length _) _; rw [List.length_append, List.map_append]; exact unhide HO8, unhide HB8, (unhide HOT _ _ _ (by decide) (unhide HX3)).trans (unhide HX3)⟩
        case measure => simp [intOf]; omega
    · obtain rfl : k = ds.length := by omega
      rw [List.take_length] at HS ⊢
      clear hlt hrow
      go_wp2
      go_ret
      exact ⟨_, rfl, unhide HS, unhide HW⟩

set_option maxHeartbeats 8000000 in
set_option maxRecDepth 100000 in
theorem placeLines_any {N : Nat → Prop} (w : World) (nm vr : Int) (fa : Option Addr) (fc : Nat) (da : Option Addr) (dn dc : Nat) (fs ds : List (Int × Int)) (v : Value) (la : List Ix.Pg) (h : Pks N w v la) (hf : Prs w (.slice fa fs.length fc) fs) (n0 : 1 ≤ nm ∧ nm ≤ 4) (v0 : 1 ≤ vr ∧ vr ≤ 5) (hlen : fs.length ≤ 2) (hok : (∀ i, i < fs.length → (0 ≤ Pk.fst fs i ∧ Pk.fst fs i ≤ 5) ∧ (0 ≤ Pk.snd fs i ∧ Pk.snd fs i ≤ 9)) ∧ ∀ q ∈ la, (1 ≤ q.1 ∧ q.1 ≤ 4) ∧ (1 ≤ q.2.1 ∧ q.2.1 ≤ 5)) :
    Calls Tryz.prog 113 #[.agg #[.int .i64 nm, .int .i64 vr, .slice fa fs.length fc, .slice da dn dc], v] w fun e w' => ∃ u, e = .returned u ∧ StrR w.heap.size w' u (fs.flatMap (Ix.placeOf la (nm, vr, fs, ds))) ∧ Below w.heap.size w w' := by
  obtain ⟨i0, hI0, hz0, hz1, hz2⟩ := info_parts infoS
  have B0 := below1 w (.cells #[.int .i64 nm, .int .i64 vr, .slice fa fs.length fc, .slice da dn dc] 94)
  have H0 := hide (And.intro B0 (heap_alloc_new w (.cells #[.int .i64 nm, .int .i64 vr, .slice fa fs.length fc, .slice da dn dc] 94)))
  have HO := hide hok
  have HP := hide h
  obtain ⟨pa, pc, hv⟩ := h.slice
  subst hv
  obtain ⟨xa, xc, e1, _, hrow⟩ := hf
  injection e1 with e1 _ e3
  subst e1 e3
  clear B0 h hok
  have x3 := cellOf (unhide H0).2 2
  have xlt := heapLt (unhide H0).2
  go_enter Tryz.func113, Tryz.ntmps113
  go_wp2_with fail
  clear x3 xlt
  go_loopw [5, 13] (fun o i w' => ∃ k : Nat, k ≤ fs.length ∧ i = .int .i64 k ∧ StrR w.heap.size w' o ((fs.take k).flatMap (Ix.placeOf la (nm, vr, fs, ds))) ∧ Below w.heap.size w w' ∧ w'.heap[w.heap.size]? = some (.cells #[.int .i64 nm, .int .i64 vr, .slice fa fs.length fc, .slice da dn dc] 94 (0, 0))) (fun _ i _ => fs.length - (intOf i).toNat)
  case atStart => exact ⟨0, Nat.zero_le _, rfl, StrR.nil _ _, (unhide H0).1, (unhide H0).2⟩
  case round =>
    clear H0
    obtain ⟨k, hk, rfl, ho, hw, hX⟩ := hrel
    obtain ⟨oa, oc, hov⟩ := own_formS ho
    subst hov
    have HS := hide ho
    have HW := hide hw
    have HX := hide hX
    clear ho hw hX
    by_cases hlt : k < fs.length
    · obtain ⟨b, off, rfl, hb, hc⟩ := hrow (by omega)
      obtain ⟨c0, c1⟩ := hc k hlt
      rw [← (unhide HW).cell hb] at c0 c1
      have hb' : b < wr.heap.size := Nat.lt_of_lt_of_le hb (unhide HW).size
      have hi0 : (0 : Int) ≤ (k : Int) := Int.natCast_nonneg _
      have hi1 : (k : Int) < (fs.length : Int) := by omega
      have er : IntKind.i64.wrap ((k : Int) + 1) = (k : Int) + 1 := by simp [IntKind.wrap, IntKind.bits, IntKind.signed]; omega
      have hstep := Ix.take_cons_flat (Ix.placeOf la (nm, vr, fs, ds)) fs k _ (Ix.pair_mem hlt).2
      have HST := hide hstep
      have hbd := (unhide HO).1 k hlt
      have hfl : ((fs.take k).flatMap (Ix.placeOf la (nm, vr, fs, ds))).length ≤ 2 := Nat.le_trans (Ix.flat_le _ (Ix.placeOf_len la (nm, vr, fs, ds)) _) (by rw [List.length_take]; omega)
      generalize (fs.take k).flatMap (Ix.placeOf la (nm, vr, fs, ds)) = ls at *
      clear hc hrow hb hstep
      have bD := below1 wr (.cells #[.int .i64 (Pk.fst fs k), .int .i64 (Pk.snd fs k)] 120)
      have HD := hide (heap_alloc_new wr (.cells #[.int .i64 (Pk.fst fs k), .int .i64 (Pk.snd fs k)] 120))
      have HX1 := hide ((bD.block _ (heapLt (unhide HX))).trans (unhide HX))
      have HW1 := hide ((unhide HW).trans (bD.mono (unhide HW).size))
      have HS1 := hide ((unhide HS).later bD)
      have hwD : w.heap.size < wr.heap.size := heapLt (unhide HX)
      clear bD HS HX
      generalize Pk.fst fs k = x at *
      generalize Pk.snd fs k = y at *
      have CF := hide (firstInt_any _ (.slice pa la.length pc) la x ((unhide HP).later (unhide HW1)))
      go_wp2_with fail
      refine (unhide CF).mono ?_
      generalize hDe : wr.heap.size = D at *
      have HDE := hide hDe
      clear hDe
      generalize wr.alloc _ = W1 at *
      clear c0 c1 hb' CF
      rintro e w2 ⟨hcase, b2⟩
      have HD2 := hide ((b2.block _ (heapLt (unhide HD))).trans (unhide HD))
      have HX2 := hide ((b2.block _ (heapLt (unhide HX1))).trans (unhide HX1))
      have HW2 := hide ((unhide HW1).trans (b2.mono (unhide HW1).size))
      have HS2 := hide ((unhide HS1).later b2)
      clear b2 HD HX1 HW1 HS1
      clear W1
      rcases hcase with ⟨q, ya, yn, yc, za, zn, zc, hq, rfl⟩ | ⟨hq, rfl⟩
      · have b3 := below1 w2 (.cells #[.int .i64 q.1, .int .i64 q.2.1, .slice ya yn yc, .slice za zn zc] 94)
        have HY3 := hide (heap_alloc_new w2 (.cells #[.int .i64 q.1, .int .i64 q.2.1, .slice ya yn yc, .slice za zn zc] 94))
        have HD3 := hide ((b3.block _ (heapLt (unhide HD2))).trans (unhide HD2))
        have HX3 := hide ((b3.block _ (heapLt (unhide HX2))).trans (unhide HX2))
        have HW3 := hide ((unhide HW2).trans (b3.mono (unhide HW2).size))
        have HS3 := hide ((unhide HS2).later b3)
        have hYl : D < w2.heap.size := heapLt (unhide HD2)
        clear b3 HD2 HX2 HW2 HS2
        have hqn := (unhide HO).2 q (List.mem_of_find?_eq_some hq)
        obtain ⟨hqn, hqv⟩ := hqn
        have hone : Ix.placeOf la (nm, vr, fs, ds) (x, y) = [Ix.titleT (nm, vr, fs, ds) ++ Ix.andT ++ Ix.titleT q ++ Ix.atT ++ [Pk.b8 (48 + x)]] := by unfold Ix.placeOf; rw [hq]
        go_wp2_with fail
        generalize hYe : w2.heap.size = Y at *
        clear hYe
        generalize w2.alloc _ = W3 at *
        clear w2
        have sOf : ∀ w' : World, (∀ (j : Nat) (c : Array Value) (t : TypeId), t ≠ 9 → W3.heap[j]? = some (Obj.cells c t (0, 0)) → w'.heap[j]? = W3.heap[j]?) → (w'.cell? ⟨w.heap.size, 0, none⟩ = some (.int .i64 nm) ∧ w'.cell? ⟨w.heap.size, 1, none⟩ = some (.int .i64 vr) ∧ w'.cell? ⟨w.heap.size, 2, none⟩ = some (.slice (some ⟨b, off, none⟩) fs.length fc) ∧ w'.cell? ⟨w.heap.size, 3, none⟩ = some (.slice da dn dc)) ∧ (w'.cell? ⟨D, 0, none⟩ = some (.int .i64 x) ∧ w'.cell? ⟨D, 1, none⟩ = some (.int .i64 y)) ∧ (w'.cell? ⟨Y, 0, none⟩ = some (.int .i64 q.1) ∧ w'.cell? ⟨Y, 1, none⟩ = some (.int .i64 q.2.1) ∧ w'.cell? ⟨Y, 2, none⟩ = some (.slice ya yn yc) ∧ w'.cell? ⟨Y, 3, none⟩ = some (.slice za zn zc)) := fun w' hb => by
          have hx := (hb _ _ _ (by decide) (unhide HX3)).trans (unhide HX3)
          have hd := (hb _ _ _ (by decide) (unhide HD3)).trans (unhide HD3)
          have hy := (hb _ _ _ (by decide) (unhide HY3)).trans (unhide HY3)
          exact ⟨⟨cellOf hx 0, cellOf hx 1, cellOf hx 2, cellOf hx 3⟩, ⟨cellOf hd 0, cellOf hd 1⟩, ⟨cellOf hy 0, cellOf hy 1, cellOf hy 2, cellOf hy 3⟩⟩
        have SOF : Hid (∀ w' : World, Below W3.heap.size W3 w' → (w'.cell? ⟨w.heap.size, 0, none⟩ = some (.int .i64 nm) ∧ w'.cell? ⟨w.heap.size, 1, none⟩ = some (.int .i64 vr) ∧ w'.cell? ⟨w.heap.size, 2, none⟩ = some (.slice (some ⟨b, off, none⟩) fs.length fc) ∧ w'.cell? ⟨w.heap.size, 3, none⟩ = some (.slice da dn dc)) ∧ (w'.cell? ⟨D, 0, none⟩ = some (.int .i64 x) ∧ w'.cell? ⟨D, 1, none⟩ = some (.int .i64 y)) ∧ (w'.cell? ⟨Y, 0, none⟩ = some (.int .i64 q.1) ∧ w'.cell? ⟨Y, 1, none⟩ = some (.int .i64 q.2.1) ∧ w'.cell? ⟨Y, 2, none⟩ = some (.slice ya yn yc) ∧ w'.cell? ⟨Y, 3, none⟩ = some (.slice za zn zc))) := fun w' hb => sOf w' (fun j _ _ _ hj => hb.block j (heapLt hj))
        have SOG := hide sOf
        clear sOf
        refine wp_region_held_drew (S := fun w' => (w'.cell? ⟨w.heap.size, 0, none⟩ = some (.int .i64 nm) ∧ w'.cell? ⟨w.heap.size, 1, none⟩ = some (.int .i64 vr) ∧ w'.cell? ⟨w.heap.size, 2, none⟩ = some (.slice (some ⟨b, off, none⟩) fs.length fc) ∧ w'.cell? ⟨w.heap.size, 3, none⟩ = some (.slice da dn dc)) ∧ (w'.cell? ⟨D, 0, none⟩ = some (.int .i64 x) ∧ w'.cell? ⟨D, 1, none⟩ = some (.int .i64 y)) ∧ (w'.cell? ⟨Y, 0, none⟩ = some (.int .i64 q.1) ∧ w'.cell? ⟨Y, 1, none⟩ = some (.int .i64 q.2.1) ∧ w'.cell? ⟨Y, 2, none⟩ = some (.slice ya yn yc) ∧ w'.cell? ⟨Y, 3, none⟩ = some (.slice za zn zc))) (by kernel_rfl) (unhide SOF _ (below_drew W3)) (fun hHeld => ?_)
        refine anyH_at (i := 0) (d := some 25) rfl rfl (by kernel_rfl) (by kernel_rfl) (by kernel_rfl) (fun _ _ _ h => h) (by rfl) (v := ?_) ?_ (by assumption) ?_
        rotate_left
        · (intro w hSw; (try dsimp only at hSw); go_simp <;> with_reducible rfl)
        simp only [Act.put, List.setIfInBounds_toArray, List.set_cons_zero, List.set_cons_succ]
        refine anyH_at (i := 1) (d := some 26) rfl rfl (by kernel_rfl) (by kernel_rfl) (by kernel_rfl) (fun _ _ _ h => h) (by rfl) (v := ?_) ?_ (by assumption) ?_
        rotate_left
        · (intro w hSw; (try dsimp only at hSw); go_simp <;> with_reducible rfl)
        simp only [Act.put, List.setIfInBounds_toArray, List.set_cons_zero, List.set_cons_succ]
        refine anyH_at (i := 4) (d := some 29) rfl rfl (by kernel_rfl) (by kernel_rfl) (by kernel_rfl) (fun _ _ _ h => h) (by rfl) (v := ?_) ?_ (by assumption) ?_
        rotate_left
        · (intro w hSw; (try dsimp only at hSw); go_simp <;> with_reducible rfl)
        simp only [Act.put, List.setIfInBounds_toArray, List.set_cons_zero, List.set_cons_succ]
        refine anyH_at (i := 8) (d := some 33) rfl rfl (by kernel_rfl) (by kernel_rfl) (by kernel_rfl) (fun _ _ _ h => h) (by rfl) (v := ?_) ?_ (by assumption) ?_
        rotate_left
        · (intro w hSw; (try dsimp only at hSw); go_simp <;> with_reducible rfl)
        simp only [Act.put, List.setIfInBounds_toArray, List.set_cons_zero, List.set_cons_succ]
        refine anyH_at (i := 9) (d := some 34) rfl rfl (by kernel_rfl) (by kernel_rfl) (by kernel_rfl) (fun _ _ _ h => h) (by rfl) (v := ?_) ?_ (by assumption) ?_
        rotate_left
        · (intro w hSw; (try dsimp only at hSw); go_simp <;> with_reducible rfl)
        simp only [Act.put, List.setIfInBounds_toArray, List.set_cons_zero, List.set_cons_succ]
        refine wpAnyH_ready (rs := [2]) (by kernel_rfl) (by simp) ?_
        refine AllReadyH.cons rfl (fun K hK => ?_) AllReadyH.nil
        go_simp
        refine (title_any _ nm vr _ _ n0.1 n0.2 (by omega) (by omega)).mono ?_
        rintro e w4 ⟨rfl, b4⟩
        have HB4 : Hid (Below W3.heap.size W3 w4) := (below_drew W3).trans b4
        clear b4
        go_wp2_with fail
        refine hK.out _ _ ?_ (fun hHeldN => ?_)
        · exact unhide SOF _ (unhide HB4)
        clear hHeld
        have hHeld := hHeldN
        clear hHeldN
        clear hK K
        try simp only [Act.put, List.setIfInBounds_toArray, List.set_cons_zero, List.set_cons_succ]
        refine anyH_at (i := 3) (d := some 28) rfl rfl (by kernel_rfl) (by kernel_rfl) (by kernel_rfl) (fun _ _ _ h => h) (by rfl) (v := .string ⟨(Ix.titleT (nm, vr, fs, ds) ++ Ix.andT).toArray⟩) (fun _ _ => run_add _ _ _ rfl (Pk.nameT nm vr) (Ix.andT) rfl rfl (of_decide_eq_true rfl)) (by assumption) ?_
        simp only [Act.put, List.setIfInBounds_toArray, List.set_cons_zero, List.set_cons_succ]
        refine wpAnyH_ready (rs := [5]) (by kernel_rfl) (by simp) ?_
        refine AllReadyH.cons rfl (fun K hK => ?_) AllReadyH.nil
        go_simp
        refine (title_any _ q.1 q.2.1 _ _ hqn.1 hqn.2 (by omega) (by omega)).mono ?_
        rintro e w5 ⟨rfl, b5⟩
        have HB5 := hide ((unhide HB4).trans (b5.mono (unhide HB4).size))
        clear b5 HB4
        go_wp2_with fail
        refine hK.out _ _ ?_ (fun hHeldN => ?_)
        · exact unhide SOF _ (unhide HB5)
        clear hHeld
        have hHeld := hHeldN
        clear hHeldN
        clear hK K
        try simp only [Act.put, List.setIfInBounds_toArray, List.set_cons_zero, List.set_cons_succ]
        refine anyH_at (i := 6) (d := some 31) rfl rfl (by kernel_rfl) (by kernel_rfl) (by kernel_rfl) (fun _ _ _ h => h) (by rfl) (v := .string ⟨(Ix.titleT (nm, vr, fs, ds) ++ Ix.andT ++ Ix.titleT q).toArray⟩) (fun _ _ => run_add _ _ _ rfl (Ix.titleT (nm, vr, fs, ds) ++ Ix.andT) (Pk.nameT q.1 q.2.1) rfl rfl (of_decide_eq_true rfl)) (by assumption) ?_
        simp only [Act.put, List.setIfInBounds_toArray, List.set_cons_zero, List.set_cons_succ]
        refine anyH_at (i := 7) (d := some 32) rfl rfl (by kernel_rfl) (by kernel_rfl) (by kernel_rfl) (fun _ _ _ h => h) (by rfl) (v := .string ⟨(Ix.titleT (nm, vr, fs, ds) ++ Ix.andT ++ Ix.titleT q ++ Ix.atT).toArray⟩) (fun _ _ => run_add _ _ _ rfl (Ix.titleT (nm, vr, fs, ds) ++ Ix.andT ++ Ix.titleT q) (Ix.atT) rfl rfl (of_decide_eq_true rfl)) (by assumption) ?_
        simp only [Act.put, List.setIfInBounds_toArray, List.set_cons_zero, List.set_cons_succ]
        refine wpAnyH_ready (rs := [10]) (by kernel_rfl) (by simp) ?_
        refine AllReadyH.cons rfl (fun K hK => ?_) AllReadyH.nil
        go_simp
        refine (itoa_any x _ (by omega) (by omega)).mono ?_
        rintro e w6 ⟨rfl, rfl⟩
        go_wp2_with fail
        refine hK.out _ _ ?_ (fun hHeldN => ?_)
        · exact unhide SOF _ (unhide HB5)
        clear hHeld
        have hHeld := hHeldN
        clear hHeldN
        clear hK K
        try simp only [Act.put, List.setIfInBounds_toArray, List.set_cons_zero, List.set_cons_succ]
        have HB4 := HB5
        refine anyH_at (i := 11) (d := some 36) rfl rfl (by kernel_rfl) (by kernel_rfl) (by kernel_rfl) (fun _ _ _ h => h) (by rfl) (v := .string ⟨(Ix.titleT (nm, vr, fs, ds) ++ Ix.andT ++ Ix.titleT q ++ Ix.atT ++ [Pk.b8 (48 + x)]).toArray⟩) (fun _ _ => run_add _ _ _ rfl (Ix.titleT (nm, vr, fs, ds) ++ Ix.andT ++ Ix.titleT q ++ Ix.atT) ([Pk.b8 (48 + x)]) rfl rfl (of_decide_eq_true rfl)) (by assumption) ?_
        simp only [Act.put, List.setIfInBounds_toArray, List.set_cons_zero, List.set_cons_succ]
        refine wpAnyH_ready (rs := [12]) (by kernel_rfl) (by simp) ?_
        refine AllReadyH.cons rfl (fun K hK => ?_) AllReadyH.nil
        go_simp
        have b7 := below1 w6 (.cells #[strB (Ix.titleT (nm, vr, fs, ds) ++ Ix.andT ++ Ix.titleT q ++ Ix.atT ++ [Pk.b8 (48 + x)])] 9)
        have HB7 := hide ((unhide HB4).trans (b7.mono (unhide HB4).size))
        have hnw := World.news_of_block (cs := #[strB (Ix.titleT (nm, vr, fs, ds) ++ Ix.andT ++ Ix.titleT q ++ Ix.atT ++ [Pk.b8 (48 + x)])]) (t := 9) (fr := (0, 0)) (heap_alloc_new w6 (.cells #[strB (Ix.titleT (nm, vr, fs, ds) ++ Ix.andT ++ Ix.titleT q ++ Ix.atT ++ [Pk.b8 (48 + x)])] 9))
        have HNW := hide hnw
        clear b7 hnw
        refine hK.out _ _ ?_ (fun hHeldN => ?_)
        · exact unhide SOF _ (unhide HB7)
        clear hHeld
        have hHeld := hHeldN
        clear hHeldN
        clear hK K
        try simp only [Act.put, List.setIfInBounds_toArray, List.set_cons_zero, List.set_cons_succ]
        refine wpAnyH_ready (rs := [13]) (by kernel_rfl) (by simp) ?_
        refine AllReadyH.cons rfl (fun K hK => ?_) AllReadyH.nil
        rw [if_pos (by rfl)]
        have HS7 := hide ((unhide HS3).later (unhide HB7))
        refine wp_append_own _ _ _ 111 rfl w.heap.size 9 i0 _ 1 16 Tryz.underlying111 hI0 hz0 hz1 hz2 rfl (by decide) (.slice oa ls.length oc) ls.length (ls.map strB) rfl (unhide HS7) ⟨w6.heap.size, 0, none⟩ 1 1 [strB (Ix.titleT (nm, vr, fs, ds) ++ Ix.andT ++ Ix.titleT q ++ Ix.atT ++ [Pk.b8 (48 + x)])] rfl rfl (unhide HNW) (by simp [strB, Value.oneCell']) (by unfold maxLen; omega) (by omega) (Nat.le_trans (unhide HW3).size (unhide HB7).size) ?_
        intro v8 w8 hown8 hgrow8 _
        have hoth : ∀ (j : Nat) (c : Array Value) (t : TypeId), t ≠ 9 → W3.heap[j]? = some (Obj.cells c t (0, 0)) → w8.heap[j]? = W3.heap[j]? := fun j c t ht hj => by
          have h7 := (unhide HB7).block j (heapLt hj)
          exact (grown_other (unhide HS7) hgrow8 (h7.trans hj) ht).trans h7
        have hBw := (unhide HW3).trans ((unhide HB7).mono (unhide HW3).size)
        have HB8 := hide (grown_below (B := w.heap.size) (unhide HS7) hgrow8 hBw hBw.size)
        have HOT := hide hoth
        have HO8 := hide hown8
        clear hown8 hgrow8 hoth hBw
        change K (Act.put _ (some 38) _) _
        refine hK.out _ _ ?_ (fun hHeldN => ?_)
        · exact unhide SOG _ (unhide HOT)
        clear hHeld
        have hHeld := hHeldN
        clear hHeldN
        clear hK K
        try simp only [Act.put, List.setIfInBounds_toArray, List.set_cons_zero, List.set_cons_succ]
        refine anyH_at (i := 14) (d := some 5) rfl rfl (by kernel_rfl) (by kernel_rfl) (by kernel_rfl) (fun _ _ _ h => h) (by rfl) (v := ?_) ?_ (by assumption) ?_
        rotate_left
        · (intro w hSw; (try dsimp only at hSw); go_simp <;> with_reducible rfl)
        simp only [Act.put, List.setIfInBounds_toArray, List.set_cons_zero, List.set_cons_succ]
        refine wpAnyH_done (by kernel_rfl) ?_ _
        go_wp2
        go_roundw
        case rel => exact ⟨k + 1, by omega, by go_num, by rw [unhide HST, hone]; show World.ownsRow _ _ _ _ _ (List.length _) _; rw [List.length_append, List.map_append]; exact unhide HO8, unhide HB8, (unhide HOT _ _ _ (by decide) (unhide HX3)).trans (unhide HX3)⟩
        case measure => simp [intOf]; omega
      · have b3 := below1 w2 (.cells #[.int .i64 0, .int .i64 0, .slice none 0 0, .slice none 0 0] 94)
        have HY3 := hide (heap_alloc_new w2 (.cells #[.int .i64 0, .int .i64 0, .slice none 0 0, .slice none 0 0] 94))
        have HD3 := hide ((b3.block _ (heapLt (unhide HD2))).trans (unhide HD2))
        have HX3 := hide ((b3.block _ (heapLt (unhide HX2))).trans (unhide HX2))
        have HW3 := hide ((unhide HW2).trans (b3.mono (unhide HW2).size))
        have HS3 := hide ((unhide HS2).later b3)
        have hYl : D < w2.heap.size := heapLt (unhide HD2)
        clear b3 HD2 HX2 HW2 HS2
        have hnil : Ix.placeOf la (nm, vr, fs, ds) (x, y) = [] := by unfold Ix.placeOf; rw [hq]
        go_wp2
        go_roundw
        case rel => exact ⟨k + 1, by omega, by go_num, by rw [unhide HST, hnil, List.append_nil]; exact unhide HS3, unhide HW3, unhide HX3⟩
        case measure => simp [intOf]; omega
    · obtain rfl : k = fs.length := by omega
      rw [List.take_length] at HS ⊢
      clear hlt hrow
      go_wp2
      go_ret
      exact ⟨_, rfl, unhide HS, unhide HW⟩
end Go.Proofs.YtkhanndmbpemfaaGreatDoor
