/- What impl.shelvesOf and impl.StoreNewest return: packages by their names, copies; the newest of a name; for every row of packages that can be read. -/
import Derived.Test.YtlidgoomlllonaaDoorSNewW
import Derived.Test.YtlidgoomlllonaaDoorMapVW
import Derived.Test.YtlidgoomlllonaaDoorLastW
import Derived.Deep.AppendLies
namespace Go.Proofs.YtlidgoomlllonaaDoor
open Go.RowKit

/-- Rows of packages by their names: each its own, no two in one block. -/
structure Shv (B : Nat) (w : World) (V : Int → Value) (E : Int → List El) : Prop where
  own : ∀ n, w.ownsRow B 30 4 (V n) (E n).length (flat4 (E n))
  el : ∀ n, ∀ e ∈ E n, OwP B w e.2.1 e.2.2 e.1.2.2.1 e.1.2.2.2
  apart : ∀ n m g, n ≠ m → (V n).ownBlock = some g → (V m).ownBlock ≠ some g
theorem Shv.start (B : Nat) (w : World) : Shv B w (fun _ => nilS) (fun _ => []) := ⟨fun _ => World.ownsRow_nil _ _ _ _, fun _ _ he => (by cases he), fun _ _ _ _ h => (by cases h)⟩
theorem Shv.keepC {B : Nat} {w w' : World} {V : Int → Value} {E : Int → List El} (h : Shv B w V E) (hk : ∀ (k : Nat) (c : Array Value) (t : TypeId), w.heap[k]? = some (Obj.cells c t (0, 0)) → w'.heap[k]? = w.heap[k]?) : Shv B w' V E :=
  ⟨fun n => own_keepS (h.own n) (fun g _ _ _ hg => hk g _ _ hg), fun n e he => ⟨own_keepS (h.el n e he).f (fun g _ _ _ hg => hk g _ _ hg), own_keepS (h.el n e he).d (fun g _ _ _ hg => hk g _ _ hg)⟩, h.apart⟩
theorem Shv.later {B : Nat} {w w' : World} {V : Int → Value} {E : Int → List El} (h : Shv B w V E) (hb : Below w.heap.size w w') : Shv B w' V E := h.keepC (fun k _ _ hk => hb.block k (heapLt hk))
theorem Shv.app {B : Nat} {w w2 : World} {V : Int → Value} {E : Int → List El} {e : El} {g cap : Nat} (h : Shv B w V E) (hg : w.grownBy w2 (V e.1.1).ownBlock)
    (ho : w2.ownsRow B 30 4 (.slice (some ⟨g, 0, none⟩) ((E e.1.1).length + 1) cap) ((E e.1.1).length + 1) (flat4 (E e.1.1) ++ [.int .i64 e.1.1, .int .i64 e.1.2.1, e.2.1, e.2.2]))
    (hat : (V e.1.1).ownBlock = some g ∨ w.heap.size ≤ g) (he : OwP B w e.2.1 e.2.2 e.1.2.2.1 e.1.2.2.2) :
    Shv B w2 (fun j => if j = e.1.1 then .slice (some ⟨g, 0, none⟩) ((E e.1.1).length + 1) cap else V j) (fun j => if j = e.1.1 then E e.1.1 ++ [e] else E j) := by
  have kp : ∀ {fv dv : Value} {fs ds : List (Int × Int)}, OwP B w fv dv fs ds → OwP B w2 fv dv fs ds := fun hp => ⟨own_keepS hp.f (fun g _ _ _ hgg => grown_other (h.own _) hg hgg (by decide)), own_keepS hp.d (fun g _ _ _ hgg => grown_other (h.own _) hg hgg (by decide))⟩
  refine ⟨fun n => ?_, fun n x hx => ?_, fun n m k hne hn => ?_⟩
  · show w2.ownsRow B 30 4 (if n = e.1.1 then _ else V n) (if n = e.1.1 then _ else E n).length (flat4 (if n = e.1.1 then _ else E n))
    by_cases hn : n = e.1.1
    · subst hn
      rw [if_pos rfl, if_pos rfl, flat4_snoc, List.length_append]
      exact ho
    · simp only [if_neg hn]
      exact own_keepS (h.own n) (fun k _ hk _ hx => hg.block k (heapLt hx) (fun e2 => h.apart n _ k hn hk e2.symm))
  · by_cases hn : n = e.1.1
    · simp only [if_pos hn] at hx
      rcases List.mem_append.1 hx with hx | hx
      · exact kp (h.el _ x hx)
      · rw [List.mem_singleton] at hx
        subst hx
        exact kp he
    · simp only [if_neg hn] at hx
      exact kp (h.el n x hx)
  · have lt : ∀ j k, (V j).ownBlock = some k → k < w.heap.size := fun j k hj => by
      obtain ⟨_, c, hc⟩ := own_row (h.own j) k hj
      exact heapLt hc
    by_cases h1 : n = e.1.1
    · have h2 : m ≠ e.1.1 := fun h => hne (h1.trans h.symm)
      simp only [if_pos h1] at hn
      simp only [if_neg h2]
      obtain rfl : g = k := Option.some.inj hn
      intro hm
      rcases hat with ha | ha
      · exact h.apart _ _ _ (fun h => h2 h.symm) ha hm
      · have := lt m g hm; omega
    · simp only [if_neg h1] at hn
      by_cases h2 : m = e.1.1
      · simp only [if_pos h2]
        intro hm
        obtain rfl : g = k := Option.some.inj hm
        rcases hat with ha | ha
        · exact h.apart _ _ _ h1 hn ha
        · have := lt n g hn; omega
      · simp only [if_neg h2]
        exact h.apart n m k hne hn
theorem zeroP (w : World) : (zeroValue 23).run Tryd.prog w = .ok nilS w := by kernel_rfl

set_option maxHeartbeats 4000000 in
set_option maxRecDepth 100000 in
theorem shelvesOf_any {N : Nat → Prop} (w : World) (v : Value) (l : List Ix.Pg) (h : Pks N w v l) (hok : Ix.pkgsOk l = true) :
    Calls Tryd.prog 26 #[v] w fun e w' => ∃ V E, e = .returned (.map (some w.heap.size)) ∧ MapV w' w.heap.size l.length V ∧ Shv w.heap.size w' V E ∧ (∀ n, (E n).map (·.1) = Ix.shelf l n) ∧ Below w.heap.size w w' := by
  have hmm := @run_makeMap Tryd.prog
  obtain ⟨i0, hI0, hz0, hz1, hz2⟩ := info_parts infoPkg
  obtain ⟨a, cap, rfl, hlen, hrow⟩ := h
  have HOK := hide hok
  clear hok
  go_enter Tryd.func26, Tryd.ntmps26
  go_wp2
  go_loopw [9] (fun i wr => ∃ (k : Nat) (V : Int → Value) (E : Int → List El), k ≤ l.length ∧ i = .int .i64 k ∧ MapV wr w.heap.size k V ∧ Shv w.heap.size wr V E ∧ (∀ n, (E n).map (·.1) = Ix.shelf (l.take k) n) ∧ Below w.heap.size w wr) (fun i _ => l.length - (intOf i).toNat)
  case atStart => exact ⟨0, _, _, Nat.zero_le _, rfl, MapV.made w, Shv.start _ _, fun n => rfl, below1 _ _⟩
  case round =>
    clear hmm
    obtain ⟨k, V, E, hk, rfl, hM, hS, hD, hw⟩ := hrel
    have HM := hide hM
    have HS := hide hS
    have HD := hide hD
    have HW := hide hw
    clear hM hS hD hw
    by_cases hlt : k < l.length
    · obtain ⟨b, off, rfl, hb, _, hc⟩ := hrow (by omega)
      obtain ⟨fv, dv, hAt, hf, hd⟩ := hc k hlt
      clear hc hrow
      have hnm : 1 ≤ (Ix.pg l k).1 ∧ (Ix.pg l k).1 ≤ 4 := Ix.pOk_name (Ix.pkgs_pOk (unhide HOK) hlt)
      obtain ⟨nm, vr, fs, ds, hpk⟩ : ∃ nm vr fs ds, Ix.pg l k = (nm, vr, fs, ds) := ⟨_, _, _, _, rfl⟩
      rw [hpk] at hAt hf hd hnm
      dsimp only at hf hd hnm
      obtain ⟨fa, fc, hfv⟩ := hf.slice
      obtain ⟨da, dc, hdv⟩ := hd.slice
      subst hfv hdv
      obtain ⟨c0, c1, c2, c3⟩ := hAt.keep ((unhide HW).block b hb)
      dsimp only at c0 c1 c2 c3
      have hb' : b < wr.heap.size := Nat.lt_of_lt_of_le hb (unhide HW).size
      have hi0 : (0 : Int) ≤ (k : Int) := Int.natCast_nonneg _
      have hi1 : (k : Int) < (l.length : Int) := by omega
      have b1 := below1 wr (.cells #[.int .i64 nm, .int .i64 vr, .slice fa fs.length fc, .slice da ds.length dc] 30)
      have hB1 := (unhide HW).trans (b1.mono (unhide HW).size)
      have HF1 := hide (And.intro (hf.prs.later hB1) (hd.prs.later hB1))
      have HX1 := hide (heap_alloc_new wr (.cells #[.int .i64 nm, .int .i64 vr, .slice fa fs.length fc, .slice da ds.length dc] 30))
      have HM1 := hide ((unhide HM).later b1)
      have HS1 := hide ((unhide HS).later b1)
      have HB1 := hide hB1
      have HPK := hide hpk
      have HXN : Hid (∀ n, (V n).ownBlock ≠ some wr.heap.size) := fun n e => by
        obtain ⟨_, c, hc⟩ := own_row ((unhide HS).own n) _ e
        have := heapLt hc
        omega
      have hel : (E nm).length ≤ k := by
        have := congrArg List.length (unhide HD nm)
        rw [List.length_map] at this
        rw [this]
        unfold Ix.shelf
        exact Nat.le_trans (List.length_filter_le _ _) (by rw [List.length_take]; omega)
      clear hAt hf hd hpk b1 hB1 HM HS HW
      go_wp2_with fail
      generalize hX : wr.heap.size = X at *
      clear hX
      generalize wr.alloc _ = W1 at *
      clear c0 c1 c2 c3 hb'
      clear wr
      have sOf : ∀ w', Below W1.heap.size W1 w' → (w'.cell? ⟨X, 0, none⟩ = some (.int .i64 nm) ∧ w'.cell? ⟨X, 1, none⟩ = some (.int .i64 vr) ∧ w'.cell? ⟨X, 2, none⟩ = some (.slice fa fs.length fc) ∧ w'.cell? ⟨X, 3, none⟩ = some (.slice da ds.length dc)) ∧ MapV w' w.heap.size k V := fun w' hb => by
        have hx := (hb.block _ (heapLt (unhide HX1))).trans (unhide HX1)
        exact ⟨⟨cellOf hx 0, cellOf hx 1, cellOf hx 2, cellOf hx 3⟩, (unhide HM1).later hb⟩
      have SOF := hide sOf
      clear sOf
      refine wl_region (S := fun w' => (w'.cell? ⟨X, 0, none⟩ = some (.int .i64 nm) ∧ w'.cell? ⟨X, 1, none⟩ = some (.int .i64 vr) ∧ w'.cell? ⟨X, 2, none⟩ = some (.slice fa fs.length fc) ∧ w'.cell? ⟨X, 3, none⟩ = some (.slice da ds.length dc)) ∧ MapV w' w.heap.size k V) (s := 11) (by kernel_rfl) (unhide SOF _ (below_drew W1)) (fun hHeld => ?_)
      refine wl_take (i := 0) (d := some 13) rfl rfl (by kernel_rfl) (by kernel_rfl) (by kernel_rfl) (by kernel_rfl) (by kernel_rfl) (fun _ _ _ h => h) (by rfl) (fun w _ => run_move rfl rfl w) (by assumption) ?_
      simp only [Act.put, List.setIfInBounds_toArray, List.set_cons_zero, List.set_cons_succ, List.getElem_toArray, List.getElem_cons_zero, List.getElem_cons_succ]
      refine wl_take (i := 1) (d := some 14) rfl rfl (by kernel_rfl) (by kernel_rfl) (by kernel_rfl) (by kernel_rfl) (by kernel_rfl) (fun _ _ _ h => h) (by rfl) (v := ?_) ?_ (by assumption) ?_
      rotate_left
      · (intro w hSw; (try dsimp only at hSw); go_simp <;> with_reducible rfl)
      simp only [Act.put, List.setIfInBounds_toArray, List.set_cons_zero, List.set_cons_succ]
      refine wl_take (i := 2) (d := some 15) rfl rfl (by kernel_rfl) (by kernel_rfl) (by kernel_rfl) (by kernel_rfl) (by kernel_rfl) (fun _ _ _ h => h) (by rfl) (v := ?_) ?_ (by assumption) ?_
      rotate_left
      · (intro w hSw; (try dsimp only at hSw); go_simp <;> with_reducible rfl)
      simp only [Act.put, List.setIfInBounds_toArray, List.set_cons_zero, List.set_cons_succ]
      refine wl_take (i := 3) (d := some 16) rfl rfl (by kernel_rfl) (by kernel_rfl) (by kernel_rfl) (by kernel_rfl) (by kernel_rfl) (fun _ _ _ h => h) (by rfl) (fun w _ => run_move rfl rfl w) (by assumption) ?_
      simp only [Act.put, List.setIfInBounds_toArray, List.set_cons_zero, List.set_cons_succ, List.getElem_toArray, List.getElem_cons_zero, List.getElem_cons_succ]
      refine wl_take (i := 4) (d := some 17) rfl rfl (by kernel_rfl) (by kernel_rfl) (by kernel_rfl) (by kernel_rfl) (by kernel_rfl) (fun _ _ _ h => h) (by rfl) (v := ?_) ?_ (by assumption) ?_
      rotate_left
      · (intro w hSw; (try dsimp only at hSw); go_simp <;> with_reducible rfl)
      simp only [Act.put, List.setIfInBounds_toArray, List.set_cons_zero, List.set_cons_succ]
      refine wl_take (i := 5) (d := some 18) rfl rfl (by kernel_rfl) (by kernel_rfl) (by kernel_rfl) (by kernel_rfl) (by kernel_rfl) (fun _ _ _ h => h) (by rfl) (v := ?_) ?_ (by assumption) ?_
      rotate_left
      · (intro w hSw; (try dsimp only at hSw); go_simp <;> with_reducible rfl)
      simp only [Act.put, List.setIfInBounds_toArray, List.set_cons_zero, List.set_cons_succ]
      refine wl_take (i := 6) (d := some 19) rfl rfl (by kernel_rfl) (by kernel_rfl) (by kernel_rfl) (by kernel_rfl) (by kernel_rfl) (fun _ _ _ h => h) (by rfl) (v := V nm) (fun w' hw' => run_lookV _ _ _ rfl 23 Tryd.underlying51 (zeroP _) w.heap.size k V rfl hw'.2 nm rfl (by omega) (by omega)) (by assumption) ?_
      simp only [Act.put, List.setIfInBounds_toArray, List.set_cons_zero, List.set_cons_succ]
      refine wl_take (i := 7) (d := some 20) rfl rfl (by kernel_rfl) (by kernel_rfl) (by kernel_rfl) (by kernel_rfl) (by kernel_rfl) (fun _ _ _ h => h) (by rfl) (v := ?_) ?_ (by assumption) ?_
      rotate_left
      · (intro w hSw; (try dsimp only at hSw); go_simp <;> with_reducible rfl)
      simp only [Act.put, List.setIfInBounds_toArray, List.set_cons_zero, List.set_cons_succ]
      refine wl_one (i := 8) (by kernel_rfl) rfl (by rfl) (fun K hK => ?_)
      go_simp
      clear hHeld
      have hd0 := below_drew W1
      refine (implCopyPkg_any _ nm vr _ _ fs ds ((unhide HF1).1.later hd0) ((unhide HF1).2.later hd0)).mono ?_
      rintro e w2 ⟨fv', dv', rfl, ho2, hb2⟩
      have hb2' : Below W1.heap.size W1 w2 := hd0.trans hb2
      obtain ⟨ga, gc, ha, hcc, h1, h2⟩ := ho2.forms
      subst h1 h2
      have hH2 := unhide SOF _ hb2'
      have HB2 := hide hb2'
      have HO2 := hide (ho2.base (unhide HB1).size)
      clear ho2 hb2 hb2' hd0
      go_wp2_with fail
      refine hK.out _ _ (fun _ => (by assumption)) ?_
      clear hK K
      try simp only [Act.put, List.setIfInBounds_toArray, List.set_cons_zero, List.set_cons_succ]
      refine wl_one (i := 9) (by kernel_rfl) rfl (by rfl) (fun K hK => ?_)
      go_simp
      have hb3 := (unhide HB2).trans ((below1 w2 (.cells #[.int .i64 nm, .int .i64 vr, .slice ga fs.length gc, .slice ha ds.length hcc] 30)).mono (unhide HB2).size)
      have hH3 := unhide SOF _ hb3
      have HO3 := hide ((unhide HO2).later (below1 w2 (.cells #[.int .i64 nm, .int .i64 vr, .slice ga fs.length gc, .slice ha ds.length hcc] 30)))
      have hnw := World.news_of_block (cs := #[.int .i64 nm, .int .i64 vr, .slice ga fs.length gc, .slice ha ds.length hcc]) (t := 30) (fr := (0, 0)) (heap_alloc_new w2 (.cells #[.int .i64 nm, .int .i64 vr, .slice ga fs.length gc, .slice ha ds.length hcc] 30))
      have HB3 := hide hb3
      clear hH2 HO2 HB2 hb3
      refine hK.out _ _ (fun _ => (by assumption)) ?_
      clear hK K
      try simp only [Act.put, List.setIfInBounds_toArray, List.set_cons_zero, List.set_cons_succ]
      refine wl_one (i := 10) (by kernel_rfl) rfl (by rfl) (fun K hK => ?_)
      refine wp_append_lies _ _ _ _ (by rfl) w.heap.size 30 i0 _ 4 64 Tryd.underlying23 hI0 hz0 hz1 hz2 rfl (by omega) (V nm) (E nm).length (flat4 (E nm)) (by rfl) (((unhide HS1).later (unhide HB3)).own nm)
        ⟨w2.heap.size, 0, none⟩ 1 1 [.int .i64 nm, .int .i64 vr, .slice ga fs.length gc, .slice ha ds.length hcc] (by rfl) (by rfl) hnw (by simp [Value.oneCell']) (by omega) (by unfold maxLen; omega) (by omega) (by have := (unhide HB1).size; have := (unhide HB3).size; omega) (w2.heap.size + 1) (by simp) ?_
      intro gg gcap w11 hown hgrow hat hlt11
      have hSv := Shv.app (e := ((nm, vr, fs, ds), .slice ga fs.length gc, .slice ha ds.length hcc)) ((unhide HS1).later (unhide HB3)) hgrow hown (hat.imp id (fun e => by rw [sz1]; omega)) (unhide HO3)
      have hM11 : MapV w11 w.heap.size k V := hH3.2.keep (hgrow.block _ hH3.2.lt (fun e => by
        obtain ⟨_, c, hc⟩ := own_row (((unhide HS1).later (unhide HB3)).own nm) _ e.symm
        exact hH3.2.notCells hc))
      have hX3 := ((unhide HB3).block _ (heapLt (unhide HX1))).trans (unhide HX1)
      have hX11 := (hgrow.block _ (heapLt hX3) (fun e => unhide HXN nm e.symm)).trans hX3
      have hH11 : (w11.cell? ⟨X, 0, none⟩ = some (.int .i64 nm) ∧ w11.cell? ⟨X, 1, none⟩ = some (.int .i64 vr) ∧ w11.cell? ⟨X, 2, none⟩ = some (.slice fa fs.length fc) ∧ w11.cell? ⟨X, 3, none⟩ = some (.slice da ds.length dc)) ∧ MapV w11 w.heap.size k V := ⟨⟨cellOf hX11 0, cellOf hX11 1, cellOf hX11 2, cellOf hX11 3⟩, hM11⟩
      have hBw := (unhide HB1).trans ((unhide HB3).mono (unhide HB1).size)
      have hB11 : Below w.heap.size w w11 := grown_below (B := w.heap.size) (((unhide HS1).later (unhide HB3)).own nm) hgrow hBw hBw.size
      have HB11 := hide hB11
      have HSV := hide hSv
      clear hSv hX3 hX11 hBw hB11 hgrow hown hat hlt11 hH3 hnw
      change K (Act.put _ (some 23) _) _
      refine hK.out _ _ (fun _ => (by assumption)) ?_
      clear hK K
      try simp only [Act.put, List.setIfInBounds_toArray, List.set_cons_zero, List.set_cons_succ]
      refine wl_one (i := 11) (by kernel_rfl) rfl (by rfl) (fun K hK => ?_)
      refine wp_putV _ _ _ _ _ rfl 23 Tryd.underlying51 w.heap.size k V rfl hM11 (by unfold maxLen; omega) nm rfl _ rfl (by omega) (by omega) ?_
      intro w12 hM12 hg12
      have HM12 := hide hM12
      have HS12 := hide ((unhide HSV).keepC (w' := w12) (fun g c t hg => hg12.block g (heapLt hg) (fun e => hM11.notCells (by rw [Option.some.inj e] at hg; exact hg))))
      have HB12 : Hid (Below w.heap.size w w12) := (unhide HB11).trans ⟨hg12.os, hg12.tape, hg12.output, hg12.size, fun j hj => hg12.block j (Nat.lt_of_lt_of_le hj (unhide HB11).size) (fun e => by have := Option.some.inj e; omega)⟩
      clear hM12 hg12 HSV HB11
      refine hK.out _ _ (fun h => absurd rfl h) ?_
      clear hK K
      refine wl_done (by kernel_rfl) ?_
      clear hH11 hM11
      go_wp2
      go_roundw
      case rel =>
        refine ⟨k + 1, _, _, by omega, by go_num, unhide HM12, unhide HS12, fun n => ?_, unhide HB12⟩
        rw [Ix.shelf_snoc hlt, unhide HPK]
        show List.map _ (if n = nm then _ else _) = if nm = n then _ else _
        by_cases hn : n = nm
        · subst hn
          rw [if_pos rfl, if_pos rfl, List.map_append, unhide HD]
          rfl
        · rw [if_neg hn, if_neg (fun e => hn e.symm), unhide HD]
      case measure => simp [intOf]; omega
    · obtain rfl : k = l.length := by omega
      rw [List.take_length] at HD
      clear hlt
      go_wp2
      go_ret
      exact ⟨V, E, rfl, unhide HM, unhide HS, unhide HD, unhide HW⟩
set_option maxHeartbeats 4000000 in
set_option maxRecDepth 100000 in
theorem implStoreNewest_any {N : Nat → Prop} (w : World) (v : Value) (l : List Ix.Pg) (x : Int) (h : Pks N w v l) (x0 : -9223372036854775808 ≤ x) (x1 : x ≤ 9223372036854775807) :
    Calls Tryd.prog 10 #[v, .int .i64 x] w fun e w' => ∃ u, e = .returned u ∧ NewAns w.heap.size w' u (Ix.newA l x) ∧ Below w.heap.size w w' := by
  have B0 := below1 w (.cells #[.int .i64 0, .int .i64 0, .slice none 0 0, .slice none 0 0] 30)
  have HA0 := hide (And.intro (heap_alloc_new w (.cells #[.int .i64 0, .int .i64 0, .slice none 0 0, .slice none 0 0] 30)) B0)
  have H0 := hide (h.later B0)
  have hlen : l.length ≤ 1000000000 := by obtain ⟨_, _, _, h, _⟩ := h; exact h
  obtain ⟨a, cap, hv⟩ := h.slice
  subst hv
  clear h B0
  go_enter Tryd.func10, Tryd.ntmps10
  go_wp2_with fail
  refine (implStoreOk_any _ _ l (unhide H0)).mono ?_
  generalize World.alloc _ _ = W0 at *
  rintro e w1 ⟨rfl, b1⟩
  have hA1 := (b1.block _ (heapLt (unhide HA0).1)).trans (unhide HA0).1
  have hB1 := (unhide HA0).2.trans (b1.mono (unhide HA0).2.size)
  have H1 := hide ((unhide H0).later b1)
  have HA1 := hide hA1
  have HB1 := hide hB1
  clear b1 HA0 H0
  clear W0
  cases hok : Ix.pkgsOk l
  · obtain ⟨⟨c0, f0⟩, ⟨c1, f1⟩, ⟨c2, f2⟩, c3, f3⟩ : (_ ∧ _) ∧ (_ ∧ _) ∧ (_ ∧ _) ∧ _ ∧ _ := ⟨⟨cellOf hA1 0, frozenOf hA1 0⟩, ⟨cellOf hA1 1, frozenOf hA1 1⟩, ⟨cellOf hA1 2, frozenOf hA1 2⟩, cellOf hA1 3, frozenOf hA1 3⟩
    clear hA1 hB1
    go_wp2
    obtain ⟨⟨q0, q1, q2, q3⟩, hans, hbel⟩ := newAns_box (a := ((0, 0, [], []), false)) (W := w) (unhide HA1) (Nat.le_refl _) (unhide HB1) (OwP.zero _ _) rfl
    exact bodyPost_ret (v := .tuple #[.agg #[.int .i64 0, .int .i64 0, .slice none 0 0, .slice none 0 0], .bool false]) (by simp [results, Tryd.results10, go_sem, q0, q1, q2, q3]) rfl ⟨_, rfl, by rw [Ix.newA_bad hok]; exact hans, hbel⟩
  · clear hA1 hB1
    have HOK := hide hok
    clear hok
    go_wp2_with fail
    refine (shelvesOf_any _ _ l (unhide H1) (unhide HOK)).mono ?_
    rintro e w2 ⟨V, E, rfl, hM, hS, hD, b2⟩
    have hA2 := (b2.block _ (heapLt (unhide HA1))).trans (unhide HA1)
    have hB2 := (unhide HB1).trans (b2.mono (unhide HB1).size)
    have HM := hide hM
    have HS := hide hS
    have hD := hD x
    obtain ⟨⟨c0, f0⟩, ⟨c1, f1⟩, ⟨c2, f2⟩, c3, f3⟩ : (_ ∧ _) ∧ (_ ∧ _) ∧ (_ ∧ _) ∧ _ ∧ _ := ⟨⟨cellOf hA2 0, frozenOf hA2 0⟩, ⟨cellOf hA2 1, frozenOf hA2 1⟩, ⟨cellOf hA2 2, frozenOf hA2 2⟩, cellOf hA2 3, frozenOf hA2 3⟩
    have HA2 := hide hA2
    have HB2 := hide hB2
    have hbs := (unhide HB1).size
    have hox := hS.own x
    have hel := hS.el x
    have hlE : (E x).length ≤ l.length := by
      have := congrArg List.length hD
      rw [List.length_map] at this
      rw [this]
      exact List.length_filter_le _ _
    clear hM hS b2 hA2 hB2
    have hvx : ∃ vx, V x = vx := ⟨_, rfl⟩
    obtain ⟨vx, hvx⟩ := hvx
    rw [hvx] at hox
    have HVX := hide hvx
    clear hvx HS
    generalize E x = es at *
    have HD := hide hD
    have HEL := hide hel
    clear hD hel
    by_cases hE : es.length = 0
    · obtain ⟨va, vc, rfl⟩ := own_formS hox
      have hnew : Ix.newest l x = none := by
        unfold Ix.newest
        rw [← unhide HD, List.eq_nil_of_length_eq_zero hE]
        rfl
      have HNW := hide hnew
      have hE0 : ((es.length : Int) == 0) = true := by rw [hE]; rfl
      clear hnew hE hox
      go_wp2_with (at_lookup; refine wpList_lookV _ rfl _ _ _ rfl 23 Tryd.underlying51 (zeroP _) w1.heap.size l.length V rfl (unhide HM) x rfl x0 x1 ?_; rw [unhide HVX])
      obtain ⟨⟨q0, q1, q2, q3⟩, hans, hbel⟩ := newAns_box (a := ((0, 0, [], []), false)) (W := w) (unhide HA2) (Nat.le_refl _) (unhide HB2) (OwP.zero _ _) rfl
      exact bodyPost_ret (v := .tuple #[.agg #[.int .i64 0, .int .i64 0, .slice none 0 0, .slice none 0 0], .bool false]) (by simp [results, Tryd.results10, go_sem, q0, q1, q2, q3]) rfl ⟨_, rfl, by rw [Ix.newA_none (unhide HNW)]; exact hans, hbel⟩
    · rcases own_shape hox with ⟨_, h0⟩ | ⟨g, mc, hv, hgB⟩
      · exact absurd h0 hE
      subst hv
      obtain ⟨n, hn⟩ : ∃ n, es.length = n + 1 := ⟨es.length - 1, by omega⟩
      obtain ⟨y, hy⟩ : ∃ y, es[n]? = some y := ⟨_, List.getElem?_eq_getElem (by omega)⟩
      have hnew : Ix.newest l x = some y.1 := by
        unfold Ix.newest
        rw [← unhide HD, List.getLast?_eq_getElem?, List.length_map, hn, Nat.add_sub_cancel, List.getElem?_map, hy]
        rfl
      have HNW := hide hnew
      have hO := unhide HEL y (List.mem_of_getElem? hy)
      obtain ⟨n1, n2, n3, n4⟩ := flat4_at es n y hy
      have k0 := own_cell hox _ _ n1
      have k1 := own_cell hox _ _ n2
      have k2 := own_cell hox _ _ n3
      have k3 := own_cell hox _ _ n4
      obtain ⟨⟨nm, vr, fs, ds⟩, fv, dv⟩ := y
      dsimp only at k0 k1 k2 k3 hO
      obtain ⟨ga, gc, ha, hcc, h1, h2⟩ := hO.forms
      subst h1 h2
      have HO := hide (hO.base hbs)
      have hE0 : ((es.length : Int) == 0) = false := by rw [beq_eq_false_iff_ne]; omega
      have e1 : IntKind.i64.wrap ((es.length : Int) - 1) = (n : Int) := by rw [hn]; simp [IntKind.wrap, IntKind.bits, IntKind.signed]; omega
      have hi0 : (0 : Int) ≤ (n : Int) := Int.natCast_nonneg _
      have hi1 : (n : Int) < (es.length : Int) := by omega
      have hgne : g ≠ w.heap.size := by have := heapLt (unhide HA1); omega
      clear hnew hE hox hO n1 n2 n3 n4 hy hn HEL
      go_wp2_with (at_lookup; refine wpList_lookV _ rfl _ _ _ rfl 23 Tryd.underlying51 (zeroP _) w1.heap.size l.length V rfl (unhide HM) x rfl x0 x1 ?_; rw [unhide HVX])
      obtain ⟨⟨q0, q1, q2, q3⟩, hans, hbel⟩ := newAns_box (a := ((nm, vr, fs, ds), true)) (W := w) (unhide HA2) (Nat.le_refl _) (unhide HB2) (unhide HO) rfl
      exact bodyPost_ret (v := .tuple #[.agg #[.int .i64 nm, .int .i64 vr, .slice ga fs.length gc, .slice ha ds.length hcc], .bool true]) (by simp [results, Tryd.results10, go_sem, q0, q1, q2, q3]) rfl ⟨_, rfl, by rw [Ix.newA_some (unhide HOK) (unhide HNW)]; exact hans, hbel⟩
end Go.Proofs.YtlidgoomlllonaaDoor
