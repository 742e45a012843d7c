import Derived.Test.YtlnieobmhofkdaaGreatMix7
import Derived.Test.YtlnieobmhofkdaaGreatAnsPW
import Derived.Test.YtlnieobmhofkdaaGreatMix9
import Derived.Deep.AppendLies
/- What impl.shelvesOf and impl.StoreNewest return: packages by their names, copies; the newest of a name; for every row of packages that can be read. -/
namespace Go.Proofs.YtlnieobmhofkdaaGreat
open Go.RowKit

/-- Rows of packages by their names: each its own, no two in one block. -/
structure Shv (B : Nat) (w : World) (V : Int → Value) (E : Int → List El) : Prop where
  own : ∀ n, w.ownsRow B 67 4 (V n) (E n).length (flat4 (E n))
  el : ∀ n, ∀ e ∈ E n, OwP B w e.2.1 e.2.2 e.1.2.2.1 e.1.2.2.2
  apart : ∀ n m g, n ≠ m → (V n).ownBlock = some g → (V m).ownBlock ≠ some g
  far : ∀ n, (E n).Pairwise farE
  farther : ∀ n m, n ≠ m → ∀ a ∈ E n, ∀ b ∈ E m, farE a b
theorem Shv.start (B : Nat) (w : World) : Shv B w (fun _ => nilS) (fun _ => []) := ⟨fun _ => World.ownsRow_nil _ _ _ _, fun _ _ he => (by cases he), fun _ _ _ _ h => (by cases h), fun _ => List.Pairwise.nil, fun _ _ _ _ h => (by cases h)⟩
theorem Shv.keepC {B : Nat} {w w' : World} {V : Int → Value} {E : Int → List El} (h : Shv B w V E) (hk : ∀ (k : Nat) (c : Array Value) (t : TypeId), w.heap[k]? = some (Obj.cells c t (0, 0)) → w'.heap[k]? = w.heap[k]?) : Shv B w' V E :=
  ⟨fun n => own_keepS (h.own n) (fun g _ _ _ hg => hk g _ _ hg), fun n e he => ⟨own_keepS (h.el n e he).f (fun g _ _ _ hg => hk g _ _ hg), own_keepS (h.el n e he).d (fun g _ _ _ hg => hk g _ _ hg)⟩, h.apart, h.far, h.farther⟩
theorem Shv.later {B : Nat} {w w' : World} {V : Int → Value} {E : Int → List El} (h : Shv B w V E) (hb : Below w.heap.size w w') : Shv B w' V E := h.keepC (fun k _ _ hk => hb.block k (heapLt hk))
theorem Shv.app {B : Nat} {w w2 : World} {V : Int → Value} {E : Int → List El} {e : El} {g cap : Nat} (h : Shv B w V E) (hg : w.grownBy w2 (V e.1.1).ownBlock)
    (ho : w2.ownsRow B 67 4 (.slice (some ⟨g, 0, none⟩) ((E e.1.1).length + 1) cap) ((E e.1.1).length + 1) (flat4 (E e.1.1) ++ [.int .i64 e.1.1, .int .i64 e.1.2.1, e.2.1, e.2.2]))
    (hat : (V e.1.1).ownBlock = some g ∨ w.heap.size ≤ g) (he : OwP B w e.2.1 e.2.2 e.1.2.2.1 e.1.2.2.2) (hnew : ∀ n, ∀ a ∈ E n, farE a e) :
    Shv B w2 (fun j => if j = e.1.1 then .slice (some ⟨g, 0, none⟩) ((E e.1.1).length + 1) cap else V j) (fun j => if j = e.1.1 then E e.1.1 ++ [e] else E j) := by
  have kp : ∀ {fv dv : Value} {fs ds : List (Int × Int)}, OwP B w fv dv fs ds → OwP B w2 fv dv fs ds := fun hp => ⟨own_keepS hp.f (fun g _ _ _ hgg => grown_other (h.own _) hg hgg (by decide)), own_keepS hp.d (fun g _ _ _ hgg => grown_other (h.own _) hg hgg (by decide))⟩
  refine ⟨fun n => ?_, fun n x hx => ?_, fun n m k hne hn => ?_, fun n => ?_, fun n m hne a ha b hb => ?_⟩
  · show w2.ownsRow B 67 4 (if n = e.1.1 then _ else V n) (if n = e.1.1 then _ else E n).length (flat4 (if n = e.1.1 then _ else E n))
    by_cases hn : n = e.1.1
    · subst hn
      rw [if_pos rfl, if_pos rfl, flat4_snoc, List.length_append]
      exact ho
    · simp only [if_neg hn]
      exact own_keepS (h.own n) (fun k _ hk _ hx => hg.block k (heapLt hx) (fun e2 => h.apart n _ k hn hk e2.symm))
  · by_cases hn : n = e.1.1
    · simp only [if_pos hn] at hx
      rcases List.mem_append.1 hx with hx | hx
      · exact kp (h.el _ x hx)
      · rw [List.mem_singleton] at hx
        subst hx
        exact kp he
    · simp only [if_neg hn] at hx
      exact kp (h.el n x hx)
  · have lt : ∀ j k, (V j).ownBlock = some k → k < w.heap.size := fun j k hj => by
      obtain ⟨_, c, hc⟩ := own_row (h.own j) k hj
      exact heapLt hc
    by_cases h1 : n = e.1.1
    · have h2 : m ≠ e.1.1 := fun h => hne (h1.trans h.symm)
      simp only [if_pos h1] at hn
      simp only [if_neg h2]
      obtain rfl : g = k := Option.some.inj hn
      intro hm
      rcases hat with ha | ha
      · exact h.apart _ _ _ (fun h => h2 h.symm) ha hm
      · have := lt m g hm; omega
    · simp only [if_neg h1] at hn
      by_cases h2 : m = e.1.1
      · simp only [if_pos h2]
        intro hm
        obtain rfl : g = k := Option.some.inj hm
        rcases hat with ha | ha
        · exact h.apart _ _ _ h1 hn ha
        · have := lt n g hn; omega
      · simp only [if_neg h2]
        exact h.apart n m k hne hn
  · by_cases hn : n = e.1.1
    · simp only [if_pos hn]
      exact List.pairwise_append.2 ⟨h.far _, List.pairwise_singleton _ _, fun a ha b hb => by rw [List.mem_singleton] at hb; rw [hb]; exact hnew _ a ha⟩
    · simp only [if_neg hn]
      exact h.far n
  · by_cases h1 : n = e.1.1
    · have h2 : m ≠ e.1.1 := fun h => hne (h1.trans h.symm)
      simp only [if_pos h1] at ha
      simp only [if_neg h2] at hb
      rcases List.mem_append.1 ha with ha | ha
      · exact h.farther _ _ (fun e2 => h2 e2.symm) a ha b hb
      · rw [List.mem_singleton] at ha
        rw [ha]
        exact (hnew m b hb).symm
    · simp only [if_neg h1] at ha
      by_cases h2 : m = e.1.1
      · simp only [if_pos h2] at hb
        rcases List.mem_append.1 hb with hb | hb
        · exact h.farther _ _ h1 a ha b hb
        · rw [List.mem_singleton] at hb
          rw [hb]
          exact hnew n a ha
      · simp only [if_neg h2] at hb
        exact h.farther n m hne a ha b hb
theorem zeroP (w : World) : (zeroValue 41).run Tryz.prog w = .ok nilS w := by kernel_rfl

set_option maxHeartbeats 4000000 in
set_option maxRecDepth 100000 in
theorem shelvesOf_any {N : Nat → Prop} (w : World) (v : Value) (l : List Ix.Pg) (h : Pks N w v l) (hok : Ix.pkgsOk l = true) :
    Calls Tryz.prog 30 #[v] w fun e w' => ∃ V E, e = .returned (.map (some w.heap.size)) ∧ MapV w' w.heap.size l.length V ∧ Shv w.heap.size w' V E ∧ (∀ n, (E n).map (·.1) = Ix.shelf l n) ∧ Below w.heap.size w w' := by
  have hmm := @run_makeMap Tryz.prog
  obtain ⟨i0, hI0, hz0, hz1, hz2⟩ := info_parts infoPkg
  obtain ⟨a, cap, rfl, hlen, hrow⟩ := h
  have HOK := hide hok
  clear hok
  go_enter Tryz.func30, Tryz.ntmps30
  go_wp2
  go_loopw [9] (fun i wr => ∃ (k : Nat) (V : Int → Value) (E : Int → List El), k ≤ l.length ∧ i = .int .i64 k ∧ MapV wr w.heap.size k V ∧ Shv w.heap.size wr V E ∧ (∀ n, (E n).map (·.1) = Ix.shelf (l.take k) n) ∧ Below w.heap.size w wr) (fun i _ => l.length - (intOf i).toNat)
  case atStart => exact ⟨0, _, _, Nat.zero_le _, rfl, MapV.made w, Shv.start _ _, fun n => rfl, below1 _ _⟩
  case round =>
    clear hmm
    obtain ⟨k, V, E, hk, rfl, hM, hS, hD, hw⟩ := hrel
    have HM := hide hM
    have HS := hide hS
    have HD := hide hD
    have HW := hide hw
    clear hM hS hD hw
    by_cases hlt : k < l.length
    · obtain ⟨b, off, rfl, hb, _, hc⟩ := hrow (by omega)
      obtain ⟨fv, dv, hAt, hf, hd⟩ := hc k hlt
      clear hc hrow
      have hnm : 1 ≤ (Ix.pg l k).1 ∧ (Ix.pg l k).1 ≤ 4 := Ix.pOk_name (Ix.pkgs_pOk (unhide HOK) hlt)
      obtain ⟨nm, vr, fs, ds, hpk⟩ : ∃ nm vr fs ds, Ix.pg l k = (nm, vr, fs, ds) := ⟨_, _, _, _, rfl⟩
      rw [hpk] at hAt hf hd hnm
      dsimp only at hf hd hnm
      obtain ⟨fa, fc, hfv⟩ := hf.slice
      obtain ⟨da, dc, hdv⟩ := hd.slice
      subst hfv hdv
      obtain ⟨c0, c1, c2, c3⟩ := hAt.keep ((unhide HW).block b hb)
      dsimp only at c0 c1 c2 c3
      have hb' : b < wr.heap.size := Nat.lt_of_lt_of_le hb (unhide HW).size
      have hi0 : (0 : Int) ≤ (k : Int) := Int.natCast_nonneg _
      have hi1 : (k : Int) < (l.length : Int) := by omega
      have b1 := below1 wr (.cells #[.int .i64 nm, .int .i64 vr, .slice fa fs.length fc, .slice da ds.length dc] 67)
      have hB1 := (unhide HW).trans (b1.mono (unhide HW).size)
      have HF1 := hide (And.intro (hf.prs.later hB1) (hd.prs.later hB1))
      have HX1 := hide (heap_alloc_new wr (.cells #[.int .i64 nm, .int .i64 vr, .slice fa fs.length fc, .slice da ds.length dc] 67))
      have HM1 := hide ((unhide HM).later b1)
      have HS1 := hide ((unhide HS).later b1)
      have HB1 := hide hB1
      have HPK := hide hpk
      have HXN : Hid (∀ n, (V n).ownBlock ≠ some wr.heap.size) := fun n e => by
        obtain ⟨_, c, hc⟩ := own_row ((unhide HS).own n) _ e
        have := heapLt hc
        omega
      have hel : (E nm).length ≤ k := by
        have := congrArg List.length (unhide HD nm)
        rw [List.length_map] at this
        rw [this]
        unfold Ix.shelf
        exact Nat.le_trans (List.length_filter_le _ _) (by rw [List.length_take]; omega)
      clear hAt hf hd hpk b1 hB1 HM HS HW
      go_wp2_with fail
      generalize hX : wr.heap.size = X at *
      clear hX
      generalize wr.alloc _ = W1 at *
      clear c0 c1 c2 c3 hb'
      clear wr
      have sOf : ∀ w', Below W1.heap.size W1 w' → (w'.cell? ⟨X, 0, none⟩ = some (.int .i64 nm) ∧ w'.cell? ⟨X, 1, none⟩ = some (.int .i64 vr) ∧ w'.cell? ⟨X, 2, none⟩ = some (.slice fa fs.length fc) ∧ w'.cell? ⟨X, 3, none⟩ = some (.slice da ds.length dc)) ∧ MapV w' w.heap.size k V := fun w' hb => by
        have hx := (hb.block _ (heapLt (unhide HX1))).trans (unhide HX1)
        exact ⟨⟨cellOf hx 0, cellOf hx 1, cellOf hx 2, cellOf hx 3⟩, (unhide HM1).later hb⟩
      have SOF := hide sOf
      clear sOf
      refine wl_region (S := fun w' => (w'.cell? ⟨X, 0, none⟩ = some (.int .i64 nm) ∧ w'.cell? ⟨X, 1, none⟩ = some (.int .i64 vr) ∧ w'.cell? ⟨X, 2, none⟩ = some (.slice fa fs.length fc) ∧ w'.cell? ⟨X, 3, none⟩ = some (.slice da ds.length dc)) ∧ MapV w' w.heap.size k V) (s := 11) (by kernel_rfl) (unhide SOF _ (below_drew W1)) (fun hHeld => ?_)
      refine wl_take (i := 0) (d := some 13) rfl rfl (by kernel_rfl) (by kernel_rfl) (by kernel_rfl) (by kernel_rfl) (by kernel_rfl) (fun _ _ _ h => h) (by rfl) (fun w _ => run_move rfl rfl w) (by assumption) ?_
      simp only [Act.put, List.setIfInBounds_toArray, List.set_cons_zero, List.set_cons_succ, List.getElem_toArray, List.getElem_cons_zero, List.getElem_cons_succ]
      refine wl_take (i := 1) (d := some 14) rfl rfl (by kernel_rfl) (by kernel_rfl) (by kernel_rfl) (by kernel_rfl) (by kernel_rfl) (fun _ _ _ h => h) (by rfl) (v := ?_) ?_ (by assumption) ?_
      rotate_left
      · (intro w hSw; (try dsimp only at hSw); go_simp <;> with_reducible rfl)
      simp only [Act.put, List.setIfInBounds_toArray, List.set_cons_zero, List.set_cons_succ]
      refine wl_take (i := 2) (d := some 15) rfl rfl (by kernel_rfl) (by kernel_rfl) (by kernel_rfl) (by kernel_rfl) (by kernel_rfl) (fun _ _ _ h => h) (by rfl) (v := ?_) ?_ (by assumption) ?_
      rotate_left
      · (intro w hSw; (try dsimp only at hSw); go_simp <;> with_reducible rfl)
      simp only [Act.put, List.setIfInBounds_toArray, List.set_cons_zero, List.set_cons_succ]
      refine wl_take (i := 3) (d := some 16) rfl rfl (by kernel_rfl) (by kernel_rfl) (by kernel_rfl) (by kernel_rfl) (by kernel_rfl) (fun _ _ _ h => h) (by rfl) (fun w _ => run_move rfl rfl w) (by assumption) ?_
      simp only [Act.put, List.setIfInBounds_toArray, List.set_cons_zero, List.set_cons_succ, List.getElem_toArray, List.getElem_cons_zero, List.getElem_cons_succ]
      refine wl_take (i := 4) (d := some 17) rfl rfl (by kernel_rfl) (by kernel_rfl) (by kernel_rfl) (by kernel_rfl) (by kernel_rfl) (fun _ _ _ h => h) (by rfl) (v := ?_) ?_ (by assumption) ?_
      rotate_left
      · (intro w hSw; (try dsimp only at hSw); go_simp <;> with_reducible rfl)
      simp only [Act.put, List.setIfInBounds_toArray, List.set_cons_zero, List.set_cons_succ]
      refine wl_take (i := 5) (d := some 18) rfl rfl (by kernel_rfl) (by kernel_rfl) (by kernel_rfl) (by kernel_rfl) (by kernel_rfl) (fun _ _ _ h => h) (by rfl) (v := ?_) ?_ (by assumption) ?_
      rotate_left
      · (intro w hSw; (try dsimp only at hSw); go_simp <;> with_reducible rfl)
      simp only [Act.put, List.setIfInBounds_toArray, List.set_cons_zero, List.set_cons_succ]
      refine wl_take (i := 6) (d := some 19) rfl rfl (by kernel_rfl) (by kernel_rfl) (by kernel_rfl) (by kernel_rfl) (by kernel_rfl) (fun _ _ _ h => h) (by rfl) (v := V nm) (fun w' hw' => run_lookV _ _ _ rfl 41 Tryz.underlying72 (zeroP _) w.heap.size k V rfl hw'.2 nm rfl (by omega) (by omega)) (by assumption) ?_
      simp only [Act.put, List.setIfInBounds_toArray, List.set_cons_zero, List.set_cons_succ]
      refine wl_take (i := 7) (d := some 20) rfl rfl (by kernel_rfl) (by kernel_rfl) (by kernel_rfl) (by kernel_rfl) (by kernel_rfl) (fun _ _ _ h => h) (by rfl) (v := ?_) ?_ (by assumption) ?_
      rotate_left
      · (intro w hSw; (try dsimp only at hSw); go_simp <;> with_reducible rfl)
      simp only [Act.put, List.setIfInBounds_toArray, List.set_cons_zero, List.set_cons_succ]
      refine wl_one (i := 8) (by kernel_rfl) rfl (by rfl) (fun K hK => ?_)
      go_simp
      clear hHeld
      have hd0 := below_drew W1
      refine (implCopyPkg_any _ nm vr _ _ fs ds ((unhide HF1).1.later hd0) ((unhide HF1).2.later hd0)).mono ?_
      rintro e w2 ⟨fv', dv', rfl, ho2, hb2⟩
      have hb2' : Below W1.heap.size W1 w2 := hd0.trans hb2
      obtain ⟨ga, gc, ha, hcc, h1, h2⟩ := ho2.forms
      subst h1 h2
      have hH2 := unhide SOF _ hb2'
      have HB2 := hide hb2'
      have HO2 := hide (ho2.base (unhide HB1).size)
      have HFN : Hid (∀ n, ∀ a ∈ E n, farE a ((nm, vr, fs, ds), .slice ga fs.length gc, .slice ha ds.length hcc)) := fun n a ha => farE.new (w := W1) (w' := w2) ((unhide HS1).el n a ha) (ho2.base hd0.size)
      clear ho2 hb2 hb2' hd0
      go_wp2_with fail
      refine hK.out _ _ (fun _ => (by assumption)) ?_
      clear hK K
      try simp only [Act.put, List.setIfInBounds_toArray, List.set_cons_zero, List.set_cons_succ]
      refine wl_one (i := 9) (by kernel_rfl) rfl (by rfl) (fun K hK => ?_)
      go_simp
      have hb3 := (unhide HB2).trans ((below1 w2 (.cells #[.int .i64 nm, .int .i64 vr, .slice ga fs.length gc, .slice ha ds.length hcc] 67)).mono (unhide HB2).size)
      have hH3 := unhide SOF _ hb3
      have HO3 := hide ((unhide HO2).later (below1 w2 (.cells #[.int .i64 nm, .int .i64 vr, .slice ga fs.length gc, .slice ha ds.length hcc] 67)))
      have hnw := World.news_of_block (cs := #[.int .i64 nm, .int .i64 vr, .slice ga fs.length gc, .slice ha ds.length hcc]) (t := 67) (fr := (0, 0)) (heap_alloc_new w2 (.cells #[.int .i64 nm, .int .i64 vr, .slice ga fs.length gc, .slice ha ds.length hcc] 67))
      have HB3 := hide hb3
      clear hH2 HO2 HB2 hb3
      refine hK.out _ _ (fun _ => (by assumption)) ?_
      clear hK K
      try simp only [Act.put, List.setIfInBounds_toArray, List.set_cons_zero, List.set_cons_succ]
      refine wl_one (i := 10) (by kernel_rfl) rfl (by rfl) (fun K hK => ?_)
      refine wp_append_lies _ _ _ _ (by rfl) w.heap.size 67 i0 _ 4 64 Tryz.underlying41 hI0 hz0 hz1 hz2 rfl (by omega) (V nm) (E nm).length (flat4 (E nm)) (by rfl) (((unhide HS1).later (unhide HB3)).own nm)
        ⟨w2.heap.size, 0, none⟩ 1 1 [.int .i64 nm, .int .i64 vr, .slice ga fs.length gc, .slice ha ds.length hcc] (by rfl) (by rfl) hnw (by simp [Value.oneCell']) (by omega) (by unfold maxLen; omega) (by omega) (by have := (unhide HB1).size; have := (unhide HB3).size; omega) (w2.heap.size + 1) (by simp) ?_
      intro gg gcap w11 hown hgrow hat hlt11
      have hSv := Shv.app (e := ((nm, vr, fs, ds), .slice ga fs.length gc, .slice ha ds.length hcc)) ((unhide HS1).later (unhide HB3)) hgrow hown (hat.imp id (fun e => by rw [sz1]; omega)) (unhide HO3) (unhide HFN)
      have hM11 : MapV w11 w.heap.size k V := hH3.2.keep (hgrow.block _ hH3.2.lt (fun e => by
        obtain ⟨_, c, hc⟩ := own_row (((unhide HS1).later (unhide HB3)).own nm) _ e.symm
        exact hH3.2.notCells hc))
      have hX3 := ((unhide HB3).block _ (heapLt (unhide HX1))).trans (unhide HX1)
      have hX11 := (hgrow.block _ (heapLt hX3) (fun e => unhide HXN nm e.symm)).trans hX3
      have hH11 : (w11.cell? ⟨X, 0, none⟩ = some (.int .i64 nm) ∧ w11.cell? ⟨X, 1, none⟩ = some (.int .i64 vr) ∧ w11.cell? ⟨X, 2, none⟩ = some (.slice fa fs.length fc) ∧ w11.cell? ⟨X, 3, none⟩ = some (.slice da ds.length dc)) ∧ MapV w11 w.heap.size k V := ⟨⟨cellOf hX11 0, cellOf hX11 1, cellOf hX11 2, cellOf hX11 3⟩, hM11⟩
      have hBw := (unhide HB1).trans ((unhide HB3).mono (unhide HB1).size)
      have hB11 : Below w.heap.size w w11 := grown_below (B := w.heap.size) (((unhide HS1).later (unhide HB3)).own nm) hgrow hBw hBw.size
      have HB11 := hide hB11
      have HSV := hide hSv
      clear hSv hX3 hX11 hBw hB11 hgrow hown hat hlt11 hH3 hnw
      change K (Act.put _ (some 23) _) _
      refine hK.out _ _ (fun _ => (by assumption)) ?_
      clear hK K
      try simp only [Act.put, List.setIfInBounds_toArray, List.set_cons_zero, List.set_cons_succ]
      refine wl_one (i := 11) (by kernel_rfl) rfl (by rfl) (fun K hK => ?_)
      refine wp_putV _ _ _ _ _ rfl 41 Tryz.underlying72 w.heap.size k V rfl hM11 (by unfold maxLen; omega) nm rfl _ rfl (by omega) (by omega) ?_
      intro w12 hM12 hg12
      have HM12 := hide hM12
      have HS12 := hide ((unhide HSV).keepC (w' := w12) (fun g c t hg => hg12.block g (heapLt hg) (fun e => hM11.notCells (by rw [Option.some.inj e] at hg; exact hg))))
      have HB12 : Hid (Below w.heap.size w w12) := (unhide HB11).trans ⟨hg12.os, hg12.tape, hg12.output, hg12.size, fun j hj => hg12.block j (Nat.lt_of_lt_of_le hj (unhide HB11).size) (fun e => by have := Option.some.inj e; omega)⟩
      clear hM12 hg12 HSV HB11
      refine hK.out _ _ (fun h => absurd rfl h) ?_
      clear hK K
      refine wl_done (by kernel_rfl) ?_
      clear hH11 hM11
      go_wp2
      go_roundw
      case rel =>
        refine ⟨k + 1, _, _, by omega, by go_num, unhide HM12, unhide HS12, fun n => ?_, unhide HB12⟩
        rw [Ix.shelf_snoc hlt, unhide HPK]
        show List.map _ (if n = nm then _ else _) = if nm = n then _ else _
        by_cases hn : n = nm
        · subst hn
          rw [if_pos rfl, if_pos rfl, List.map_append, unhide HD]
          rfl
        · rw [if_neg hn, if_neg (fun e => hn e.symm), unhide HD]
      case measure => simp [intOf]; omega
    · obtain rfl : k = l.length := by omega
      rw [List.take_length] at HD
      clear hlt
      go_wp2
      go_ret
      exact ⟨V, E, rfl, unhide HM, unhide HS, unhide HD, unhide HW⟩
end Go.Proofs.YtlnieobmhofkdaaGreat
