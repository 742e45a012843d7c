import Derived.Test.YtlnieobmhofkdaaGreatDoorMix43
import Derived.Test.YtlnieobmhofkdaaGreatDoorAnsPW
import Derived.Test.YtlnieobmhofkdaaGreatDoorMix16
import Derived.Deep.AppendLies
import Derived.Test.YtlnieobmhofkdaaGreatDoorMix13
import Derived.Test.YtlnieobmhofkdaaGreatDoorMix7
/- What impl.shelvesOf and impl.StoreNewest return: packages by their names, copies; the newest of a name; for every row of packages that can be read. -/
namespace Go.Proofs.YtlnieobmhofkdaaGreatDoor
open Go.RowKit

/-- Rows of packages by their names: each its own, no two in one block. -/
structure Shv (B : Nat) (w : World) (V : Int → Value) (E : Int → List El) : Prop where
  own : ∀ n, w.ownsRow B 42 4 (V n) (E n).length (flat4 (E n))
  el : ∀ n, ∀ e ∈ E n, OwP B w e.2.1 e.2.2 e.1.2.2.1 e.1.2.2.2
  apart : ∀ n m g, n ≠ m → (V n).ownBlock = some g → (V m).ownBlock ≠ some g
  far : ∀ n, (E n).Pairwise farE
  farther : ∀ n m, n ≠ m → ∀ a ∈ E n, ∀ b ∈ E m, farE a b
theorem Shv.start (B : Nat) (w : World) : Shv B w (fun _ => nilS) (fun _ => []) := ⟨fun _ => World.ownsRow_nil _ _ _ _, fun _ _ he => (by cases he), fun _ _ _ _ h => (by cases h), fun _ => List.Pairwise.nil, fun _ _ _ _ h => (by cases h)⟩
theorem Shv.keepC {B : Nat} {w w' : World} {V : Int → Value} {E : Int → List El} (h : Shv B w V E) (hk : ∀ (k : Nat) (c : Array Value) (t : TypeId), w.heap[k]? = some (Obj.cells c t (0, 0)) → w'.heap[k]? = w.heap[k]?) : Shv B w' V E :=
  ⟨fun n => own_keepS (h.own n) (fun g _ _ _ hg => hk g _ _ hg), fun n e he => ⟨own_keepS (h.el n e he).f (fun g _ _ _ hg => hk g _ _ hg), own_keepS (h.el n e he).d (fun g _ _ _ hg => hk g _ _ hg)⟩, h.apart, h.far, h.farther⟩
theorem Shv.later {B : Nat} {w w' : World} {V : Int → Value} {E : Int → List El} (h : Shv B w V E) (hb : Below w.heap.size w w') : Shv B w' V E := h.keepC (fun k _ _ hk => hb.block k (heapLt hk))
theorem Shv.app {B : Nat} {w w2 : World} {V : Int → Value} {E : Int → List El} {e : El} {g cap : Nat} (h : Shv B w V E) (hg : w.grownBy w2 (V e.1.1).ownBlock)
    (ho : w2.ownsRow B 42 4 (.slice (some ⟨g, 0, none⟩) ((E e.1.1).length + 1) cap) ((E e.1.1).length + 1) (flat4 (E e.1.1) ++ [.int .i64 e.1.1, .int .i64 e.1.2.1, e.2.1, e.2.2]))
    (hat : (V e.1.1).ownBlock = some g ∨ w.heap.size ≤ g) (he : OwP B w e.2.1 e.2.2 e.1.2.2.1 e.1.2.2.2) (hnew : ∀ n, ∀ a ∈ E n, farE a e) :
    Shv B w2 (fun j => if j = e.1.1 then .slice (some ⟨g, 0, none⟩) ((E e.1.1).length + 1) cap else V j) (fun j => if j = e.1.1 then E e.1.1 ++ [e] else E j) := by
  have kp : ∀ {fv dv : Value} {fs ds : List (Int × Int)}, OwP B w fv dv fs ds → OwP B w2 fv dv fs ds := fun hp => ⟨own_keepS hp.f (fun g _ _ _ hgg => grown_other (h.own _) hg hgg (by decide)), own_keepS hp.d (fun g _ _ _ hgg => grown_other (h.own _) hg hgg (by decide))⟩
  refine ⟨fun n => ?_, fun n x hx => ?_, fun n m k hne hn => ?_, fun n => ?_, fun n m hne a ha b hb => ?_⟩
  · show w2.ownsRow B 42 4 (if n = e.1.1 then _ else V n) (if n = e.1.1 then _ else E n).length (flat4 (if n = e.1.1 then _ else E n))
    by_cases hn : n = e.1.1
    · subst hn
      rw [if_pos rfl, if_pos rfl, flat4_snoc, List.length_append]
      exact ho
    · simp only [if_neg hn]
      exact own_keepS (h.own n) (fun k _ hk _ hx => hg.block k (heapLt hx) (fun e2 => h.apart n _ k hn hk e2.symm))
  · by_cases hn : n = e.1.1
    · simp only [if_pos hn] at hx
      rcases List.mem_append.1 hx with hx | hx
      · exact kp (h.el _ x hx)
      · rw [List.mem_singleton] at hx
        subst hx
        exact kp he
    · simp only [if_neg hn] at hx
      exact kp (h.el n x hx)
  · have lt : ∀ j k, (V j).ownBlock = some k → k < w.heap.size := fun j k hj => by
      obtain ⟨_, c, hc⟩ := own_row (h.own j) k hj
      exact heapLt hc
    by_cases h1 : n = e.1.1
    · have h2 : m ≠ e.1.1 := fun h => hne (h1.trans h.symm)
      simp only [if_pos h1] at hn
      simp only [if_neg h2]
      obtain rfl : g = k := Option.some.inj hn
      intro hm
      rcases hat with ha | ha
      · exact h.apart _ _ _ (fun h => h2 h.symm) ha hm
      · have := lt m g hm; omega
    · simp only [if_neg h1] at hn
      by_cases h2 : m = e.1.1
      · simp only [if_pos h2]
        intro hm
        obtain rfl : g = k := Option.some.inj hm
        rcases hat with ha | ha
        · exact h.apart _ _ _ h1 hn ha
        · have := lt n g hn; omega
      · simp only [if_neg h2]
        exact h.apart n m k hne hn
  · by_cases hn : n = e.1.1
    · simp only [if_pos hn]
      exact List.pairwise_append.2 ⟨h.far _, List.pairwise_singleton _ _, fun a ha b hb => by rw [List.mem_singleton] at hb; rw [hb]; exact hnew _ a ha⟩
    · simp only [if_neg hn]
      exact h.far n
  · by_cases h1 : n = e.1.1
    · have h2 : m ≠ e.1.1 := fun h => hne (h1.trans h.symm)
      simp only [if_pos h1] at ha
      simp only [if_neg h2] at hb
      rcases List.mem_append.1 ha with ha | ha
      · exact h.farther _ _ (fun e2 => h2 e2.symm) a ha b hb
      · rw [List.mem_singleton] at ha
        rw [ha]
        exact (hnew m b hb).symm
    · simp only [if_neg h1] at ha
      by_cases h2 : m = e.1.1
      · simp only [if_pos h2] at hb
        rcases List.mem_append.1 hb with hb | hb
        · exact h.farther _ _ h1 a ha b hb
        · rw [List.mem_singleton] at hb
          rw [hb]
          exact hnew n a ha
      · simp only [if_neg h2] at hb
        exact h.farther n m hne a ha b hb
theorem zeroP (w : World) : (zeroValue 31).run Tryz.prog w = .ok nilS w := by kernel_rfl

set_option maxHeartbeats 4000000 in
set_option maxRecDepth 100000 in
theorem shelvesOf_any {N : Nat → Prop} (w : World) (v : Value) (l : List Ix.Pg) (h : Pks N w v l) (hok : Ix.pkgsOk l = true) :
    Calls Tryz.prog 43 #[v] w fun e w' => ∃ V E, e = .returned (.map (some w.heap.size)) ∧ MapV w' w.heap.size l.length V ∧ Shv w.heap.size w' V E ∧ (∀ n, (E n).map (·.1) = Ix.shelf l n) ∧ Below w.heap.size w w' := by
  have hmm := @run_makeMap Tryz.prog
  obtain ⟨i0, hI0, hz0, hz1, hz2⟩ := info_parts infoPkg
  obtain ⟨a, cap, rfl, hlen, hrow⟩ := h
  have HOK := hide hok
  clear hok
  go_enter Tryz.func43, Tryz.ntmps43
  go_wp2
  go_loopw [9] (fun i wr => ∃ (k : Nat) (V : Int → Value) (E : Int → List El), k ≤ l.length ∧ i = .int .i64 k ∧ MapV wr w.heap.size k V ∧ Shv w.heap.size wr V E ∧ (∀ n, (E n).map (·.1) = Ix.shelf (l.take k) n) ∧ Below w.heap.size w wr) (fun i _ => l.length - (intOf i).toNat)
  case atStart => exact ⟨0, _, _, Nat.zero_le _, rfl, MapV.made w, Shv.start _ _, fun n => rfl, below1 _ _⟩
  case round =>
    clear hmm
    obtain ⟨k, V, E, hk, rfl, hM, hS, hD, hw⟩ := hrel
    have HM := hide hM
    have HS := hide hS
    have HD := hide hD
    have HW := hide hw
    clear hM hS hD hw
    by_cases hlt : k < l.length
    · obtain ⟨b, off, rfl, hb, _, hc⟩ := hrow (by omega)
      obtain ⟨fv, dv, hAt, hf, hd⟩ := hc k hlt
      clear hc hrow
      have hnm : 1 ≤ (Ix.pg l k).1 ∧ (Ix.pg l k).1 ≤ 4 := Ix.pOk_name (Ix.pkgs_pOk (unhide HOK) hlt)
      obtain ⟨nm, vr, fs, ds, hpk⟩ : ∃ nm vr fs ds, Ix.pg l k = (nm, vr, fs, ds) := ⟨_, _, _, _, rfl⟩
      rw [hpk] at hAt hf hd hnm
      dsimp only at hf hd hnm
      obtain ⟨fa, fc, hfv⟩ := hf.slice
      obtain ⟨da, dc, hdv⟩ := hd.slice
      subst hfv hdv
      obtain ⟨c0, c1, c2, c3⟩ := hAt.keep ((unhide HW).block b hb)
      dsimp only at c0 c1 c2 c3
      have hb' : b < wr.heap.size := Nat.lt_of_lt_of_le hb (unhide HW).size
      have hi0 : (0 : Int) ≤ (k : Int) := Int.natCast_nonneg _
      have hi1 : (k : Int) < (l.length : Int) := by omega
      have b1 := below1 wr (.cells #[.int .i64 nm, .int .i64 vr, .slice fa fs.length fc, .slice da ds.length dc] 42)
      have hB1 := (unhide HW).trans (b1.mono (unhide HW).size)
      have HF1 := hide (And.intro (hf.prs.later hB1) (hd.prs.later hB1))
      have HX1 := hide (heap_alloc_new wr (.cells #[.int .i64 nm, .int .i64 vr, .slice fa fs.length fc, .slice da ds.length dc] 42))
      have HM1 := hide ((unhide HM).later b1)
      have HS1 := hide ((unhide HS).later b1)
      have HB1 := hide hB1
      have HPK := hide hpk
      have HXN : Hid (∀ n, (V n).ownBlock ≠ some wr.heap.size) := fun n e => by
        obtain ⟨_, c, hc⟩ := own_row ((unhide HS).own n) _ e
        have := heapLt hc
        omega
      have hel : (E nm).length ≤ k := by
        have := congrArg List.length (unhide HD nm)
        rw [List.length_map] at this
        rw [this]
        unfold Ix.shelf
        exact Nat.le_trans (List.length_filter_le _ _) (by rw [List.length_take]; omega)
      clear hAt hf hd hpk b1 hB1 HM HS HW
      go_wp2_with fail
      generalize hX : wr.heap.size = X at *
      clear hX
      generalize wr.alloc _ = W1 at *
      clear c0 c1 c2 c3 hb'
      clear wr
      have sOf : ∀ w', Below W1.heap.size W1 w' → (w'.cell? ⟨X, 0, none⟩ = some (.int .i64 nm) ∧ w'.cell? ⟨X, 1, none⟩ = some (.int .i64 vr) ∧ w'.cell? ⟨X, 2, none⟩ = some (.slice fa fs.length fc) ∧ w'.cell? ⟨X, 3, none⟩ = some (.slice da ds.length dc)) ∧ MapV w' w.heap.size k V := fun w' hb => by
        have hx := (hb.block _ (heapLt (unhide HX1))).trans (unhide HX1)
        exact ⟨⟨cellOf hx 0, cellOf hx 1, cellOf hx 2, cellOf hx 3⟩, (unhide HM1).later hb⟩
      have SOF := hide sOf
      clear sOf
      refine wl_region (S := fun w' => (w'.cell? ⟨X, 0, none⟩ = some (.int .i64 nm) ∧ w'.cell? ⟨X, 1, none⟩ = some (.int .i64 vr) ∧ w'.cell? ⟨X, 2, none⟩ = some (.slice fa fs.length fc) ∧ w'.cell? ⟨X, 3, none⟩ = some (.slice da ds.length dc)) ∧ MapV w' w.heap.size k V) (s := 11) (by kernel_rfl) (unhide SOF _ (below_drew W1)) (fun hHeld => ?_)
      refine wl_take (i := 0) (d := some 13) rfl rfl (by kernel_rfl) (by kernel_rfl) (by kernel_rfl) (by kernel_rfl) (by kernel_rfl) (fun _ _ _ h => h) (by rfl) (fun w _ => run_move rfl rfl w) (by assumption) ?_
      simp only [Act.put, List.setIfInBounds_toArray, List.set_cons_zero, List.set_cons_succ, List.getElem_toArray, List.getElem_cons_zero, List.getElem_cons_succ]
      refine wl_take (i := 1) (d := some 14) rfl rfl (by kernel_rfl) (by kernel_rfl) (by kernel_rfl) (by kernel_rfl) (by kernel_rfl) (fun _ _ _ h => h) (by rfl) (v := ?_) ?_ (by assumption) ?_
      rotate_left
      · (intro w hSw; (try dsimp only at hSw); go_simp <;> with_reducible rfl)
      simp only [Act.put, List.setIfInBounds_toArray, List.set_cons_zero, List.set_cons_succ]
      refine wl_take (i := 2) (d := some 15) rfl rfl (by kernel_rfl) (by kernel_rfl) (by kernel_rfl) (by kernel_rfl) (by kernel_rfl) (fun _ _ _ h => h) (by rfl) (v := ?_) ?_ (by assumption) ?_
      rotate_left
      · (intro w hSw; (try dsimp only at hSw); go_simp <;> with_reducible rfl)
      simp only [Act.put, List.setIfInBounds_toArray, List.set_cons_zero, List.set_cons_succ]
      refine wl_take (i := 3) (d := some 16) rfl rfl (by kernel_rfl) (by kernel_rfl) (by kernel_rfl) (by kernel_rfl) (by kernel_rfl) (fun _ _ _ h => h) (by rfl) (fun w _ => run_move rfl rfl w) (by assumption) ?_
      simp only [Act.put, List.setIfInBounds_toArray, List.set_cons_zero, List.set_cons_succ, List.getElem_toArray, List.getElem_cons_zero, List.getElem_cons_succ]
      refine wl_take (i := 4) (d := some 17) rfl rfl (by kernel_rfl) (by kernel_rfl) (by kernel_rfl) (by kernel_rfl) (by kernel_rfl) (fun _ _ _ h => h) (by rfl) (v := ?_) ?_ (by assumption) ?_
      rotate_left
      · (intro w hSw; (try dsimp only at hSw); go_simp <;> with_reducible rfl)
      simp only [Act.put, List.setIfInBounds_toArray, List.set_cons_zero, List.set_cons_succ]
      refine wl_take (i := 5) (d := some 18) rfl rfl (by kernel_rfl) (by kernel_rfl) (by kernel_rfl) (by kernel_rfl) (by kernel_rfl) (fun _ _ _ h => h) (by rfl) (v := ?_) ?_ (by assumption) ?_
      rotate_left
      · (intro w hSw; (try dsimp only at hSw); go_simp <;> with_reducible rfl)
      simp only [Act.put, List.setIfInBounds_toArray, List.set_cons_zero, List.set_cons_succ]
      refine wl_take (i := 6) (d := some 19) rfl rfl (by kernel_rfl) (by kernel_rfl) (by kernel_rfl) (by kernel_rfl) (by kernel_rfl) (fun _ _ _ h => h) (by rfl) (v := V nm) (fun w' hw' => run_lookV _ _ _ rfl 31 Tryz.underlying81 (zeroP _) w.heap.size k V rfl hw'.2 nm rfl (by omega) (by omega)) (by assumption) ?_
      simp only [Act.put, List.setIfInBounds_toArray, List.set_cons_zero, List.set_cons_succ]
      refine wl_take (i := 7) (d := some 20) rfl rfl (by kernel_rfl) (by kernel_rfl) (by kernel_rfl) (by kernel_rfl) (by kernel_rfl) (fun _ _ _ h => h) (by rfl) (v := ?_) ?_ (by assumption) ?_
      rotate_left
      · (intro w hSw; (try dsimp only at hSw); go_simp <;> with_reducible rfl)
      simp only [Act.put, List.setIfInBounds_toArray, List.set_cons_zero, List.set_cons_succ]
      refine wl_one (i := 8) (by kernel_rfl) rfl (by rfl) (fun K hK => ?_)
      go_simp
      clear hHeld
      have hd0 := below_drew W1
      refine (implCopyPkg_any _ nm vr _ _ fs ds ((unhide HF1).1.later hd0) ((unhide HF1).2.later hd0)).mono ?_
      rintro e w2 ⟨fv', dv', rfl, ho2, hb2⟩
      have hb2' : Below W1.heap.size W1 w2 := hd0.trans hb2
      obtain ⟨ga, gc, ha, hcc, h1, h2⟩ := ho2.forms
      subst h1 h2
      have hH2 := unhide SOF _ hb2'
      have HB2 := hide hb2'
      have HO2 := hide (ho2.base (unhide HB1).size)
      have HFN : Hid (∀ n, ∀ a ∈ E n, farE a ((nm, vr, fs, ds), .slice ga fs.length gc, .slice ha ds.length hcc)) := fun n a ha => farE.new (w := W1) (w' := w2) ((unhide HS1).el n a ha) (ho2.base hd0.size)
      clear ho2 hb2 hb2' hd0
      go_wp2_with fail
      refine hK.out _ _ (fun _ => (by assumption)) ?_
      clear hK K
      try simp only [Act.put, List.setIfInBounds_toArray, List.set_cons_zero, List.set_cons_succ]
      refine wl_one (i := 9) (by kernel_rfl) rfl (by rfl) (fun K hK => ?_)
      go_simp
      have hb3 := (unhide HB2).trans ((below1 w2 (.cells #[.int .i64 nm, .int .i64 vr, .slice ga fs.length gc, .slice ha ds.length hcc] 42)).mono (unhide HB2).size)
      have hH3 := unhide SOF _ hb3
      have HO3 := hide ((unhide HO2).later (below1 w2 (.cells #[.int .i64 nm, .int .i64 vr, .slice ga fs.length gc, .slice ha ds.length hcc] 42)))
      have hnw := World.news_of_block (cs := #[.int .i64 nm, .int .i64 vr, .slice ga fs.length gc, .slice ha ds.length hcc]) (t := 42) (fr := (0, 0)) (heap_alloc_new w2 (.cells #[.int .i64 nm, .int .i64 vr, .slice ga fs.length gc, .slice ha ds.length hcc] 42))
      have HB3 := hide hb3
      clear hH2 HO2 HB2 hb3
      refine hK.out _ _ (fun _ => (by assumption)) ?_
      clear hK K
      try simp only [Act.put, List.setIfInBounds_toArray, List.set_cons_zero, List.set_cons_succ]
      refine wl_one (i := 10) (by kernel_rfl) rfl (by rfl) (fun K hK => ?_)
      refine wp_append_lies _ _ _ _ (by rfl) w.heap.size 42 i0 _ 4 64 Tryz.underlying31 hI0 hz0 hz1 hz2 rfl (by omega) (V nm) (E nm).length (flat4 (E nm)) (by rfl) (((unhide HS1).later (unhide HB3)).own nm)
        ⟨w2.heap.size, 0, none⟩ 1 1 [.int .i64 nm, .int .i64 vr, .slice ga fs.length gc, .slice ha ds.length hcc] (by rfl) (by rfl) hnw (by simp [Value.oneCell']) (by omega) (by unfold maxLen; omega) (by omega) (by have := (unhide HB1).size; have := (unhide HB3).size; omega) (w2.heap.size + 1) (by simp) ?_
      intro gg gcap w11 hown hgrow hat hlt11
      have hSv := Shv.app (e := ((nm, vr, fs, ds), .slice ga fs.length gc, .slice ha ds.length hcc)) ((unhide HS1).later (unhide HB3)) hgrow hown (hat.imp id (fun e => by rw [sz1]; omega)) (unhide HO3) (unhide HFN)
      have hM11 : MapV w11 w.heap.size k V := hH3.2.keep (hgrow.block _ hH3.2.lt (fun e => by
        obtain ⟨_, c, hc⟩ := own_row (((unhide HS1).later (unhide HB3)).own nm) _ e.symm
        exact hH3.2.notCells hc))
      have hX3 := ((unhide HB3).block _ (heapLt (unhide HX1))).trans (unhide HX1)
      have hX11 := (hgrow.block _ (heapLt hX3) (fun e => unhide HXN nm e.symm)).trans hX3
      have hH11 : (w11.cell? ⟨X, 0, none⟩ = some (.int .i64 nm) ∧ w11.cell? ⟨X, 1, none⟩ = some (.int .i64 vr) ∧ w11.cell? ⟨X, 2, none⟩ = some (.slice fa fs.length fc) ∧ w11.cell? ⟨X, 3, none⟩ = some (.slice da ds.length dc)) ∧ MapV w11 w.heap.size k V := ⟨⟨cellOf hX11 0, cellOf hX11 1, cellOf hX11 2, cellOf hX11 3⟩, hM11⟩
      have hBw := (unhide HB1).trans ((unhide HB3).mono (unhide HB1).size)
      have hB11 : Below w.heap.size w w11 := grown_below (B := w.heap.size) (((unhide HS1).later (unhide HB3)).own nm) hgrow hBw hBw.size
      have HB11 := hide hB11
      have HSV := hide hSv
      clear hSv hX3 hX11 hBw hB11 hgrow hown hat hlt11 hH3 hnw
      change K (Act.put _ (some 23) _) _
      refine hK.out _ _ (fun _ => (by assumption)) ?_
      clear hK K
      try simp only [Act.put, List.setIfInBounds_toArray, List.set_cons_zero, List.set_cons_succ]
      refine wl_one (i := 11) (by kernel_rfl) rfl (by rfl) (fun K hK => ?_)
      refine wp_putV _ _ _ _ _ rfl 31 Tryz.underlying81 w.heap.size k V rfl hM11 (by unfold maxLen; omega) nm rfl _ rfl (by omega) (by omega) ?_
      intro w12 hM12 hg12
      have HM12 := hide hM12
      have HS12 := hide ((unhide HSV).keepC (w' := w12) (fun g c t hg => hg12.block g (heapLt hg) (fun e => hM11.notCells (by rw [Option.some.inj e] at hg; exact hg))))
      have HB12 : Hid (Below w.heap.size w w12) := (unhide HB11).trans ⟨hg12.os, hg12.tape, hg12.output, hg12.size, fun j hj => hg12.block j (Nat.lt_of_lt_of_le hj (unhide HB11).size) (fun e => by have := Option.some.inj e; omega)⟩
      clear hM12 hg12 HSV HB11
      refine hK.out _ _ (fun h => absurd rfl h) ?_
      clear hK K
      refine wl_done (by kernel_rfl) ?_
      clear hH11 hM11
      go_wp2
      go_roundw
      case rel =>
        refine ⟨k + 1, _, _, by omega, by go_num, unhide HM12, unhide HS12, fun n => ?_, unhide HB12⟩
        rw [Ix.shelf_snoc hlt, unhide HPK]
        show List.map _ (if n = nm then _ else _) = if nm = n then _ else _
        by_cases hn : n = nm
        · subst hn
          rw [if_pos rfl, if_pos rfl, List.map_append, unhide HD]
          rfl
        · rw [if_neg hn, if_neg (fun e => hn e.symm), unhide HD]
      case measure => simp [intOf]; omega
    · obtain rfl : k = l.length := by omega
      rw [List.take_length] at HD
      clear hlt
      go_wp2
      go_ret
      exact ⟨V, E, rfl, unhide HM, unhide HS, unhide HD, unhide HW⟩
end Go.Proofs.YtlnieobmhofkdaaGreatDoor

/- Of which metas no package is kept, as plain data. -/
namespace Go.Proofs.YtlnieobmhofkdaaGreatDoor.Ix
open Pk

def lacks (l : List Pg) (ms : List M) : List M := ms.filter (fun m => !decide (m ∈ l.map metaP))
theorem lacks_snoc {l : List Pg} {ms : List M} {k : Nat} (hk : k < ms.length) : lacks l (ms.take (k + 1)) = if (nm ms k, vr ms k, sm ms k) ∈ l.map metaP then lacks l (ms.take k) else lacks l (ms.take k) ++ [(nm ms k, vr ms k, sm ms k)] := by
  have e : ms.take (k + 1) = ms.take k ++ [(nm ms k, vr ms k, sm ms k)] := by
    rw [List.take_succ_eq_append_getElem hk]
    congr 2
    unfold nm vr sm
    rw [List.getD_eq_getElem?_getD, List.getElem?_eq_getElem hk]
    rfl
  rw [e]
  unfold lacks
  rw [List.filter_append]
  by_cases h : (nm ms k, vr ms k, sm ms k) ∈ l.map metaP
  · rw [if_pos h, List.filter_cons_of_neg (by rw [decide_eq_true h]; simp), List.filter_nil, List.append_nil]
  · rw [if_neg h, List.filter_cons_of_pos (by rw [decide_eq_false h]; rfl), List.filter_nil]
theorem lacks_len (l : List Pg) (ms : List M) (k : Nat) : (lacks l (ms.take k)).length ≤ k :=
  Nat.le_trans (List.length_filter_le _ _) (by rw [List.length_take]; omega)
theorem lack_none {l : List Pg} {n u : Int} (h : ∀ i, i < l.length → named (pg l i) n u = false) (s : Int) : (n, u, s) ∉ l.map metaP := by
  intro hm
  obtain ⟨p, hp, e⟩ := List.mem_map.1 hm
  obtain ⟨i, hi, hpi⟩ := List.getElem_of_mem hp
  have := h i hi
  rw [pg_get hi, hpi] at this
  unfold metaP at e
  injection e with e1 e2
  injection e2 with e2 e3
  unfold named at this
  rw [e1, e2] at this
  simp at this
theorem lack_some {l : List Pg} (ho : pkgsOk l = true) {n u : Int} {r : Nat} (hr : r < l.length) (h : named (pg l r) n u = true) (s : Int) : (n, u, s) ∈ l.map metaP ↔ Sm.sum (pText (pg l r)) = s := by
  have hn : (pg l r).1 = n ∧ (pg l r).2.1 = u := by
    unfold named at h
    simpa using h
  constructor
  · intro hm
    obtain ⟨p, hp, e⟩ := List.mem_map.1 hm
    obtain ⟨i, hi, hpi⟩ := List.getElem_of_mem hp
    have e0 : metaP (pg l i) = (n, u, s) := by rw [pg_get hi, hpi, e]
    have he : i = r := by
      unfold metaP at e0
      injection e0 with e1 e2
      injection e2 with e2 _
      have hc := (pkgsOk_pair.1 ho).2
      rw [List.pairwise_iff_getElem] at hc
      rcases Nat.lt_trichotomy i r with hl | he | hg
      · have := hc i r hi hr hl
        rw [← pg_get hi, ← pg_get hr] at this
        unfold ahead at this
        rw [e1, e2, hn.1, hn.2, less_self] at this
        cases this
      · exact he
      · have := hc r i hr hi hg
        rw [← pg_get hi, ← pg_get hr] at this
        unfold ahead at this
        rw [e1, e2, hn.1, hn.2, less_self] at this
        cases this
    rw [he] at e0
    unfold metaP at e0
    injection e0 with _ e2
    injection e2 with _ e3
  · intro e
    refine List.mem_map.2 ⟨pg l r, pg_mem hr, ?_⟩
    unfold metaP
    rw [hn.1, hn.2, e]
theorem lack_shelf {l : List Pg} {n u s : Int} : (n, u, s) ∈ l.map metaP ↔ ∃ p ∈ shelf l n, metaP p = (n, u, s) := by
  rw [List.mem_map]
  constructor
  · rintro ⟨p, hp, e⟩
    refine ⟨p, ?_, e⟩
    unfold shelf
    rw [List.mem_filter]
    refine ⟨hp, ?_⟩
    unfold metaP at e
    injection e with e1 _
    exact decide_eq_true e1
  · rintro ⟨p, hp, e⟩
    exact ⟨p, (List.mem_filter.1 hp).1, e⟩
end Go.Proofs.YtlnieobmhofkdaaGreatDoor.Ix

/- Packages by their names, one name behind the other, are the packages; as plain data. -/
namespace Go.Proofs.YtlnieobmhofkdaaGreatDoor.Ix
open Pk

theorem shelf_cons (x : Pg) (t : List Pg) (n : Int) : shelf (x :: t) n = if x.1 = n then x :: shelf t n else shelf t n := by
  unfold shelf
  by_cases h : x.1 = n
  · rw [if_pos h, List.filter_cons_of_pos (by simpa using h)]
  · rw [if_neg h, List.filter_cons_of_neg (by simpa using h)]
theorem shelf_nil {t : List Pg} {n : Int} (h : ∀ y ∈ t, n < y.1) : shelf t n = [] := by
  unfold shelf
  rw [List.filter_eq_nil_iff]
  intro y hy
  have := h y hy
  have : ¬ y.1 = n := by omega
  simpa using this
def allP (l : List Pg) : List Pg := shelf l 1 ++ (shelf l 2 ++ (shelf l 3 ++ shelf l 4))
theorem all_aux : ∀ {l : List Pg}, l.Pairwise (fun a b => a.1 ≤ b.1) → (∀ x ∈ l, 1 ≤ x.1 ∧ x.1 ≤ 4) → allP l = l
  | [], _, _ => rfl
  | x :: t, hp, hb => by
    have hp' := List.pairwise_cons.1 hp
    have ih := all_aux hp'.2 (fun y hy => hb y (List.mem_cons_of_mem _ hy))
    have hx := hb x List.mem_cons_self
    have hz : ∀ n, n < x.1 → shelf t n = [] := fun n hn => shelf_nil (fun y hy => by have := hp'.1 y hy; omega)
    unfold allP at ih ⊢
    rw [shelf_cons, shelf_cons, shelf_cons, shelf_cons]
    obtain h | h | h | h : x.1 = 1 ∨ x.1 = 2 ∨ x.1 = 3 ∨ x.1 = 4 := by omega
    · rw [if_pos h, if_neg (by omega), if_neg (by omega), if_neg (by omega), List.cons_append, ih]
    · rw [if_neg (by omega), if_pos h, if_neg (by omega), if_neg (by omega)]
      rw [hz 1 (by omega), List.nil_append] at ih ⊢
      rw [List.cons_append, ih]
    · rw [if_neg (by omega), if_neg (by omega), if_pos h, if_neg (by omega)]
      rw [hz 1 (by omega), hz 2 (by omega), List.nil_append, List.nil_append] at ih ⊢
      rw [List.cons_append, ih]
    · rw [if_neg (by omega), if_neg (by omega), if_neg (by omega), if_pos h]
      rw [hz 1 (by omega), hz 2 (by omega), hz 3 (by omega), List.nil_append, List.nil_append, List.nil_append] at ih ⊢
      rw [ih]
theorem ahead_le {p q : Pg} (h : ahead p q = true) : p.1 ≤ q.1 := by
  unfold ahead less at h
  simp only [Bool.or_eq_true, Bool.and_eq_true, decide_eq_true_eq] at h
  omega
theorem all_shelves {l : List Pg} (h : pkgsOk l = true) : allP l = l := by
  obtain ⟨ho, hs⟩ := pkgsOk_pair.1 h
  refine all_aux (hs.imp ahead_le) (fun x hx => ?_)
  have := ho x hx
  unfold pOk pkgOk at this
  simp only [Bool.and_eq_true, inB, decide_eq_true_eq] at this
  omega
theorem shelf_filter (l : List Pg) (f : Pg → Bool) (n : Int) : shelf (l.filter f) n = (shelf l n).filter f := by
  unfold shelf
  rw [List.filter_filter, List.filter_filter]
  exact List.filter_congr fun x _ => Bool.and_comm _ _
/-- One more among those of its name. -/
theorem shelf_wth {l : List Pg} {p : Pg} (n : Int) : shelf (wth l p) n = if p.1 = n then wth (shelf l n) p else shelf l n := by
  have ha : ∀ a b : List Pg, shelf (a ++ b) n = shelf a n ++ shelf b n := fun a b => by unfold shelf; rw [List.filter_append]
  unfold wth
  rw [ha, ha, shelf_filter, shelf_filter, shelf_cons]
  by_cases h : p.1 = n
  · rw [if_pos h, if_pos h]
    rfl
  · rw [if_neg h, if_neg h]
    have hs : shelf ([] : List Pg) n = [] := rfl
    have hn : ∀ x ∈ shelf l n, x.1 = n := fun x hx => of_decide_eq_true (List.mem_filter.1 hx).2
    rw [hs, List.append_nil]
    have e : ∀ x ∈ shelf l n, ahead x p = decide (n < p.1) ∧ ahead p x = decide (p.1 < n) := fun x hx => by
      have := hn x hx
      unfold ahead less
      rw [this]
      have h1 : decide (n = p.1) = false := decide_eq_false (fun e => h e.symm)
      have h2 : decide (p.1 = n) = false := decide_eq_false h
      rw [h1, h2, Bool.false_and, Bool.false_and, Bool.or_false, Bool.or_false]
      exact ⟨rfl, rfl⟩
    rw [List.filter_congr (fun x hx => (e x hx).1), List.filter_congr (fun x hx => (e x hx).2)]
    have hF : (shelf l n).filter (fun _ => false) = [] := List.filter_eq_nil_iff.2 (fun _ _ => by simp)
    have hT : (shelf l n).filter (fun _ => true) = shelf l n := List.filter_eq_self.2 (fun _ _ => rfl)
    rcases Int.lt_or_gt_of_ne h with hl | hg
    · rw [decide_eq_false (by omega : ¬ n < p.1), decide_eq_true hl, hF, hT, List.nil_append]
    · rw [decide_eq_true (by omega : n < p.1), decide_eq_false (by omega : ¬ p.1 < n), hF, hT, List.append_nil]
end Go.Proofs.YtlnieobmhofkdaaGreatDoor.Ix

/- What is kept when one more package comes, as plain data. -/
namespace Go.Proofs.YtlnieobmhofkdaaGreatDoor.Ix
open Pk

/-- A package of that name and version is among these. -/
def found (l : List Pg) (n u : Int) : Bool := l.any (fun p => named p n u)
def addD (num til : Int) (ms : List M) (l : List Pg) (s : List UInt8) : List Pg × Bool :=
  if hasB num til ms s = true ∧ found l (hasD num til ms s).1 (hasD num til ms s).2.1 = false then (wth l (hasD num til ms s), true) else (l, false)
def addA (tok : Bool) (num til : Int) (ms : List M) (l : List Pg) (s : List UInt8) : List Pg × Bool := if tok = true ∧ pkgsOk l = true then addD num til ms l s else ([], false)
theorem found_false {l : List Pg} {n u : Int} : found l n u = false ↔ ∀ p ∈ l, named p n u = false := by
  unfold found
  rw [List.any_eq_false]
  constructor
  · intro h p hp; have := h p hp; simpa using this
  · intro h p hp; rw [h p hp]; simp
theorem found_none {l : List Pg} {n u : Int} (h : ∀ i, i < l.length → named (pg l i) n u = false) : found l n u = false := by
  rw [found_false]
  intro p hp
  obtain ⟨i, hi, e⟩ := List.getElem_of_mem hp
  have := h i hi
  rwa [pg_get hi, e] at this
theorem found_some {l : List Pg} {n u : Int} {i : Nat} (hi : i < l.length) (h : named (pg l i) n u = true) : found l n u = true := by
  unfold found
  rw [List.any_eq_true]
  exact ⟨pg l i, pg_mem hi, h⟩
theorem found_shelf {l : List Pg} {n u : Int} : found l n u = (shelf l n).any (fun p => decide (p.2.1 = u)) := by
  unfold found shelf
  rw [List.any_filter]
  congr 1
/-- On a shelf: as many as are elder stand ahead. -/
def place (l : List Pg) (u : Int) : Nat := (l.filter (fun p => decide (p.2.1 < u))).length
theorem shelf_asc {l : List Pg} (h : pkgsOk l = true) (n : Int) : (shelf l n).Pairwise (fun p q => p.2.1 < q.2.1) := by
  obtain ⟨_, hs⟩ := pkgsOk_pair.1 h
  have h1 : (shelf l n).Pairwise (fun p q => ahead p q = true) := hs.filter _
  have h2 : ∀ p ∈ shelf l n, p.1 = n := fun p hp => (shelf_mem hp).2
  refine List.Pairwise.imp_of_mem (fun {a b} ha hb hab => ?_) h1
  unfold ahead less at hab
  rw [h2 a ha, h2 b hb] at hab
  simpa using hab
theorem filter_take {α : Type} (f : α → Bool) : ∀ (l : List α) (k : Nat), k ≤ l.length → (∀ i (hi : i < l.length), f l[i] = decide (i < k)) → l.filter f = l.take k ∧ l.filter (fun x => !f x) = l.drop k
  | [], k, hk, _ => by simp
  | x :: t, 0, _, h => by
    have e : ∀ y ∈ x :: t, f y = false := fun y hy => by
      obtain ⟨i, hi, e⟩ := List.getElem_of_mem hy
      have := h i hi
      rw [e] at this
      simpa using this
    refine ⟨by rw [List.filter_eq_nil_iff.2 (fun y hy => by rw [e y hy]; simp)]; rfl, ?_⟩
    rw [List.filter_eq_self.2 (fun y hy => by rw [e y hy]; rfl)]
    rfl
  | x :: t, k + 1, hk, h => by
    have h0 : f x = true := by have := h 0 (by simp); simpa using this
    obtain ⟨h1, h2⟩ := filter_take f t k (by simpa using hk) (fun i hi => by have := h (i + 1) (by simpa using hi); simpa using this)
    rw [List.filter_cons_of_pos h0, List.take_succ_cons, h1, List.filter_cons_of_neg (by rw [h0]; simp), List.drop_succ_cons, h2]
    exact ⟨rfl, rfl⟩
/-- The new one goes in behind the elder ones. -/
theorem wth_place {l : List Pg} {p : Pg} {k : Nat} (hn : ∀ x ∈ l, x.1 = p.1) (hk : k ≤ l.length) (h1 : ∀ i, i < k → (pg l i).2.1 < p.2.1) (h2 : ∀ i, k ≤ i → i < l.length → p.2.1 < (pg l i).2.1) : wth l p = l.take k ++ [p] ++ l.drop k := by
  have e : ∀ x ∈ l, ahead x p = decide (x.2.1 < p.2.1) ∧ ahead p x = decide (p.2.1 < x.2.1) := fun x hx => by
    unfold ahead less
    rw [hn x hx]
    simp
  have hf : ∀ i (hi : i < l.length), decide ((l[i]).2.1 < p.2.1) = decide (i < k) := fun i hi => by
    rw [← pg_get hi]
    by_cases h : i < k
    · rw [decide_eq_true h, decide_eq_true (h1 i h)]
    · have := h2 i (by omega) hi
      rw [decide_eq_false h, decide_eq_false (by omega)]
  obtain ⟨f1, f2⟩ := filter_take (fun x : Pg => decide (x.2.1 < p.2.1)) l k hk hf
  unfold wth
  rw [List.filter_congr (fun x hx => (e x hx).1), List.filter_congr (fun x hx => (e x hx).2), f1]
  congr 1
  rw [← f2]
  refine List.filter_congr (fun x hx => ?_)
  obtain ⟨i, hi, ei⟩ := List.getElem_of_mem hx
  have hv := hf i hi
  rw [ei] at hv
  by_cases h : i < k
  · have := h1 i h
    rw [pg_get hi, ei] at this
    rw [decide_eq_true this, decide_eq_false (by omega)]
    rfl
  · have := h2 i (by omega) hi
    rw [pg_get hi, ei] at this
    rw [decide_eq_false (by omega : ¬ x.2.1 < p.2.1), decide_eq_true this]
    rfl
end Go.Proofs.YtlnieobmhofkdaaGreatDoor.Ix
