import Derived.Test.YtcdbgkdccflbgaaGreatDoorMixL
import Derived.Test.YtcdbgkdccflbgaaGreatDoorTrimW
/- Packages in order, as plain data: one more in its place keeps the order. -/
namespace Go.Proofs.YtcdbgkdccflbgaaGreatDoor.Ix
open Pk

theorem pg_get {l : List Pg} {i : Nat} (hi : i < l.length) : pg l i = l[i] := by
  unfold pg
  rw [List.getD_eq_getElem?_getD, List.getElem?_eq_getElem hi]
  rfl
theorem ahead_trans {a b c : Pg} (h1 : ahead a b = true) (h2 : ahead b c = true) : ahead a c = true := by
  unfold ahead less at *
  simp only [Bool.or_eq_true, Bool.and_eq_true, decide_eq_true_eq] at *
  omega
theorem pkgsOk_pair {l : List Pg} : pkgsOk l = true ↔ (∀ x ∈ l, pOk x = true) ∧ l.Pairwise (fun x y => ahead x y = true) := by
  constructor
  · intro h
    refine ⟨fun x hx => ?_, ?_⟩
    · obtain ⟨i, hi, e⟩ := List.getElem_of_mem hx
      have := pkgs_pOk h hi
      rw [pg_get hi, e] at this
      exact this
    · rw [List.pairwise_iff_getElem]
      intro i j hi hj hij
      have := pkgs_lt h hij hj
      rw [pg_get hi, pg_get hj] at this
      exact this
  · rintro ⟨h1, h2⟩
    rw [List.pairwise_iff_getElem] at h2
    refine pkgsOk_good (fun i hi => ?_)
    unfold pkgGood
    rw [h1 _ (pg_mem hi), Bool.true_and]
    rcases Nat.eq_zero_or_pos i with h0 | h0
    · rw [decide_eq_true h0, Bool.true_or]
    · have := h2 (i - 1) i (by omega) hi (by omega)
      rw [pg_get hi, pg_get (show i - 1 < l.length by omega)]
      rw [Bool.or_eq_true]
      exact .inr this
theorem wth_ok {l : List Pg} {p : Pg} (h : pkgsOk l = true) (hp : pOk p = true) : pkgsOk (wth l p) = true := by
  rw [pkgsOk_pair] at h ⊢
  obtain ⟨h1, h2⟩ := h
  unfold wth
  refine ⟨fun x hx => ?_, ?_⟩
  · rw [List.mem_append, List.mem_append, List.mem_filter, List.mem_filter, List.mem_singleton] at hx
    rcases hx with (hx | hx) | hx
    · exact h1 x hx.1
    · rw [hx]; exact hp
    · exact h1 x hx.1
  · rw [List.pairwise_append, List.pairwise_append]
    refine ⟨⟨h2.filter _, List.pairwise_singleton _ _, fun a ha b hb => ?_⟩, h2.filter _, fun a ha b hb => ?_⟩
    · rw [List.mem_singleton] at hb
      rw [hb]
      exact (List.mem_filter.1 ha).2
    · have hb2 : ahead p b = true := (List.mem_filter.1 hb).2
      rw [List.mem_append, List.mem_singleton] at ha
      rcases ha with ha | ha
      · exact ahead_trans (List.mem_filter.1 ha).2 hb2
      · rw [ha]; exact hb2
end Go.Proofs.YtcdbgkdccflbgaaGreatDoor.Ix

/- What spec.StoreTrim returns: just those of which the trusted index tells, in order; for every trust and every row of packages. -/
namespace Go.Proofs.YtcdbgkdccflbgaaGreatDoor
open Go.RowKit

attribute [local go_sem ↓] Go.wp_at_zero Go.wp_at_succ

set_option maxHeartbeats 8000000 in
set_option maxRecDepth 100000 in
theorem specTrim_any {N : Nat → Prop} (w : World) (t : Tr.T) (kv mv v : Value) (l : List Ix.Pg) (hk : Ins w kv t.ks) (hm : Trs w mv t.ms) (h : Pks N w v l) :
    Calls Tryz.prog 23 #[tvT t kv mv, v] w fun e w' => ∃ u els, e = .returned u ∧ POwn (fun _ => True) w.heap.size w' u els ∧ els.map (·.1) = Ix.trimA t l ∧ els.length ≤ 20 ∧ Below w.heap.size w w' := by
  have hno : t.ok = false → Ix.trimA t l = [] := Ix.trimA_bad
  have hoff : Ix.pkgsOk l = false → Ix.trimA t l = [] := Ix.trimA_off
  have hyes : t.ok = true → Ix.pkgsOk l = true → Ix.trimA t l = Ix.trim3 t.has t.ms l := fun h1 h2 => by rw [Ix.trimA_yes h1 h2, Ix.trim3_ok h1]
  have HA := hide (And.intro hno (And.intro hoff hyes))
  have CT := hide (fun (W : World) (v : Value) hk hm h hok => l12Trim_any W t kv mv v l hk hm h hok)
  clear hno hoff hyes
  generalize Ix.trimA t l = A at *
  obtain ⟨n, ks, d, has, num, til, ms⟩ := t
  dsimp only at hk hm
  dsimp only [tvT, tv] at CT ⊢
  obtain ⟨ka, kc, hkv⟩ := hk.slice
  obtain ⟨ma, mc, hmv⟩ := hm.slice
  obtain ⟨a, cap, hv⟩ := h.slice
  subst hkv hmv hv
  have B0 := below1 w (.cells #[.int .i64 n, .slice ka ks.length kc, .int .i64 d, .bool has, .int .i64 num, .int .i64 til, .slice ma ms.length mc] 30)
  have X0 := hide (Tb.new (n := n) (d := d) (has := has) (num := num) (til := til) hk hm 30)
  have H0 := hide (h.later B0)
  have BW := hide B0
  clear hk hm h B0
  go_enter Tryz.func23, Tryz.ntmps23
  go_wp2_with fail
  refine (specTrustOk_any _ n d _ ks has num til _ ms (unhide X0).ins (unhide X0).trs).mono ?_
  generalize w.alloc _ = W0 at *
  rintro e w1 ⟨rfl, b⟩
  replace X0 := hide ((unhide X0).later b)
  replace H0 := hide ((unhide H0).later b)
  replace BW := hide ((unhide BW).trans (b.mono (unhide BW).size))
  clear b
  clear W0
  have EMP : Hid (∀ W : World, Below w.heap.size w W → POwn (fun _ => True) w.heap.size (W.alloc (.cells #[] 42)) (.slice (some ⟨W.heap.size, 0, none⟩) 0 0) [] ∧ Below w.heap.size w (W.alloc (.cells #[] 42))) := fun W hW =>
    ⟨⟨empty_own (sz := 4) (heap_alloc_new W _) hW.size, fun _ he => (by cases he)⟩, hW.trans ((below1 W _).mono hW.size)⟩
  cases hA : Tr.ok n ks d has num til ms
  · have HT := hide ((unhide HA).1 hA)
    have HE := hide (unhide EMP w1 (unhide BW))
    clear hA HA EMP CT
    go_wp2
    go_ret
    exact ⟨_, [], rfl, (unhide HE).1, (unhide HT).symm, by simp, (unhide HE).2⟩
  go_wp2_with fail
  refine (specStoreOk_any _ _ l (unhide H0)).mono ?_
  rintro e w2 ⟨rfl, b⟩
  replace X0 := hide ((unhide X0).later b)
  replace H0 := hide ((unhide H0).later b)
  replace BW := hide ((unhide BW).trans (b.mono (unhide BW).size))
  clear b
  clear w1
  cases hB : Ix.pkgsOk l
  · have HT := hide ((unhide HA).2.1 hB)
    have HE := hide (unhide EMP w2 (unhide BW))
    clear hA HA EMP CT
    go_wp2
    go_ret
    exact ⟨_, [], rfl, (unhide HE).1, (unhide HT).symm, by simp, (unhide HE).2⟩
  have HT := hide ((unhide HA).2.2 hA hB)
  have HOK := hide hB
  have hl20 := Ix.pkgs_len hB
  clear hA hB HA EMP
  have kk : ∀ w', Below w2.heap.size w2 w' → (w'.cell? ⟨w.heap.size, 0, none⟩ = some (.int .i64 n) ∧ w'.cell? ⟨w.heap.size, 1, none⟩ = some (.slice ka ks.length kc) ∧ w'.cell? ⟨w.heap.size, 2, none⟩ = some (.int .i64 d) ∧ w'.cell? ⟨w.heap.size, 3, none⟩ = some (.bool has) ∧ w'.cell? ⟨w.heap.size, 4, none⟩ = some (.int .i64 num) ∧ w'.cell? ⟨w.heap.size, 5, none⟩ = some (.int .i64 til) ∧ w'.cell? ⟨w.heap.size, 6, none⟩ = some (.slice ma ms.length mc)) := fun w' hw' => ((unhide X0).later hw').cells
  have KK := hide kk
  clear kk
  go_wp2_with fail
  refine wp_region_held_drew (S := fun w' => (w'.cell? ⟨w.heap.size, 0, none⟩ = some (.int .i64 n) ∧ w'.cell? ⟨w.heap.size, 1, none⟩ = some (.slice ka ks.length kc) ∧ w'.cell? ⟨w.heap.size, 2, none⟩ = some (.int .i64 d) ∧ w'.cell? ⟨w.heap.size, 3, none⟩ = some (.bool has) ∧ w'.cell? ⟨w.heap.size, 4, none⟩ = some (.int .i64 num) ∧ w'.cell? ⟨w.heap.size, 5, none⟩ = some (.int .i64 til) ∧ w'.cell? ⟨w.heap.size, 6, none⟩ = some (.slice ma ms.length mc))) (by kernel_rfl) (by exact unhide KK _ (below_drew w2)) (fun hHeld => ?_)
  refine anyH_at (i := 0) (d := some 14) rfl rfl (by kernel_rfl) (by kernel_rfl) (by kernel_rfl) (fun _ _ _ h => h) (by rfl) (v := ?_) ?_ (by assumption) ?_
  rotate_left
  · (intro w hSw; (try dsimp only at hSw); go_simp <;> with_reducible rfl)
  simp only [Act.put, List.setIfInBounds_toArray, List.set_cons_zero, List.set_cons_succ]
  refine anyH_at (i := 1) (d := some 15) rfl rfl (by kernel_rfl) (by kernel_rfl) (by kernel_rfl) (fun _ _ _ h => h) (by rfl) (v := ?_) ?_ (by assumption) ?_
  rotate_left
  · (intro w hSw; (try dsimp only at hSw); go_simp <;> with_reducible rfl)
  simp only [Act.put, List.setIfInBounds_toArray, List.set_cons_zero, List.set_cons_succ]
  refine wpAnyH_ready (rs := [2]) (by kernel_rfl) (by simp) ?_
  refine AllReadyH.cons rfl (fun K hK => ?_) AllReadyH.nil
  go_simp
  have hd := below_drew w2
  have X0d := hide ((unhide X0).later hd)
  have BWd := hide ((unhide BW).trans (hd.mono (unhide BW).size))
  have CC := hide (l12Copy_any w2.drew _ l ((unhide H0).later hd) (by omega))
  clear hd
  refine (unhide CC).mono ?_
  rintro e w3 ⟨u, els, rfl, hP, hmap, b⟩
  have hb3 := (below_drew w2).trans (b.mono (Nat.le_refl _))
  obtain ⟨ua, uc, hu⟩ := own_formS hP.own
  subst hu
  have hls : ∀ e ∈ els, e.1.2.2.1.length ≤ 1000 ∧ e.1.2.2.2.length ≤ 1000 := fun e he => by
    have hm : e.1 ∈ l := by rw [← hmap]; exact List.mem_map.2 ⟨e, he, rfl⟩
    obtain ⟨i, hi, hie⟩ := List.getElem_of_mem hm
    have hp := Ix.pkgs_pOk (unhide HOK) hi
    rw [Ix.pg_get hi, hie] at hp
    unfold Ix.pOk Pk.pkgOk at hp
    rw [Bool.and_eq_true, Bool.and_eq_true, Bool.and_eq_true] at hp
    have h1 := (Pk.filesOk_get hp.1.2).1
    have h2 := (Pk.depsOk_get hp.2).1
    exact ⟨by omega, by omega⟩
  have hel : els.length ≤ 1000 := by rw [← List.length_map (f := fun x : El => x.1), hmap]; omega
  have hpk := hP.pks hel hls
  rw [hmap] at hpk
  have HPK := hide (hpk.weak (N' := fun _ => True) (fun _ _ => trivial))
  have X3 := hide ((unhide X0).later hb3)
  have BW3 := hide ((unhide BW).trans (hb3.mono (unhide BW).size))
  have HK3 := hide (unhide KK _ hb3)
  clear hP hmap b hb3 hls hel hpk CC X0d BWd
  go_wp2_with fail
  refine hK.out _ _ ?_ (fun hHeldN => ?_)
  · exact unhide HK3
  clear hHeld
  have hHeld := hHeldN
  clear hHeldN
  clear hK K
  try simp only [Act.put, List.setIfInBounds_toArray, List.set_cons_zero, List.set_cons_succ]
  refine wpAnyH_ready (rs := [3]) (by kernel_rfl) (by simp) ?_
  refine AllReadyH.cons rfl (fun K hK => ?_) AllReadyH.nil
  go_simp
  refine (unhide CT _ _ (unhide X3).ins (unhide X3).trs (unhide HPK) (unhide HOK)).mono ?_
  rintro e w4 ⟨u4, els4, rfl, hP, hmap, hel4, b⟩
  obtain ⟨ya, yc, hu⟩ := own_formS hP.own
  subst hu
  have BW4 := hide ((unhide BW3).trans (b.mono (unhide BW3).size))
  have HP4 : Hid (POwn (fun _ => True) w.heap.size w4 (.slice ya els4.length yc) els4) := ⟨own_base' hP.own (unhide BW3).size, fun e he => ⟨(hP.el e he).1.weak (fun _ _ => trivial), (hP.el e he).2.weak (fun _ _ => trivial)⟩⟩
  have HM4 := hide hmap
  have HK4 := hide ((unhide X3).later b).cells
  clear hP hmap b HK3 X3 BW3 HPK
  go_wp2_with fail
  refine hK.out _ _ ?_ (fun hHeldN => ?_)
  · exact unhide HK4
  clear hHeld
  have hHeld := hHeldN
  clear hHeldN
  clear hK K
  try simp only [Act.put, List.setIfInBounds_toArray, List.set_cons_zero, List.set_cons_succ]
  refine anyH_at (i := 4) (d := some 4) rfl rfl (by kernel_rfl) (by kernel_rfl) (by kernel_rfl) (fun _ _ _ h => h) (by rfl) (v := ?_) ?_ (by assumption) ?_
  rotate_left
  · (intro w hSw; (try dsimp only at hSw); go_simp <;> with_reducible rfl)
  simp only [Act.put, List.setIfInBounds_toArray, List.set_cons_zero, List.set_cons_succ]
  refine wpAnyH_done (by kernel_rfl) ?_ _
  clear hHeld HK4 KK CT
  go_wp2
  go_ret
  exact ⟨_, els4, rfl, unhide HP4, by rw [unhide HM4, unhide HT], hel4, unhide BW4⟩
end Go.Proofs.YtcdbgkdccflbgaaGreatDoor
