import Derived.Test.YtlnieobmhofkdaaGreatDoorMix28
import Derived.Test.YtlnieobmhofkdaaGreatDoorSpecHasW
import Derived.Test.YtlnieobmhofkdaaGreatDoorWithW
import Derived.Test.YtlnieobmhofkdaaGreatDoorMix13
import Derived.Test.YtlnieobmhofkdaaGreatDoorMix8
/- What spec.StoreAdd returns: what is kept, with the package that the text is, if the trusted index tells of it and none of its name and version is kept; for every trust, every row of packages and every text. -/
namespace Go.Proofs.YtlnieobmhofkdaaGreatDoor
open Go.RowKit

attribute [local go_sem ↓] Go.wp_at_zero Go.wp_at_succ

/-- As if the trust were ok. -/
def Ix.addT (has : Bool) (ms : List Ix.M) (l : List Ix.Pg) (s : List UInt8) : List Ix.Pg × Bool :=
  if has = true ∧ (l3has ms s).isSome = true ∧ Ix.found l ((l3has ms s).getD Ix.zeroP).1 ((l3has ms s).getD Ix.zeroP).2.1 = false then (Ix.wth l ((l3has ms s).getD Ix.zeroP), true) else (l, false)
theorem Ix.addT_ok {t : Tr.T} {l : List Ix.Pg} {s : List UInt8} (h : t.ok = true) : Ix.addT t.has t.ms l s = Ix.addD t.num t.til t.ms l s := by
  have h1 := h
  unfold Tr.T.ok Tr.ok at h1
  rw [Bool.and_eq_true] at h1
  replace h1 := h1.2
  cases hh : t.has
  · rw [hh] at h1
    have hi : Ix.idxOk t.num t.til t.ms = false := by
      cases hx : Ix.idxOk t.num t.til t.ms
      · rfl
      · exfalso
        have h2 : Tr.noIdx t.num t.til t.ms = true := h1
        unfold Tr.noIdx at h2
        unfold Ix.idxOk at hx
        simp only [Bool.and_eq_true, Pk.inB, decide_eq_true_eq] at h2 hx
        omega
    have hb : Ix.hasB t.num t.til t.ms s = false := (Ix.hasD_none (Ix.has_bad hi)).2
    unfold Ix.addT Ix.addD
    rw [if_neg (by simp), if_neg (by rw [hb]; simp)]
  · rw [hh] at h1
    have hi : Ix.idxOk t.num t.til t.ms = true := h1
    have he := l3has_ok (s := s) hi
    have hb : Ix.hasB t.num t.til t.ms s = (l3has t.ms s).isSome := by unfold Ix.hasB; rw [he]
    have hd : Ix.hasD t.num t.til t.ms s = (l3has t.ms s).getD Ix.zeroP := by unfold Ix.hasD; rw [he]
    unfold Ix.addT Ix.addD
    rw [hb, hd]
    by_cases hc : (l3has t.ms s).isSome = true ∧ Ix.found l ((l3has t.ms s).getD Ix.zeroP).1 ((l3has t.ms s).getD Ix.zeroP).2.1 = false
    · rw [if_pos hc, if_pos ⟨rfl, hc⟩]
    · rw [if_neg hc, if_neg (fun h => hc h.2)]
theorem Ix.addT_off {ms : List Ix.M} {l : List Ix.Pg} {s : List UInt8} : Ix.addT false ms l s = (l, false) := by unfold Ix.addT; rw [if_neg (by simp)]
theorem Ix.addT_no {has : Bool} {ms : List Ix.M} {l : List Ix.Pg} {s : List UInt8} (h : (l3has ms s).isSome = false) : Ix.addT has ms l s = (l, false) := by unfold Ix.addT; rw [if_neg (by rw [h]; simp)]
theorem Ix.addT_is {has : Bool} {ms : List Ix.M} {l : List Ix.Pg} {s : List UInt8} (h : Ix.found l ((l3has ms s).getD Ix.zeroP).1 ((l3has ms s).getD Ix.zeroP).2.1 = true) : Ix.addT has ms l s = (l, false) := by unfold Ix.addT; rw [if_neg (by rw [h]; simp)]
theorem Ix.addT_yes {ms : List Ix.M} {l : List Ix.Pg} {s : List UInt8} (h1 : (l3has ms s).isSome = true) (h : Ix.found l ((l3has ms s).getD Ix.zeroP).1 ((l3has ms s).getD Ix.zeroP).2.1 = false) : Ix.addT true ms l s = (Ix.wth l ((l3has ms s).getD Ix.zeroP), true) := by unfold Ix.addT; rw [if_pos ⟨rfl, h1, h⟩]
theorem l3has_len (ms : List Ix.M) (s : List UInt8) : ((l3has ms s).getD Ix.zeroP).2.2.1.length ≤ 2 ∧ ((l3has ms s).getD Ix.zeroP).2.2.2.length ≤ 2 := by
  cases h : l3has ms s with
  | none => exact ⟨Nat.zero_le _, Nat.zero_le _⟩
  | some p =>
    unfold l3has at h
    have h2 : Ix.rp s = some p := by
      rw [Option.filter_eq_some_iff] at h
      exact h.1
    exact Ix.pOk_lens (Ix.rp_some.1 h2).1

set_option linter.unusedSimpArgs false in
set_option maxHeartbeats 8000000 in
set_option maxRecDepth 100000 in
theorem l12Add_any (w : World) (t : Tr.T) (kv mv v : Value) (l : List Ix.Pg) (s : ByteArray) (hk : Ins w kv t.ks) (hm : Trs w mv t.ms) (h : Pks (fun _ => True) w v l) (hl : l.length ≤ 1000) :
    Calls Tryz.prog 40 #[tvT t kv mv, v, .string s] w fun e w' => ∃ u, e = .returned (.tuple #[u, .bool (Ix.addT t.has t.ms l s.data.toList).2]) ∧ Pks (fun _ => True) w' u (Ix.addT t.has t.ms l s.data.toList).1 ∧ Below w.heap.size w w' := by
  obtain ⟨n, ks, d, has, num, til, ms⟩ := t
  dsimp only at hk hm
  obtain ⟨ka, kc, hkv⟩ := hk.slice
  obtain ⟨ma, mc, hmv⟩ := hm.slice
  obtain ⟨a, cap, hv⟩ := h.slice
  subst hkv hmv hv
  have B0 := below1 w (.cells #[.int .i64 n, .slice ka ks.length kc, .int .i64 d, .bool has, .int .i64 num, .int .i64 til, .slice ma ms.length mc] 30)
  have X0 := hide (Tb.new (n := n) (d := d) (has := has) (num := num) (til := til) hk hm 30)
  have H0 := hide (h.later B0)
  have BW := hide B0
  have HNO := hide (fun h => Ix.addT_no (has := has) (ms := ms) (l := l) (s := s.data.toList) h)
  have HIS := hide (fun h => Ix.addT_is (has := has) (ms := ms) (l := l) (s := s.data.toList) h)
  have HYE := hide (fun h1 h => Ix.addT_yes (ms := ms) (l := l) (s := s.data.toList) h1 h)
  have HLE := hide (l3has_len ms s.data.toList)
  clear hk hm h B0
  dsimp only [tvT, tv]
  cases has with
  | false =>
    obtain ⟨x3⟩ : Nonempty _ := ⟨(unhide X0).c3⟩
    go_enter Tryz.func40, Tryz.ntmps40
    go_wp2
    go_ret2
    exact ⟨_, by rw [Ix.addT_off]; rfl, by rw [Ix.addT_off]; exact unhide H0, unhide BW⟩
  | true =>
    obtain ⟨x3, x4, x5, x6⟩ : _ ∧ _ ∧ _ ∧ _ := ⟨(unhide X0).c3, (unhide X0).c4, (unhide X0).c5, (unhide X0).c6⟩
    have C3 := hide (fun (W : World) (h : Trs W (.slice ma ms.length mc) ms) => l3Has_any W num til _ ms s h)
    unfold L3Ans at C3
    go_enter Tryz.func40, Tryz.ntmps40
    go_wp2_with fail
    refine (unhide C3 _ (unhide X0).trs).mono ?_
    generalize w.alloc _ = W0 at *
    rintro e w4 ⟨fv, dv, rfl, hf, hd, b⟩
    obtain ⟨fa, fc, rfl⟩ := own_form hf
    obtain ⟨da, dc, rfl⟩ := own_form hd
    have hN1 := PrsN.own (N := fun _ => True) hf (by have := (unhide HLE).1; omega) (fun _ _ => trivial)
    have hN2 := PrsN.own (N := fun _ => True) hd (by have := (unhide HLE).2; omega) (fun _ _ => trivial)
    clear C3 x3 x4 x5 x6 hf hd
    generalize (l3has ms s.data.toList).isSome = hb at *
    generalize hpp : (l3has ms s.data.toList).getD Ix.zeroP = hp at *
    obtain ⟨nm, vr, fs, ds⟩ := hp
    dsimp only at fa fc da dc hN1 hN2 HIS HYE HLE ⊢
    have bx := below1 w4 (.cells #[.int .i64 nm, .int .i64 vr, .slice fa fs.length fc, .slice da ds.length dc] 42)
    have HX := hide (heap_alloc_new w4 (.cells #[.int .i64 nm, .int .i64 vr, .slice fa fs.length fc, .slice da ds.length dc] 42))
    have bb := b.trans (bx.mono b.size)
    have HN := hide (And.intro (hN1.later bx) (hN2.later bx))
    have HP := hide ((unhide H0).later bb)
    have BW5 := hide ((unhide BW).trans (bb.mono (unhide BW).size))
    clear hN1 hN2 bx bb b H0 BW X0 hpp
    cases hb with
    | false =>
      go_wp2
      go_ret2
      exact ⟨_, by rw [unhide HNO (by trivial)]; rfl, by rw [unhide HNO (by trivial)]; exact unhide HP, unhide BW5⟩
    | true =>
      obtain ⟨y0, y1, y2, y3⟩ : _ ∧ _ ∧ _ ∧ _ := ⟨cellOf (unhide HX) 0, cellOf (unhide HX) 1, cellOf (unhide HX) 2, cellOf (unhide HX) 3⟩
      go_wp2_with fail
      refine (l12Find_any _ _ l nm vr (unhide HP)).mono ?_
      generalize w4.alloc _ = W5 at *
      rintro e w6 ⟨rfl, r, rfl, hr⟩
      rcases hr with ⟨hr, hno⟩ | ⟨h0, h1, hnm⟩
      · have hri : ¬ (0 : Int) ≤ r := by omega
        have hf := Ix.found_none hno
        have HY := hide (unhide HYE (by trivial) hf)
        have hl' := hl
        clear hr hno hf
        go_wp2_with fail
        refine (l12With_any (N := fun _ => True) _ _ l (nm, vr, fs, ds) _ _ (unhide HP) (unhide HN).1 (unhide HN).2 hl).mono ?_
        rintro e w7 ⟨ov, els, rfl, hP, hmap, b⟩
        have hel : els.length ≤ 1000000 := by
          have h9 := congrArg List.length hmap
          rw [List.length_map] at h9
          have h8 : (Ix.wth l (nm, vr, fs, ds)).length ≤ l.length + 1 + l.length := by
            unfold Ix.wth
            rw [List.length_append, List.length_append, List.length_singleton]
            have := List.length_filter_le (fun x => Ix.ahead x (nm, vr, fs, ds)) l
            have := List.length_filter_le (fun x => Ix.ahead (nm, vr, fs, ds) x) l
            omega
          omega
        have hpk := hP.pks (fun _ _ => trivial) hel
        rw [hmap] at hpk
        have HPK := hide hpk
        have BW7 := hide ((unhide BW5).trans (b.mono (unhide BW5).size))
        clear hP hmap b hel hpk y0 y1 y2 y3
        go_wp2
        go_ret2
        exact ⟨ov, by rw [unhide HY]; rfl, by rw [unhide HY]; exact unhide HPK, unhide BW7⟩
      · have hf := Ix.found_some (show r.toNat < l.length by omega) hnm
        have HI := hide (unhide HIS hf)
        have hri : (0 : Int) ≤ r := h0
        clear h0 h1 hnm hf
        go_wp2
        go_ret2
        exact ⟨_, by rw [unhide HI]; rfl, by rw [unhide HI]; exact unhide HP, unhide BW5⟩

set_option linter.unusedSimpArgs false in
set_option maxHeartbeats 8000000 in
set_option maxRecDepth 100000 in
theorem specAdd_any {N : Nat → Prop} (w : World) (t : Tr.T) (kv mv v : Value) (l : List Ix.Pg) (s : ByteArray) (hk : Ins w kv t.ks) (hm : Trs w mv t.ms) (h : Pks N w v l) :
    Calls Tryz.prog 10 #[tvT t kv mv, v, .string s] w fun e w' => ∃ u, e = .returned (.tuple #[u, .bool (Ix.addA t.ok t.num t.til t.ms l s.data.toList).2]) ∧ Pks (fun _ => True) w' u (Ix.addA t.ok t.num t.til t.ms l s.data.toList).1 ∧ Below w.heap.size w w' := by
  have hno : t.ok = false → Ix.addA t.ok t.num t.til t.ms l s.data.toList = ([], false) := fun h => Ix.addA_bad h
  have hoff : Ix.pkgsOk l = false → Ix.addA t.ok t.num t.til t.ms l s.data.toList = ([], false) := fun h => Ix.addA_off h
  have hyes : t.ok = true → Ix.pkgsOk l = true → Ix.addA t.ok t.num t.til t.ms l s.data.toList = Ix.addT t.has t.ms l s.data.toList := fun h1 h2 => by rw [Ix.addA_yes h1 h2, Ix.addT_ok h1]
  have HA := hide (And.intro hno (And.intro hoff hyes))
  have CT := hide (fun (W : World) (v : Value) hk hm h hl => l12Add_any W t kv mv v l s hk hm h hl)
  clear hno hoff hyes
  generalize Ix.addA t.ok t.num t.til t.ms l s.data.toList = A at *
  obtain ⟨n, ks, d, has, num, til, ms⟩ := t
  dsimp only at hk hm
  dsimp only [tvT, tv] at CT ⊢
  obtain ⟨ka, kc, hkv⟩ := hk.slice
  obtain ⟨ma, mc, hmv⟩ := hm.slice
  obtain ⟨a, cap, hv⟩ := h.slice
  subst hkv hmv hv
  have B0 := below1 w (.cells #[.int .i64 n, .slice ka ks.length kc, .int .i64 d, .bool has, .int .i64 num, .int .i64 til, .slice ma ms.length mc] 30)
  have X0 := hide (Tb.new (n := n) (d := d) (has := has) (num := num) (til := til) hk hm 30)
  have H0 := hide (h.later B0)
  have BW := hide B0
  clear hk hm h B0
  go_enter Tryz.func10, Tryz.ntmps10
  go_wp2_with fail
  refine (specTrustOk_any _ n d _ ks has num til _ ms (unhide X0).ins (unhide X0).trs).mono ?_
  generalize w.alloc _ = W0 at *
  rintro e w1 ⟨rfl, b⟩
  replace X0 := hide ((unhide X0).later b)
  replace H0 := hide ((unhide H0).later b)
  replace BW := hide ((unhide BW).trans (b.mono (unhide BW).size))
  clear b
  clear W0
  have EMP : Hid (∀ W : World, Below w.heap.size w W → Pks (fun _ => True) (W.alloc (.cells #[] 42)) (.slice (some ⟨W.heap.size, 0, none⟩) 0 0) [] ∧ Below w.heap.size w (W.alloc (.cells #[] 42))) := fun W hW =>
    ⟨⟨_, 0, rfl, Nat.zero_le _, fun hp => by cases hp⟩, hW.trans ((below1 W _).mono hW.size)⟩
  cases hA : Tr.ok n ks d has num til ms
  · have HT := hide ((unhide HA).1 hA)
    have HE := hide (unhide EMP w1 (unhide BW))
    clear hA HA EMP CT
    go_wp2
    go_ret2
    exact ⟨_, by rw [unhide HT]; rfl, by rw [unhide HT]; exact (unhide HE).1, (unhide HE).2⟩
  go_wp2_with fail
  refine (specStoreOk_any _ _ l (unhide H0)).mono ?_
  rintro e w2 ⟨rfl, b⟩
  replace X0 := hide ((unhide X0).later b)
  replace H0 := hide ((unhide H0).later b)
  replace BW := hide ((unhide BW).trans (b.mono (unhide BW).size))
  clear b
  clear w1
  cases hB : Ix.pkgsOk l
  · have HT := hide ((unhide HA).2.1 hB)
    have HE := hide (unhide EMP w2 (unhide BW))
    clear hA HA EMP CT
    go_wp2
    go_ret2
    exact ⟨_, by rw [unhide HT]; rfl, by rw [unhide HT]; exact (unhide HE).1, (unhide HE).2⟩
  have HT := hide ((unhide HA).2.2 hA hB)
  have HOK := hide hB
  have hl20 := Ix.pkgs_len hB
  clear hA hB HA EMP
  have kk : ∀ w', Below w2.heap.size w2 w' → (w'.cell? ⟨w.heap.size, 0, none⟩ = some (.int .i64 n) ∧ w'.cell? ⟨w.heap.size, 1, none⟩ = some (.slice ka ks.length kc) ∧ w'.cell? ⟨w.heap.size, 2, none⟩ = some (.int .i64 d) ∧ w'.cell? ⟨w.heap.size, 3, none⟩ = some (.bool has) ∧ w'.cell? ⟨w.heap.size, 4, none⟩ = some (.int .i64 num) ∧ w'.cell? ⟨w.heap.size, 5, none⟩ = some (.int .i64 til) ∧ w'.cell? ⟨w.heap.size, 6, none⟩ = some (.slice ma ms.length mc)) := fun w' hw' => ((unhide X0).later hw').cells
  have KK := hide kk
  clear kk
  go_wp2_with fail
  refine wp_region_held_drew (S := fun w' => (w'.cell? ⟨w.heap.size, 0, none⟩ = some (.int .i64 n) ∧ w'.cell? ⟨w.heap.size, 1, none⟩ = some (.slice ka ks.length kc) ∧ w'.cell? ⟨w.heap.size, 2, none⟩ = some (.int .i64 d) ∧ w'.cell? ⟨w.heap.size, 3, none⟩ = some (.bool has) ∧ w'.cell? ⟨w.heap.size, 4, none⟩ = some (.int .i64 num) ∧ w'.cell? ⟨w.heap.size, 5, none⟩ = some (.int .i64 til) ∧ w'.cell? ⟨w.heap.size, 6, none⟩ = some (.slice ma ms.length mc))) (by kernel_rfl) (by exact unhide KK _ (below_drew w2)) (fun hHeld => ?_)
  refine anyH_at (i := 0) (d := some 17) rfl rfl (by kernel_rfl) (by kernel_rfl) (by kernel_rfl) (fun _ _ _ h => h) (by rfl) (v := ?_) ?_ (by assumption) ?_
  rotate_left
  · (intro w hSw; (try dsimp only at hSw); go_simp <;> with_reducible rfl)
  simp only [Act.put, List.setIfInBounds_toArray, List.set_cons_zero, List.set_cons_succ]
  refine anyH_at (i := 1) (d := some 18) rfl rfl (by kernel_rfl) (by kernel_rfl) (by kernel_rfl) (fun _ _ _ h => h) (by rfl) (v := ?_) ?_ (by assumption) ?_
  rotate_left
  · (intro w hSw; (try dsimp only at hSw); go_simp <;> with_reducible rfl)
  simp only [Act.put, List.setIfInBounds_toArray, List.set_cons_zero, List.set_cons_succ]
  refine anyH_at (i := 3) (d := some 20) rfl rfl (by kernel_rfl) (by kernel_rfl) (by kernel_rfl) (fun _ _ _ h => h) (by rfl) (v := ?_) ?_ (by assumption) ?_
  rotate_left
  · (intro w hSw; (try dsimp only at hSw); go_simp <;> with_reducible rfl)
  simp only [Act.put, List.setIfInBounds_toArray, List.set_cons_zero, List.set_cons_succ]
  refine wpAnyH_ready (rs := [2]) (by kernel_rfl) (by simp) ?_
  refine AllReadyH.cons rfl (fun K hK => ?_) AllReadyH.nil
  go_simp
  have hd := below_drew w2
  have X0d := hide ((unhide X0).later hd)
  have BWd := hide ((unhide BW).trans (hd.mono (unhide BW).size))
  have CC := hide (l12Copy_any w2.drew _ l ((unhide H0).later hd) (by omega))
  clear hd
  refine (unhide CC).mono ?_
  rintro e w3 ⟨u, els, rfl, hP, hmap, b⟩
  have hb3 := (below_drew w2).trans (b.mono (Nat.le_refl _))
  obtain ⟨ua, uc, hu⟩ := own_formS hP.own
  subst hu
  have hls : ∀ e ∈ els, e.1.2.2.1.length ≤ 1000 ∧ e.1.2.2.2.length ≤ 1000 := fun e he => by
    have hm : e.1 ∈ l := by rw [← hmap]; exact List.mem_map.2 ⟨e, he, rfl⟩
    have := Ix.pOk_lens ((Ix.pkgsOk_pair.1 (unhide HOK)).1 _ hm)
    omega
  have hel : els.length ≤ 1000 := by rw [← List.length_map (f := fun x : El => x.1), hmap]; omega
  have hpk := hP.pks hel hls
  rw [hmap] at hpk
  have HPK := hide (hpk.weak (N' := fun _ => True) (fun _ _ => trivial))
  have X3 := hide ((unhide X0).later hb3)
  have BW3 := hide ((unhide BW).trans (hb3.mono (unhide BW).size))
  have HK3 := hide (unhide KK _ hb3)
  clear hP hmap b hb3 hls hel hpk CC X0d BWd
  go_wp2_with fail
  refine hK.out _ _ ?_ (fun hHeldN => ?_)
  · exact unhide HK3
  clear hHeld
  have hHeld := hHeldN
  clear hHeldN
  clear hK K
  try simp only [Act.put, List.setIfInBounds_toArray, List.set_cons_zero, List.set_cons_succ]
  refine wpAnyH_ready (rs := [4]) (by kernel_rfl) (by simp) ?_
  refine AllReadyH.cons rfl (fun K hK => ?_) AllReadyH.nil
  go_simp
  refine (unhide CT _ _ (unhide X3).ins (unhide X3).trs (unhide HPK) (by omega)).mono ?_
  rintro e w4 ⟨u4, rfl, hP, b⟩
  obtain ⟨ya, yc, hu⟩ := hP.slice
  subst hu
  have BW4 := hide ((unhide BW3).trans (b.mono (unhide BW3).size))
  have HP4 := hide hP
  have HK4 := hide ((unhide X3).later b).cells
  clear hP b HK3 X3 BW3 HPK
  go_wp2_with fail
  refine hK.out _ _ ?_ (fun hHeldN => ?_)
  · exact unhide HK4
  clear hHeld
  have hHeld := hHeldN
  clear hHeldN
  clear hK K
  try simp only [Act.put, List.setIfInBounds_toArray, List.set_cons_zero, List.set_cons_succ]
  refine anyH_at (i := 5) (d := some 22) rfl rfl (by kernel_rfl) (by kernel_rfl) (by kernel_rfl) (fun _ _ _ h => h) (by rfl) (v := ?_) ?_ (by assumption) ?_
  rotate_left
  · (intro w hSw; (try dsimp only at hSw); go_simp <;> with_reducible rfl)
  simp only [Act.put, List.setIfInBounds_toArray, List.set_cons_zero, List.set_cons_succ]
  refine anyH_at (i := 6) (d := some 23) rfl rfl (by kernel_rfl) (by kernel_rfl) (by kernel_rfl) (fun _ _ _ h => h) (by rfl) (v := ?_) ?_ (by assumption) ?_
  rotate_left
  · (intro w hSw; (try dsimp only at hSw); go_simp <;> with_reducible rfl)
  simp only [Act.put, List.setIfInBounds_toArray, List.set_cons_zero, List.set_cons_succ]
  refine anyH_at (i := 7) (d := some 6) rfl rfl (by kernel_rfl) (by kernel_rfl) (by kernel_rfl) (fun _ _ _ h => h) (by rfl) (v := ?_) ?_ (by assumption) ?_
  rotate_left
  · (intro w hSw; (try dsimp only at hSw); go_simp <;> with_reducible rfl)
  simp only [Act.put, List.setIfInBounds_toArray, List.set_cons_zero, List.set_cons_succ]
  refine anyH_at (i := 8) (d := some 7) rfl rfl (by kernel_rfl) (by kernel_rfl) (by kernel_rfl) (fun _ _ _ h => h) (by rfl) (v := ?_) ?_ (by assumption) ?_
  rotate_left
  · (intro w hSw; (try dsimp only at hSw); go_simp <;> with_reducible rfl)
  simp only [Act.put, List.setIfInBounds_toArray, List.set_cons_zero, List.set_cons_succ]
  refine wpAnyH_done (by kernel_rfl) ?_ _
  clear hHeld HK4 KK CT
  go_wp2
  go_ret2
  exact ⟨_, by rw [unhide HT]; rfl, by rw [unhide HT]; exact unhide HP4, unhide BW4⟩
end Go.Proofs.YtlnieobmhofkdaaGreatDoor
