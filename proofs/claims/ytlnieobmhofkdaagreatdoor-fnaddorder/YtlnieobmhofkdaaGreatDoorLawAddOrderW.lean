import Derived.Test.YtlnieobmhofkdaaGreatDoorDrawAddRW
import Derived.Test.YtlnieobmhofkdaaGreatDoorMix42
import Derived.Test.YtlnieobmhofkdaaGreatDoorTrimW
import Derived.Test.YtlnieobmhofkdaaGreatDoorMix12
import Derived.Test.YtlnieobmhofkdaaGreatDoorMix10
import Derived.Test.YtlnieobmhofkdaaGreatDoorMix8
import Derived.Deep.CutRange
/- The walk of FnAddOrder: it returns true and leaves what was there; for every two rows of bytes. -/
namespace Go.Proofs.YtlnieobmhofkdaaGreatDoor
open Go.RowKit

attribute [local go_sem ↓] Go.wp_at_zero Go.wp_at_succ

set_option maxHeartbeats 8000000 in
set_option maxRecDepth 100000 in
theorem addOrder_walk (w : World) (a : Option Addr) (len cap : Nat) (a2 : Option Addr) (len2 cap2 : Nat) (h : Bytes w a len cap) (_h2 : Bytes w a2 len2 cap2) (ev : Addr) (hg : Gl w ev) :
    Calls Tryz.prog 4 #[.slice a len cap, .slice a2 len2 cap2] w fun e w' => e = .returned (.bool true) ∧ Below w.heap.size w w' := by
  obtain ⟨i0, hI0, hz0, hz1, hz2⟩ := info_parts infoPkg
  by_cases hbig : (1048576 : Int) < (len : Int)
  · go_enter Tryz.func4, Tryz.ntmps4
    go_wp2
    go_ret
    exact ⟨rfl, Below.refl _ _⟩
  by_cases hbig2 : (1048576 : Int) < (len2 : Int)
  · go_enter Tryz.func4, Tryz.ntmps4
    go_wp2
    go_ret
    exact ⟨rfl, Below.refl _ _⟩
  have CD := hide (drawStoreAddR_any w a len cap h)
  have GL := hide hg
  clear h hg
  go_enter Tryz.func4, Tryz.ntmps4
  go_wp2_with fail
  refine (unhide CD).mono ?_
  rintro e w1 ⟨t, kv, mv, v, s, tx, rfl, hts, b1, hrm⟩
  obtain ⟨hks, hms, hsl, hok, hom, hpk⟩ := hts
  obtain ⟨n, ks, d, has, num, til, ms⟩ := t
  dsimp only at hks hms hok hom
  dsimp only [tvT, tv]
  obtain ⟨ka, kc, hkv⟩ := own_formS hok
  obtain ⟨ma, mc, hmv⟩ := own_formS hom
  obtain ⟨sa, sc, hsv⟩ := hpk.slice
  subst hkv hmv hsv
  have hcap : s.length ≤ sc := by obtain ⟨_, _, ee, hcp⟩ := hrm; injection ee with _ _ ee; omega
  clear hrm
  have b2 := below1 w1 (.cells #[.int .i64 n, .slice ka ks.length kc, .int .i64 d, .bool has, .int .i64 num, .int .i64 til, .slice ma ms.length mc] 30)
  have HX := hide (heap_alloc_new w1 (.cells #[.int .i64 n, .slice ka ks.length kc, .int .i64 d, .bool has, .int .i64 num, .int .i64 til, .slice ma ms.length mc] 30))
  have IK := hide ((OwI.wide hok (by omega)).later b2)
  have IM := hide ((Trs.own hom (by omega)).later b2)
  have PS := hide ((hpk.weak (N' := fun _ => True) (fun _ _ => trivial)).later b2)
  have BW := hide (b1.trans (b2.mono b1.size))
  clear hok hom hpk b1 b2 CD
  have CI := hide (fun (W : World) hG h1 h2 h3 => implAdd_any (N := fun _ => True) W ⟨n, ks, d, has, num, til, ms⟩ (.slice ka ks.length kc) (.slice ma ms.length mc) (.slice sa s.length sc) s tx ev hG h1 h2 h3)
  have CJ := hide (fun (W : World) (N : Nat → Prop) (v : Value) (l : List Ix.Pg) (tx : ByteArray) hG h1 h2 h3 => implAdd_any (N := N) W ⟨n, ks, d, has, num, til, ms⟩ (.slice ka ks.length kc) (.slice ma ms.length mc) v l tx ev hG h1 h2 h3)
  have CS := hide (fun (W : World) h1 h2 h3 => specAdd_any (N := fun _ => True) W ⟨n, ks, d, has, num, til, ms⟩ (.slice ka ks.length kc) (.slice ma ms.length mc) (.slice sa s.length sc) s tx h1 h2 h3)
  have CT := hide (fun (W : World) h1 h2 => specTrustOk_any W n d (.slice ka ks.length kc) ks has num til (.slice ma ms.length mc) ms h1 h2)
  dsimp only [tvT, tv] at CI CJ CS CT
  have HSM := hide (Ix.addA_small (Tr.T.ok ⟨n, ks, d, has, num, til, ms⟩) num til ms s tx.data.toList)
  obtain ⟨A, q, hA⟩ : ∃ A q, Ix.addA (Tr.T.ok ⟨n, ks, d, has, num, til, ms⟩) num til ms s tx.data.toList = (A, q) := ⟨_, _, rfl⟩
  rw [hA] at HSM CI CS
  dsimp only at HSM CI CS
  have HA := hide hA
  clear hA
  have hq1 : (q != q) = false := by simp
  have hq2 : (q == q) = true := by simp
  obtain ⟨x0, x1, x2, x3, x4, x5, x6⟩ : _ ∧ _ ∧ _ ∧ _ ∧ _ ∧ _ ∧ _ := ⟨cellOf (unhide HX) 0, cellOf (unhide HX) 1, cellOf (unhide HX) 2, cellOf (unhide HX) 3, cellOf (unhide HX) 4, cellOf (unhide HX) 5, cellOf (unhide HX) 6⟩
  go_wp2_with fail
  refine (unhide CS _ (unhide IK) (unhide IM) (unhide PS)).mono ?_
  generalize hXe : w1.heap.size = X at *
  generalize w1.alloc _ = W2 at *
  clear hXe
  clear w1
  rintro e w3 ⟨u, rfl, hpw, b⟩
  replace HX := hide ((b.block _ (heapLt (unhide HX))).trans (unhide HX))
  replace IK := hide ((unhide IK).later b)
  replace IM := hide ((unhide IM).later b)
  replace PS := hide ((unhide PS).later b)
  replace BW := hide ((unhide BW).trans (b.mono (unhide BW).size))
  obtain ⟨wa, wc, hu⟩ := hpw.slice
  subst hu
  have PW := hide hpw
  clear hpw b
  clear x0 x1 x2 x3 x4 x5 x6
  obtain ⟨x0, x1, x2, x3, x4, x5, x6⟩ : _ ∧ _ ∧ _ ∧ _ ∧ _ ∧ _ ∧ _ := ⟨cellOf (unhide HX) 0, cellOf (unhide HX) 1, cellOf (unhide HX) 2, cellOf (unhide HX) 3, cellOf (unhide HX) 4, cellOf (unhide HX) 5, cellOf (unhide HX) 6⟩
  go_wp2_with fail
  refine (unhide CI _ ((unhide GL).later (unhide BW)) (unhide IK) (unhide IM) (unhide PS)).mono ?_
  rintro e w4 ⟨u, els, rfl, hP, hmap, b⟩
  replace HX := hide ((b.block _ (heapLt (unhide HX))).trans (unhide HX))
  replace IK := hide ((unhide IK).later b)
  replace IM := hide ((unhide IM).later b)
  replace PS := hide ((unhide PS).later b)
  replace BW := hide ((unhide BW).trans (b.mono (unhide BW).size))
  replace PW := hide ((unhide PW).later b)
  have hpx := hP.pksA hmap (unhide HSM)
  obtain ⟨ga, gc, hgv⟩ := hpx.slice
  subst hgv
  have PX := hide (hpx.weak (N' := fun _ => True) (fun _ _ => trivial))
  clear hP hmap hpx b
  clear x0 x1 x2 x3 x4 x5 x6
  clear els
  go_wp2_with fail
  refine (luPkgs_same _ _ _ (A) (unhide PX) (unhide PW)).mono ?_
  rintro e w5 ⟨rfl, b⟩
  replace HX := hide ((b.block _ (heapLt (unhide HX))).trans (unhide HX))
  replace IK := hide ((unhide IK).later b)
  replace IM := hide ((unhide IM).later b)
  replace PS := hide ((unhide PS).later b)
  replace BW := hide ((unhide BW).trans (b.mono (unhide BW).size))
  replace PW := hide ((unhide PW).later b)
  replace PX := hide ((unhide PX).later b)
  clear b
  cases q
  · skip
    go_wp2_with fail
    refine (luPkgs_same _ _ _ (A) (unhide PX) (unhide PW)).mono ?_
    rintro e w5 ⟨rfl, b⟩
    replace BW := hide ((unhide BW).trans (b.mono (unhide BW).size))
    clear b
    clear HX IK IM PS PX PW
    go_wp2
    go_ret
    exact ⟨rfl, unhide BW⟩
  by_cases hs0 : s.length = 0
  · have hkz : ((s.length : Int) == 0) = true := by rw [hs0]; rfl
    have HS0 := hide hs0
    clear hs0
    go_wp2_with fail
    refine (luPkgs_same _ _ _ (A) (unhide PX) (unhide PW)).mono ?_
    rintro e w5 ⟨rfl, b⟩
    replace BW := hide ((unhide BW).trans (b.mono (unhide BW).size))
    clear b
    clear HX IK IM PS PX PW
    go_wp2
    go_ret
    exact ⟨rfl, unhide BW⟩
  clear PW
  obtain ⟨_, _, e1, hlen, hrow⟩ := unhide PS
  injection e1 with e1 _ e3
  subst e1 e3
  obtain ⟨bk, off, rfl, hbs, _, hc⟩ := hrow (by omega)
  obtain ⟨i, hi, hrem⟩ : ∃ i : Nat, i < s.length ∧ (len2 : Int) % (s.length : Int) = (i : Int) := ⟨len2 % s.length, Nat.mod_lt _ (by omega), by simp⟩
  obtain ⟨els, hem, hel, hep, hecl⟩ := pks_els hc s.length (Nat.le_refl _)
  rw [List.take_length] at hem
  obtain ⟨fv, dv, hAt, hf, hd⟩ := hc i hi
  clear hc hrow
  obtain ⟨nm, vr, fs, ds, hpk⟩ : ∃ nm vr fs ds, Ix.pg s i = (nm, vr, fs, ds) := ⟨_, _, _, _, rfl⟩
  obtain ⟨ho1, ho2, ho3⟩ := Ix.add_order (t := ⟨n, ks, d, has, num, til, ms⟩) (unhide HA) hi
  dsimp only at ho1 ho2 ho3
  have hsm1 := Ix.addA_small (Tr.T.ok ⟨n, ks, d, has, num, til, ms⟩) num til ms (Ix.cutP s i) tx.data.toList
  rw [ho1] at hsm1
  dsimp only at hsm1
  generalize Ix.wth (Ix.cutP s i) (Ix.hasD num til ms tx.data.toList) = L1 at *
  rw [hpk] at hAt hf hd ho2 ho3
  dsimp only at hf hd
  obtain ⟨fa, fc, hfv⟩ := hf.slice
  obtain ⟨da, dc, hdv⟩ := hd.slice
  subst hfv hdv
  obtain ⟨str, hs⟩ : ∃ str : ByteArray, str = ⟨(Pk.text nm vr fs ds).toArray⟩ := ⟨_, rfl⟩
  have hsd : str.data.toList = Ix.pText (nm, vr, fs, ds) := by rw [hs]; rfl
  rw [← hsd] at ho2 ho3
  have hsm2 := Ix.addA_small (Tr.T.ok ⟨n, ks, d, has, num, til, ms⟩) num til ms L1 str.data.toList
  obtain ⟨Bl, q2, hB2⟩ : ∃ Bl q2, Ix.addA (Tr.T.ok ⟨n, ks, d, has, num, til, ms⟩) num til ms L1 str.data.toList = (Bl, q2) := ⟨_, _, rfl⟩
  rw [hB2] at hsm2 ho2 ho3
  dsimp only at hsm2 ho2 ho3
  obtain ⟨hb, hhb⟩ : ∃ hb, Ix.hasB num til ms str.data.toList = hb := ⟨_, rfl⟩
  rw [hhb] at ho2 ho3
  subst ho2
  have HS := hide hs
  have HKB := hide hhb
  have HO1 := hide ho1
  have HO3 := hide ho3
  have HB2 := hide hB2
  have HSM1 := hide hsm1
  have HSM2 := hide hsm2
  have HEM := hide hem
  have HEL := hide hel
  have HEP := hide hep
  have HCL := hide hecl
  have HF := hide (And.intro hf.prs hd.prs)
  have HAT := hide hAt
  have HSL := hide (els_sl hep)
  have HBS := hide hbs
  clear hs hhb ho1 ho3 hB2 hsm1 hsm2 hem hel hep hecl hf hd hAt hpk hsd hs0
  have hkz : ((s.length : Int) == 0) = false := by rw [beq_eq_false_iff_ne]; omega
  have hkz' : ¬ (s.length : Int) = 0 := by omega
  have hmx : maxLen = 9223372036854775807 := rfl
  have er : IntKind.i64.wrap ((len2 : Int) % (s.length : Int)) = (len2 : Int) % (s.length : Int) := by rw [hrem]; simp [IntKind.wrap, IntKind.bits, IntKind.signed]; omega
  go_wp2_with fail
  simp only [hrem]
  clear hrem hkz hkz' er hq1
  have hi0' : (0 : Int) ≤ (i : Int) := by omega
  have hi1 : (i : Int) ≤ (sc : Int) := by omega
  have hi2 : (0 : Int) ≤ (i : Int) + 1 := by omega
  have hi3 : (i : Int) + 1 ≤ (s.length : Int) := by omega
  have hi4 : (i : Int) < (s.length : Int) := by omega
  have hi5 : (i : Int) ≤ (s.length : Int) := by omega
  have hck : ¬ sc = 0 := by omega
  have hck2 : ¬ sc = i := by omega
  have ew : IntKind.i64.wrap ((i : Int) + 1) = (i : Int) + 1 := by simp [IntKind.wrap, IntKind.bits, IntKind.signed]; omega
  have et : ((i : Int) + 1).toNat = i + 1 := by omega
  go_cut [13] from 79 to 88 (fun o wx => ∃ (ya : Option Addr) (yc : Nat), o = .slice ya (Ix.cutP s i).length yc ∧ Pks (fun _ => True) wx (.slice ya (Ix.cutP s i).length yc) (Ix.cutP s i) ∧ Below w5.heap.size w5 wx)
  case first =>
    by_cases hce : sc = i + 1
    · have HCE := hide hce
      clear hce
      refine wp_region_held_drew (S := fun _ => True) (by kernel_rfl) trivial (fun hHeld => ?_)
      refine anyH_at (i := 1) (d := some 80) rfl rfl (by kernel_rfl) (by kernel_rfl) (by kernel_rfl) (fun _ _ _ h => h) (by rfl) (v := ?_) ?_ (by assumption) ?_
      rotate_left
      · (intro w hSw; (try dsimp only at hSw); go_simp <;> with_reducible rfl)
      simp only [Act.put, List.setIfInBounds_toArray, List.set_cons_zero, List.set_cons_succ]
      refine anyH_at (i := 2) (d := some 81) rfl rfl (by kernel_rfl) (by kernel_rfl) (by kernel_rfl) (fun _ _ _ h => h) (by rfl) (v := ?_) ?_ (by assumption) ?_
      rotate_left
      · (intro w hSw; (try dsimp only at hSw); go_simp <;> with_reducible rfl)
      simp only [Act.put, List.setIfInBounds_toArray, List.set_cons_zero, List.set_cons_succ]
      refine anyH_at (i := 3) (d := some 82) rfl rfl (by kernel_rfl) (by kernel_rfl) (by kernel_rfl) (fun _ _ _ h => h) (by rfl) (v := ?_) ?_ (by assumption) ?_
      rotate_left
      · (intro w hSw; (try dsimp only at hSw); go_simp <;> with_reducible rfl)
      simp only [Act.put, List.setIfInBounds_toArray, List.set_cons_zero, List.set_cons_succ]
      refine anyH_at (i := 5) (d := some 84) rfl rfl (by kernel_rfl) (by kernel_rfl) (by kernel_rfl) (fun _ _ _ h => h) (by rfl) (v := ?_) ?_ (by assumption) ?_
      rotate_left
      · (intro w hSw; (try dsimp only at hSw); go_simp <;> with_reducible rfl)
      simp only [Act.put, List.setIfInBounds_toArray, List.set_cons_zero, List.set_cons_succ]
      refine anyH_at (i := 6) (d := some 85) rfl rfl (by kernel_rfl) (by kernel_rfl) (by kernel_rfl) (fun _ _ _ h => h) (by rfl) (v := ?_) ?_ (by assumption) ?_
      rotate_left
      · (intro w hSw; (try dsimp only at hSw); go_simp <;> with_reducible rfl)
      simp only [Act.put, List.setIfInBounds_toArray, List.set_cons_zero, List.set_cons_succ]
      refine anyH_at (i := 7) (d := some 86) rfl rfl (by kernel_rfl) (by kernel_rfl) (by kernel_rfl) (fun _ _ _ h => h) (by rfl) (v := ?_) ?_ (by assumption) ?_
      rotate_left
      · (intro w hSw; (try dsimp only at hSw); go_simp <;> with_reducible rfl)
      simp only [Act.put, List.setIfInBounds_toArray, List.set_cons_zero, List.set_cons_succ]
      refine anyH_at (i := 8) (d := some 87) rfl rfl (by kernel_rfl) (by kernel_rfl) (by kernel_rfl) (fun _ _ _ h => h) (by rfl) (v := ?_) ?_ (by assumption) ?_
      rotate_left
      · (intro w hSw; (try dsimp only at hSw); have hce := unhide HCE; go_simp <;> with_reducible rfl)
      simp only [Act.put, List.setIfInBounds_toArray, List.set_cons_zero, List.set_cons_succ]
      refine wpAnyH_ready (rs := [0]) (by kernel_rfl) (by simp) ?_
      refine AllReadyH.cons rfl (fun K hK => ?_) AllReadyH.nil
      go_simp
      have bE := below1 w5 (.cells #[] 42)
      refine hK.out _ _ ?_ (fun hHeldN => ?_)
      · trivial
      clear hHeld
      have hHeld := hHeldN
      clear hHeldN
      clear hK K
      try simp only [Act.put, List.setIfInBounds_toArray, List.set_cons_zero, List.set_cons_succ]
      refine wpAnyH_ready (rs := [4]) (by kernel_rfl) (by simp) ?_
      refine AllReadyH.cons rfl (fun K hK => ?_) AllReadyH.nil
      rw [if_pos (by rfl)]
      refine wp_append_own _ _ _ 31 rfl w5.heap.size 42 i0 _ 4 64 Tryz.underlying31 hI0 hz0 hz1 hz2 rfl (by decide) (.slice (some ⟨w5.heap.size, 0, none⟩) 0 0) 0 [] rfl (World.ownsRow.drew (emptyP w5)) ⟨bk, off, none⟩ i sc (flat4 (els.take i)) rfl (by have := unhide HEL; rw [flat4_len, List.length_take]; omega) (by simpa using newsK (s := 0) (unhide HCL) bE.drew (unhide HBS) takeP) (flat4_one (unhide HSL) (fun e he => List.mem_of_mem_take he)) (by unfold maxLen; omega) (by omega) bE.drew.size ?_
      intro v6 w6 hown6 hgrow6 _
      have o6 : w6.ownsRow w5.heap.size 42 4 v6 i (flat4 (els.take i)) := by simpa using hown6
      have G6 := grown_below (B := w5.heap.size) (World.ownsRow.drew (emptyP w5)) hgrow6 bE.drew bE.drew.size
      have O6 := hide o6
      have HG6 := hide G6
      clear hown6 hgrow6 o6 G6 bE
      change K (Act.put _ (some 83) _) _
      refine hK.out _ _ ?_ (fun hHeldN => ?_)
      · trivial
      clear hHeld
      have hHeld := hHeldN
      clear hHeldN
      clear hK K
      try simp only [Act.put, List.setIfInBounds_toArray, List.set_cons_zero, List.set_cons_succ]
      refine wpAnyH_ready (rs := [9]) (by kernel_rfl) (by simp) ?_
      refine AllReadyH.cons rfl (fun K hK => ?_) AllReadyH.nil
      rw [if_pos (by rfl)]
      refine wp_append_own _ _ _ 31 rfl w5.heap.size 42 i0 _ 4 64 Tryz.underlying31 hI0 hz0 hz1 hz2 rfl (by decide) v6 i (flat4 (els.take i)) rfl (unhide O6) ⟨bk, off, none⟩ _ _ (flat4 (els.drop (i + 1))) rfl (by rw [flat4_len, List.length_drop, unhide HEL]) (by have hce := unhide HCE; have hel := unhide HEL; intro j u hu; exfalso; have hd : els.drop (i + 1) = [] := List.drop_eq_nil_of_le (by omega); rw [hd] at hu; simp [flat4] at hu) (flat4_one (unhide HSL) (fun e he => List.mem_of_mem_drop he)) (by unfold maxLen; omega) (by omega) (unhide HG6).size ?_
      intro v7 w7 hown7 hgrow7 _
      have hel := unhide HEL
      have o7 := cutE_own hown7 (by omega)
      have G7 := grown_below (B := w5.heap.size) (unhide O6) hgrow7 (unhide HG6) (unhide HG6).size
      obtain ⟨ya, yc, hv7, hp7⟩ := cut_pks o7 (unhide HEP) G7 (unhide HEM) (by rw [cutE_len (by omega)]; omega)
      subst hv7
      have O7 := hide hp7
      have HG7 := hide G7
      clear hown7 hgrow7 o7 hp7 G7 O6 HG6 hel
      change K (Act.put _ (some 88) _) _
      refine hK.out _ _ ?_ (fun hHeldN => ?_)
      · trivial
      clear hHeld
      have hHeld := hHeldN
      clear hHeldN
      clear hK K
      try simp only [Act.put, List.setIfInBounds_toArray, List.set_cons_zero, List.set_cons_succ]
      refine anyH_at (i := 10) (d := some 13) rfl rfl (by kernel_rfl) (by kernel_rfl) (by kernel_rfl) (fun _ _ _ h => h) (by rfl) (v := ?_) ?_ (by assumption) ?_
      rotate_left
      · (intro w hSw; (try dsimp only at hSw); go_simp <;> with_reducible rfl)
      simp only [Act.put, List.setIfInBounds_toArray, List.set_cons_zero, List.set_cons_succ]
      refine wpAnyH_done (by kernel_rfl) ?_ _
      go_wp2_with fail
      go_meet
      exact ⟨ya, yc, rfl, unhide O7, unhide HG7⟩
    · skip
      refine wp_region_held_drew (S := fun _ => True) (by kernel_rfl) trivial (fun hHeld => ?_)
      refine anyH_at (i := 1) (d := some 80) rfl rfl (by kernel_rfl) (by kernel_rfl) (by kernel_rfl) (fun _ _ _ h => h) (by rfl) (v := ?_) ?_ (by assumption) ?_
      rotate_left
      · (intro w hSw; (try dsimp only at hSw); go_simp <;> with_reducible rfl)
      simp only [Act.put, List.setIfInBounds_toArray, List.set_cons_zero, List.set_cons_succ]
      refine anyH_at (i := 2) (d := some 81) rfl rfl (by kernel_rfl) (by kernel_rfl) (by kernel_rfl) (fun _ _ _ h => h) (by rfl) (v := ?_) ?_ (by assumption) ?_
      rotate_left
      · (intro w hSw; (try dsimp only at hSw); go_simp <;> with_reducible rfl)
      simp only [Act.put, List.setIfInBounds_toArray, List.set_cons_zero, List.set_cons_succ]
      refine anyH_at (i := 3) (d := some 82) rfl rfl (by kernel_rfl) (by kernel_rfl) (by kernel_rfl) (fun _ _ _ h => h) (by rfl) (v := ?_) ?_ (by assumption) ?_
      rotate_left
      · (intro w hSw; (try dsimp only at hSw); go_simp <;> with_reducible rfl)
      simp only [Act.put, List.setIfInBounds_toArray, List.set_cons_zero, List.set_cons_succ]
      refine anyH_at (i := 5) (d := some 84) rfl rfl (by kernel_rfl) (by kernel_rfl) (by kernel_rfl) (fun _ _ _ h => h) (by rfl) (v := ?_) ?_ (by assumption) ?_
      rotate_left
      · (intro w hSw; (try dsimp only at hSw); go_simp <;> with_reducible rfl)
      simp only [Act.put, List.setIfInBounds_toArray, List.set_cons_zero, List.set_cons_succ]
      refine anyH_at (i := 6) (d := some 85) rfl rfl (by kernel_rfl) (by kernel_rfl) (by kernel_rfl) (fun _ _ _ h => h) (by rfl) (v := ?_) ?_ (by assumption) ?_
      rotate_left
      · (intro w hSw; (try dsimp only at hSw); go_simp <;> with_reducible rfl)
      simp only [Act.put, List.setIfInBounds_toArray, List.set_cons_zero, List.set_cons_succ]
      refine anyH_at (i := 7) (d := some 86) rfl rfl (by kernel_rfl) (by kernel_rfl) (by kernel_rfl) (fun _ _ _ h => h) (by rfl) (v := ?_) ?_ (by assumption) ?_
      rotate_left
      · (intro w hSw; (try dsimp only at hSw); go_simp <;> with_reducible rfl)
      simp only [Act.put, List.setIfInBounds_toArray, List.set_cons_zero, List.set_cons_succ]
      refine anyH_at (i := 8) (d := some 87) rfl rfl (by kernel_rfl) (by kernel_rfl) (by kernel_rfl) (fun _ _ _ h => h) (by rfl) (v := ?_) ?_ (by assumption) ?_
      rotate_left
      · (intro w hSw; (try dsimp only at hSw); go_simp <;> with_reducible rfl)
      simp only [Act.put, List.setIfInBounds_toArray, List.set_cons_zero, List.set_cons_succ]
      refine wpAnyH_ready (rs := [0]) (by kernel_rfl) (by simp) ?_
      refine AllReadyH.cons rfl (fun K hK => ?_) AllReadyH.nil
      go_simp
      have bE := below1 w5 (.cells #[] 42)
      refine hK.out _ _ ?_ (fun hHeldN => ?_)
      · trivial
      clear hHeld
      have hHeld := hHeldN
      clear hHeldN
      clear hK K
      try simp only [Act.put, List.setIfInBounds_toArray, List.set_cons_zero, List.set_cons_succ]
      refine wpAnyH_ready (rs := [4]) (by kernel_rfl) (by simp) ?_
      refine AllReadyH.cons rfl (fun K hK => ?_) AllReadyH.nil
      rw [if_pos (by rfl)]
      refine wp_append_own _ _ _ 31 rfl w5.heap.size 42 i0 _ 4 64 Tryz.underlying31 hI0 hz0 hz1 hz2 rfl (by decide) (.slice (some ⟨w5.heap.size, 0, none⟩) 0 0) 0 [] rfl (World.ownsRow.drew (emptyP w5)) ⟨bk, off, none⟩ i sc (flat4 (els.take i)) rfl (by have := unhide HEL; rw [flat4_len, List.length_take]; omega) (by simpa using newsK (s := 0) (unhide HCL) bE.drew (unhide HBS) takeP) (flat4_one (unhide HSL) (fun e he => List.mem_of_mem_take he)) (by unfold maxLen; omega) (by omega) bE.drew.size ?_
      intro v6 w6 hown6 hgrow6 _
      have o6 : w6.ownsRow w5.heap.size 42 4 v6 i (flat4 (els.take i)) := by simpa using hown6
      have G6 := grown_below (B := w5.heap.size) (World.ownsRow.drew (emptyP w5)) hgrow6 bE.drew bE.drew.size
      have O6 := hide o6
      have HG6 := hide G6
      clear hown6 hgrow6 o6 G6 bE
      change K (Act.put _ (some 83) _) _
      refine hK.out _ _ ?_ (fun hHeldN => ?_)
      · trivial
      clear hHeld
      have hHeld := hHeldN
      clear hHeldN
      clear hK K
      try simp only [Act.put, List.setIfInBounds_toArray, List.set_cons_zero, List.set_cons_succ]
      refine wpAnyH_ready (rs := [9]) (by kernel_rfl) (by simp) ?_
      refine AllReadyH.cons rfl (fun K hK => ?_) AllReadyH.nil
      rw [if_pos (by rfl)]
      refine wp_append_own _ _ _ 31 rfl w5.heap.size 42 i0 _ 4 64 Tryz.underlying31 hI0 hz0 hz1 hz2 rfl (by decide) v6 i (flat4 (els.take i)) rfl (unhide O6) ⟨bk, off + (i + 1) * 4, none⟩ _ _ (flat4 (els.drop (i + 1))) rfl (by rw [flat4_len, List.length_drop, unhide HEL]) (newsK (s := i + 1) (unhide HCL) (unhide HG6) (unhide HBS) dropP) (flat4_one (unhide HSL) (fun e he => List.mem_of_mem_drop he)) (by unfold maxLen; omega) (by omega) (unhide HG6).size ?_
      intro v7 w7 hown7 hgrow7 _
      have hel := unhide HEL
      have o7 := cutE_own hown7 (by omega)
      have G7 := grown_below (B := w5.heap.size) (unhide O6) hgrow7 (unhide HG6) (unhide HG6).size
      obtain ⟨ya, yc, hv7, hp7⟩ := cut_pks o7 (unhide HEP) G7 (unhide HEM) (by rw [cutE_len (by omega)]; omega)
      subst hv7
      have O7 := hide hp7
      have HG7 := hide G7
      clear hown7 hgrow7 o7 hp7 G7 O6 HG6 hel
      change K (Act.put _ (some 88) _) _
      refine hK.out _ _ ?_ (fun hHeldN => ?_)
      · trivial
      clear hHeld
      have hHeld := hHeldN
      clear hHeldN
      clear hK K
      try simp only [Act.put, List.setIfInBounds_toArray, List.set_cons_zero, List.set_cons_succ]
      refine anyH_at (i := 10) (d := some 13) rfl rfl (by kernel_rfl) (by kernel_rfl) (by kernel_rfl) (fun _ _ _ h => h) (by rfl) (v := ?_) ?_ (by assumption) ?_
      rotate_left
      · (intro w hSw; (try dsimp only at hSw); go_simp <;> with_reducible rfl)
      simp only [Act.put, List.setIfInBounds_toArray, List.set_cons_zero, List.set_cons_succ]
      refine wpAnyH_done (by kernel_rfl) ?_ _
      go_wp2_with fail
      go_meet
      exact ⟨ya, yc, rfl, unhide O7, unhide HG7⟩
  case rest =>
    obtain ⟨ya, yc, rfl, hpy, b⟩ := hcut
    obtain ⟨wd, rfl⟩ : ∃ wd, wd = wc := ⟨wc, rfl⟩
    replace HX := hide ((b.block _ (heapLt (unhide HX))).trans (unhide HX))
    replace IK := hide ((unhide IK).later b)
    replace IM := hide ((unhide IM).later b)
    replace PS := hide ((unhide PS).later b)
    replace BW := hide ((unhide BW).trans (b.mono (unhide BW).size))
    replace PX := hide ((unhide PX).later b)
    have PY := hide hpy
    replace HF := hide (And.intro ((unhide HF).1.later b) ((unhide HF).2.later b))
    replace HAT := hide ((unhide HAT).keep (b.block bk (unhide HBS)))
    replace HBS := hide (Nat.lt_of_lt_of_le (unhide HBS) b.size)
    clear hpy b HEM HEP HCL HSL HEL
    have kk : ∀ w', Below wd.heap.size wd w' → ((w'.cell? ⟨X, 0, none⟩ = some (.int .i64 n) ∧ w'.cell? ⟨X, 3, none⟩ = some (.bool has)) ∧ w'.cell? ⟨X, 4, none⟩ = some (.int .i64 num) ∧ w'.cell? ⟨X, 5, none⟩ = some (.int .i64 til) ∧ w'.cell? ⟨X, 6, none⟩ = some (.slice ma ms.length mc)) ∧ (w'.cell? ⟨bk, off + i * 4, none⟩ = some (.int .i64 nm) ∧ w'.cell? ⟨bk, off + i * 4 + 1, none⟩ = some (.int .i64 vr) ∧ w'.cell? ⟨bk, off + i * 4 + 2, none⟩ = some (.slice fa fs.length fc) ∧ w'.cell? ⟨bk, off + i * 4 + 3, none⟩ = some (.slice da ds.length dc)) := fun w' hw' => by
      have hx := (hw'.block _ (heapLt (unhide HX))).trans (unhide HX)
      exact ⟨⟨⟨cellOf hx 0, cellOf hx 3⟩, cellOf hx 4, cellOf hx 5, cellOf hx 6⟩, (unhide HAT).keep (hw'.block bk (unhide HBS))⟩
    have KK := hide kk
    clear kk
    go_wp2_with fail
    go_cut [14, 15] from 89 to 99 (fun y o wx => ∃ (Xb : Nat), y = .pointer (some ⟨Xb, 0, none⟩) ∧ o = .bool (Ix.hasB num til ms str.data.toList) ∧ Below wd.heap.size wd wx)
    case first =>
      refine wp_region_held_drew (S := fun w' => ((w'.cell? ⟨X, 0, none⟩ = some (.int .i64 n) ∧ w'.cell? ⟨X, 3, none⟩ = some (.bool has)) ∧ w'.cell? ⟨X, 4, none⟩ = some (.int .i64 num) ∧ w'.cell? ⟨X, 5, none⟩ = some (.int .i64 til) ∧ w'.cell? ⟨X, 6, none⟩ = some (.slice ma ms.length mc)) ∧ (w'.cell? ⟨bk, off + i * 4, none⟩ = some (.int .i64 nm) ∧ w'.cell? ⟨bk, off + i * 4 + 1, none⟩ = some (.int .i64 vr) ∧ w'.cell? ⟨bk, off + i * 4 + 2, none⟩ = some (.slice fa fs.length fc) ∧ w'.cell? ⟨bk, off + i * 4 + 3, none⟩ = some (.slice da ds.length dc))) (by kernel_rfl) (by exact unhide KK _ (below_drew wd)) (fun hHeld => ?_)
      refine anyH_at (i := 0) (d := some 90) rfl rfl (by kernel_rfl) (by kernel_rfl) (by kernel_rfl) (fun _ _ _ h => h) (by rfl) (v := ?_) ?_ (by assumption) ?_
      rotate_left
      · (intro w hSw; (try dsimp only at hSw); go_simp <;> with_reducible rfl)
      simp only [Act.put, List.setIfInBounds_toArray, List.set_cons_zero, List.set_cons_succ]
      refine anyH_at (i := 1) (d := some 91) rfl rfl (by kernel_rfl) (by kernel_rfl) (by kernel_rfl) (fun _ _ _ h => h) (by rfl) (v := ?_) ?_ (by assumption) ?_
      rotate_left
      · (intro w hSw; (try dsimp only at hSw); go_simp <;> with_reducible rfl)
      simp only [Act.put, List.setIfInBounds_toArray, List.set_cons_zero, List.set_cons_succ]
      refine anyH_at (i := 2) (d := some 92) rfl rfl (by kernel_rfl) (by kernel_rfl) (by kernel_rfl) (fun _ _ _ h => h) (by rfl) (v := ?_) ?_ (by assumption) ?_
      rotate_left
      · (intro w hSw; (try dsimp only at hSw); go_simp <;> with_reducible rfl)
      simp only [Act.put, List.setIfInBounds_toArray, List.set_cons_zero, List.set_cons_succ]
      refine anyH_at (i := 3) (d := some 93) rfl rfl (by kernel_rfl) (by kernel_rfl) (by kernel_rfl) (fun _ _ _ h => h) (by rfl) (v := ?_) ?_ (by assumption) ?_
      rotate_left
      · (intro w hSw; (try dsimp only at hSw); go_simp <;> with_reducible rfl)
      simp only [Act.put, List.setIfInBounds_toArray, List.set_cons_zero, List.set_cons_succ]
      refine anyH_at (i := 4) (d := some 94) rfl rfl (by kernel_rfl) (by kernel_rfl) (by kernel_rfl) (fun _ _ _ h => h) (by rfl) (v := ?_) ?_ (by assumption) ?_
      rotate_left
      · (intro w hSw; (try dsimp only at hSw); go_simp <;> with_reducible rfl)
      simp only [Act.put, List.setIfInBounds_toArray, List.set_cons_zero, List.set_cons_succ]
      refine anyH_at (i := 5) (d := some 95) rfl rfl (by kernel_rfl) (by kernel_rfl) (by kernel_rfl) (fun _ _ _ h => h) (by rfl) (v := ?_) ?_ (by assumption) ?_
      rotate_left
      · (intro w hSw; (try dsimp only at hSw); go_simp <;> with_reducible rfl)
      simp only [Act.put, List.setIfInBounds_toArray, List.set_cons_zero, List.set_cons_succ]
      have DD : Hid (Below wd.heap.size wd wd.drew) := below_drew wd
      refine wpAnyH_ready (rs := [6, 11]) (by kernel_rfl) (by simp) ?_
      refine AllReadyH.cons rfl (fun K hK => ?_) (AllReadyH.cons rfl (fun K hK => ?_) AllReadyH.nil)
      rotate_left
      · go_simp
        have HBX : Hid ((wd.drew.alloc (.cells #[.int .i64 0, .int .i64 0, .slice none 0 0, .slice none 0 0] 42)).heap[wd.heap.size]? = _) := heap_alloc_new wd.drew (.cells #[.int .i64 0, .int .i64 0, .slice none 0 0, .slice none 0 0] 42)
        have LOX : Hid (wd.heap.size ≤ wd.heap.size) := (unhide DD).size
        have bX := below1 wd.drew (.cells #[.int .i64 0, .int .i64 0, .slice none 0 0, .slice none 0 0] 42)
        replace DD := hide ((unhide DD).trans (bX.mono (unhide DD).size))
        clear bX
        refine hK.out _ _ ?_ (fun hHeldN => ?_)
        · exact unhide KK _ (unhide DD)
        clear hHeld
        have hHeld := hHeldN
        clear hHeldN
        clear hK K
        try simp only [Act.put, List.setIfInBounds_toArray, List.set_cons_zero, List.set_cons_succ]
        refine wpAnyH_ready (rs := [6]) (by kernel_rfl) (by simp) ?_
        refine AllReadyH.cons rfl (fun K hK => ?_) AllReadyH.nil
        go_simp
        have LP := hide (unhide DD).size
        refine (implText_any _ nm vr _ _ fs ds ((unhide HF).1.later (unhide DD)) ((unhide HF).2.later (unhide DD))).mono ?_
        rintro e u1 ⟨rfl, b⟩
        replace DD := hide ((unhide DD).trans (b.mono (unhide DD).size))
        replace HBX := hide ((b.block _ (heapLt (unhide HBX))).trans (unhide HBX))
        rw [← unhide HS]
        clear b LP
        go_wp2_with fail
        refine hK.out _ _ ?_ (fun hHeldN => ?_)
        · exact unhide KK _ (unhide DD)
        clear hHeld
        have hHeld := hHeldN
        clear hHeldN
        clear hK K
        try simp only [Act.put, List.setIfInBounds_toArray, List.set_cons_zero, List.set_cons_succ]
        refine wpAnyH_ready (rs := [7]) (by kernel_rfl) (by simp) ?_
        refine AllReadyH.cons rfl (fun K hK => ?_) AllReadyH.nil
        go_simp
        have LP := hide (unhide DD).size
        refine (implHas_any _ num til _ ms str ev ((unhide GL).later ((unhide BW).trans ((unhide DD).mono (unhide BW).size))) ((unhide IM).later (unhide DD))).mono ?_
        rintro e u2 ⟨fv2, dv2, rfl, hf2, hd2, b⟩
        replace DD := hide ((unhide DD).trans (b.mono (unhide DD).size))
        replace HBX := hide ((b.block _ (heapLt (unhide HBX))).trans (unhide HBX))
        obtain ⟨fa2, fc2, rfl⟩ := own_form hf2
        obtain ⟨da2, dc2, rfl⟩ := own_form hd2
        have LO2 := LP
        have OF := hide (own2_base hf2 (unhide LO2))
        have OD := hide (own2_base hd2 (unhide LO2))
        clear hf2 hd2 LO2
        clear b LP
        go_wp2_with fail
        refine hK.out _ _ ?_ (fun hHeldN => ?_)
        · exact unhide KK _ (unhide DD)
        clear hHeld
        have hHeld := hHeldN
        clear hHeldN
        clear hK K
        try simp only [Act.put, List.setIfInBounds_toArray, List.set_cons_zero, List.set_cons_succ]
        refine anyH_at (i := 8) (d := some 89) rfl rfl (by kernel_rfl) (by kernel_rfl) (by kernel_rfl) (fun _ _ _ h => h) (by rfl) (v := ?_) ?_ (by assumption) ?_
        rotate_left
        · (intro w hSw; (try dsimp only at hSw); go_simp <;> with_reducible rfl)
        simp only [Act.put, List.setIfInBounds_toArray, List.set_cons_zero, List.set_cons_succ]
        refine anyH_at (i := 9) (d := some 98) rfl rfl (by kernel_rfl) (by kernel_rfl) (by kernel_rfl) (fun _ _ _ h => h) (by rfl) (v := ?_) ?_ (by assumption) ?_
        rotate_left
        · (intro w hSw; (try dsimp only at hSw); go_simp <;> with_reducible rfl)
        simp only [Act.put, List.setIfInBounds_toArray, List.set_cons_zero, List.set_cons_succ]
        refine anyH_at (i := 10) (d := some 99) rfl rfl (by kernel_rfl) (by kernel_rfl) (by kernel_rfl) (fun _ _ _ h => h) (by rfl) (v := ?_) ?_ (by assumption) ?_
        rotate_left
        · (intro w hSw; (try dsimp only at hSw); go_simp <;> with_reducible rfl)
        simp only [Act.put, List.setIfInBounds_toArray, List.set_cons_zero, List.set_cons_succ]
        refine wpAnyH_ready (rs := [12]) (by kernel_rfl) (by simp) ?_
        refine AllReadyH.cons rfl (fun K hK => ?_) AllReadyH.nil
        obtain ⟨⟨r0, r1, r2, r3⟩, ⟨q0, q1, q2, q3⟩⟩ := box_cells (unhide HBX)
        go_simp
        obtain ⟨hBX, hOF, hOD, hBB⟩ := pkg_fill (unhide HBX) (unhide OF) (unhide OD) (unhide DD) (unhide LOX) rfl
        refine hK.out _ _ ?_ (fun hHeldN => ?_)
        · exact unhide KK _ hBB
        clear hHeld
        have hHeld := hHeldN
        clear hHeldN
        clear hK K
        try simp only [Act.put, List.setIfInBounds_toArray, List.set_cons_zero, List.set_cons_succ]
        refine anyH_at (i := 13) (d := some 15) rfl rfl (by kernel_rfl) (by kernel_rfl) (by kernel_rfl) (fun _ _ _ h => h) (by rfl) (v := ?_) ?_ (by assumption) ?_
        rotate_left
        · (intro w hSw; (try dsimp only at hSw); go_simp <;> with_reducible rfl)
        simp only [Act.put, List.setIfInBounds_toArray, List.set_cons_zero, List.set_cons_succ]
        refine wpAnyH_done (by kernel_rfl) ?_ _
        go_wp2_with fail
        go_meet
        exact ⟨_, rfl, rfl, hBB⟩
      go_simp
      have LP := hide (unhide DD).size
      refine (implText_any _ nm vr _ _ fs ds ((unhide HF).1.later (unhide DD)) ((unhide HF).2.later (unhide DD))).mono ?_
      rintro e u1 ⟨rfl, b⟩
      replace DD := hide ((unhide DD).trans (b.mono (unhide DD).size))
      rw [← unhide HS]
      clear b LP
      go_wp2_with fail
      refine hK.out _ _ ?_ (fun hHeldN => ?_)
      · exact unhide KK _ (unhide DD)
      clear hHeld
      have hHeld := hHeldN
      clear hHeldN
      clear hK K
      try simp only [Act.put, List.setIfInBounds_toArray, List.set_cons_zero, List.set_cons_succ]
      refine wpAnyH_ready (rs := [7, 11]) (by kernel_rfl) (by simp) ?_
      refine AllReadyH.cons rfl (fun K hK => ?_) (AllReadyH.cons rfl (fun K hK => ?_) AllReadyH.nil)
      rotate_left
      · go_simp
        have HBX := hide (heap_alloc_new u1 (.cells #[.int .i64 0, .int .i64 0, .slice none 0 0, .slice none 0 0] 42))
        have LOX : Hid (wd.heap.size ≤ u1.heap.size) := (unhide DD).size
        have bX := below1 u1 (.cells #[.int .i64 0, .int .i64 0, .slice none 0 0, .slice none 0 0] 42)
        replace DD := hide ((unhide DD).trans (bX.mono (unhide DD).size))
        clear bX
        refine hK.out _ _ ?_ (fun hHeldN => ?_)
        · exact unhide KK _ (unhide DD)
        clear hHeld
        have hHeld := hHeldN
        clear hHeldN
        clear hK K
        try simp only [Act.put, List.setIfInBounds_toArray, List.set_cons_zero, List.set_cons_succ]
        generalize hXb : u1.heap.size = Xb at *
        clear hXb
        refine wpAnyH_ready (rs := [7]) (by kernel_rfl) (by simp) ?_
        refine AllReadyH.cons rfl (fun K hK => ?_) AllReadyH.nil
        go_simp
        have LP := hide (unhide DD).size
        refine (implHas_any _ num til _ ms str ev ((unhide GL).later ((unhide BW).trans ((unhide DD).mono (unhide BW).size))) ((unhide IM).later (unhide DD))).mono ?_
        rintro e u2 ⟨fv2, dv2, rfl, hf2, hd2, b⟩
        replace DD := hide ((unhide DD).trans (b.mono (unhide DD).size))
        replace HBX := hide ((b.block _ (heapLt (unhide HBX))).trans (unhide HBX))
        obtain ⟨fa2, fc2, rfl⟩ := own_form hf2
        obtain ⟨da2, dc2, rfl⟩ := own_form hd2
        have LO2 := LP
        have OF := hide (own2_base hf2 (unhide LO2))
        have OD := hide (own2_base hd2 (unhide LO2))
        clear hf2 hd2 LO2
        clear b LP
        go_wp2_with fail
        refine hK.out _ _ ?_ (fun hHeldN => ?_)
        · exact unhide KK _ (unhide DD)
        clear hHeld
        have hHeld := hHeldN
        clear hHeldN
        clear hK K
        try simp only [Act.put, List.setIfInBounds_toArray, List.set_cons_zero, List.set_cons_succ]
        refine anyH_at (i := 8) (d := some 89) rfl rfl (by kernel_rfl) (by kernel_rfl) (by kernel_rfl) (fun _ _ _ h => h) (by rfl) (v := ?_) ?_ (by assumption) ?_
        rotate_left
        · (intro w hSw; (try dsimp only at hSw); go_simp <;> with_reducible rfl)
        simp only [Act.put, List.setIfInBounds_toArray, List.set_cons_zero, List.set_cons_succ]
        refine anyH_at (i := 9) (d := some 98) rfl rfl (by kernel_rfl) (by kernel_rfl) (by kernel_rfl) (fun _ _ _ h => h) (by rfl) (v := ?_) ?_ (by assumption) ?_
        rotate_left
        · (intro w hSw; (try dsimp only at hSw); go_simp <;> with_reducible rfl)
        simp only [Act.put, List.setIfInBounds_toArray, List.set_cons_zero, List.set_cons_succ]
        refine anyH_at (i := 10) (d := some 99) rfl rfl (by kernel_rfl) (by kernel_rfl) (by kernel_rfl) (fun _ _ _ h => h) (by rfl) (v := ?_) ?_ (by assumption) ?_
        rotate_left
        · (intro w hSw; (try dsimp only at hSw); go_simp <;> with_reducible rfl)
        simp only [Act.put, List.setIfInBounds_toArray, List.set_cons_zero, List.set_cons_succ]
        refine wpAnyH_ready (rs := [12]) (by kernel_rfl) (by simp) ?_
        refine AllReadyH.cons rfl (fun K hK => ?_) AllReadyH.nil
        obtain ⟨⟨r0, r1, r2, r3⟩, ⟨q0, q1, q2, q3⟩⟩ := box_cells (unhide HBX)
        go_simp
        obtain ⟨hBX, hOF, hOD, hBB⟩ := pkg_fill (unhide HBX) (unhide OF) (unhide OD) (unhide DD) (unhide LOX) rfl
        refine hK.out _ _ ?_ (fun hHeldN => ?_)
        · exact unhide KK _ hBB
        clear hHeld
        have hHeld := hHeldN
        clear hHeldN
        clear hK K
        try simp only [Act.put, List.setIfInBounds_toArray, List.set_cons_zero, List.set_cons_succ]
        refine anyH_at (i := 13) (d := some 15) rfl rfl (by kernel_rfl) (by kernel_rfl) (by kernel_rfl) (fun _ _ _ h => h) (by rfl) (v := ?_) ?_ (by assumption) ?_
        rotate_left
        · (intro w hSw; (try dsimp only at hSw); go_simp <;> with_reducible rfl)
        simp only [Act.put, List.setIfInBounds_toArray, List.set_cons_zero, List.set_cons_succ]
        refine wpAnyH_done (by kernel_rfl) ?_ _
        go_wp2_with fail
        go_meet
        exact ⟨_, rfl, rfl, hBB⟩
      go_simp
      have LP := hide (unhide DD).size
      refine (implHas_any _ num til _ ms str ev ((unhide GL).later ((unhide BW).trans ((unhide DD).mono (unhide BW).size))) ((unhide IM).later (unhide DD))).mono ?_
      rintro e u2 ⟨fv2, dv2, rfl, hf2, hd2, b⟩
      replace DD := hide ((unhide DD).trans (b.mono (unhide DD).size))
      obtain ⟨fa2, fc2, rfl⟩ := own_form hf2
      obtain ⟨da2, dc2, rfl⟩ := own_form hd2
      have LO2 := LP
      have OF := hide (own2_base hf2 (unhide LO2))
      have OD := hide (own2_base hd2 (unhide LO2))
      clear hf2 hd2 LO2
      clear b LP
      go_wp2_with fail
      refine hK.out _ _ ?_ (fun hHeldN => ?_)
      · exact unhide KK _ (unhide DD)
      clear hHeld
      have hHeld := hHeldN
      clear hHeldN
      clear hK K
      try simp only [Act.put, List.setIfInBounds_toArray, List.set_cons_zero, List.set_cons_succ]
      refine anyH_at (i := 8) (d := some 89) rfl rfl (by kernel_rfl) (by kernel_rfl) (by kernel_rfl) (fun _ _ _ h => h) (by rfl) (v := ?_) ?_ (by assumption) ?_
      rotate_left
      · (intro w hSw; (try dsimp only at hSw); go_simp <;> with_reducible rfl)
      simp only [Act.put, List.setIfInBounds_toArray, List.set_cons_zero, List.set_cons_succ]
      refine anyH_at (i := 9) (d := some 98) rfl rfl (by kernel_rfl) (by kernel_rfl) (by kernel_rfl) (fun _ _ _ h => h) (by rfl) (v := ?_) ?_ (by assumption) ?_
      rotate_left
      · (intro w hSw; (try dsimp only at hSw); go_simp <;> with_reducible rfl)
      simp only [Act.put, List.setIfInBounds_toArray, List.set_cons_zero, List.set_cons_succ]
      refine anyH_at (i := 10) (d := some 99) rfl rfl (by kernel_rfl) (by kernel_rfl) (by kernel_rfl) (fun _ _ _ h => h) (by rfl) (v := ?_) ?_ (by assumption) ?_
      rotate_left
      · (intro w hSw; (try dsimp only at hSw); go_simp <;> with_reducible rfl)
      simp only [Act.put, List.setIfInBounds_toArray, List.set_cons_zero, List.set_cons_succ]
      refine wpAnyH_ready (rs := [11]) (by kernel_rfl) (by simp) ?_
      refine AllReadyH.cons rfl (fun K hK => ?_) AllReadyH.nil
      go_simp
      have HBX := hide (heap_alloc_new u2 (.cells #[.int .i64 0, .int .i64 0, .slice none 0 0, .slice none 0 0] 42))
      have LOX : Hid (wd.heap.size ≤ u2.heap.size) := (unhide DD).size
      have bX := below1 u2 (.cells #[.int .i64 0, .int .i64 0, .slice none 0 0, .slice none 0 0] 42)
      replace DD := hide ((unhide DD).trans (bX.mono (unhide DD).size))
      replace OF := hide (own2_later (unhide OF) bX)
      replace OD := hide (own2_later (unhide OD) bX)
      clear bX
      refine hK.out _ _ ?_ (fun hHeldN => ?_)
      · exact unhide KK _ (unhide DD)
      clear hHeld
      have hHeld := hHeldN
      clear hHeldN
      clear hK K
      try simp only [Act.put, List.setIfInBounds_toArray, List.set_cons_zero, List.set_cons_succ]
      generalize hXb : u2.heap.size = Xb at *
      clear hXb
      refine wpAnyH_ready (rs := [12]) (by kernel_rfl) (by simp) ?_
      refine AllReadyH.cons rfl (fun K hK => ?_) AllReadyH.nil
      obtain ⟨⟨r0, r1, r2, r3⟩, ⟨q0, q1, q2, q3⟩⟩ := box_cells (unhide HBX)
      go_simp
      obtain ⟨hBX, hOF, hOD, hBB⟩ := pkg_fill (unhide HBX) (unhide OF) (unhide OD) (unhide DD) (unhide LOX) rfl
      refine hK.out _ _ ?_ (fun hHeldN => ?_)
      · exact unhide KK _ hBB
      clear hHeld
      have hHeld := hHeldN
      clear hHeldN
      clear hK K
      try simp only [Act.put, List.setIfInBounds_toArray, List.set_cons_zero, List.set_cons_succ]
      refine anyH_at (i := 13) (d := some 15) rfl rfl (by kernel_rfl) (by kernel_rfl) (by kernel_rfl) (fun _ _ _ h => h) (by rfl) (v := ?_) ?_ (by assumption) ?_
      rotate_left
      · (intro w hSw; (try dsimp only at hSw); go_simp <;> with_reducible rfl)
      simp only [Act.put, List.setIfInBounds_toArray, List.set_cons_zero, List.set_cons_succ]
      refine wpAnyH_done (by kernel_rfl) ?_ _
      go_wp2_with fail
      go_meet
      exact ⟨_, rfl, rfl, hBB⟩
    case rest =>
      obtain ⟨Xb, rfl, rfl, b⟩ := hcut
      replace HX := hide ((b.block _ (heapLt (unhide HX))).trans (unhide HX))
      replace IK := hide ((unhide IK).later b)
      replace IM := hide ((unhide IM).later b)
      replace PS := hide ((unhide PS).later b)
      replace BW := hide ((unhide BW).trans (b.mono (unhide BW).size))
      replace PX := hide ((unhide PX).later b)
      replace PY := hide ((unhide PY).later b)
      replace HF := hide (And.intro ((unhide HF).1.later b) ((unhide HF).2.later b))
      replace HAT := hide ((unhide HAT).keep (b.block bk (unhide HBS)))
      replace HBS := hide (Nat.lt_of_lt_of_le (unhide HBS) b.size)
      rw [unhide HKB]
      clear b KK
      have C1 := hide (fun (W : World) hG h1 h2 h3 => implAdd_any (N := fun _ => True) W ⟨n, ks, d, has, num, til, ms⟩ (.slice ka ks.length kc) (.slice ma ms.length mc) (.slice ya (Ix.cutP s i).length yc) (Ix.cutP s i) tx ev hG h1 h2 h3)
      dsimp only [tvT, tv] at C1
      rw [unhide HO1] at C1
      dsimp only at C1
      obtain ⟨x0, x1, x2, x3, x4, x5, x6⟩ : _ ∧ _ ∧ _ ∧ _ ∧ _ ∧ _ ∧ _ := ⟨cellOf (unhide HX) 0, cellOf (unhide HX) 1, cellOf (unhide HX) 2, cellOf (unhide HX) 3, cellOf (unhide HX) 4, cellOf (unhide HX) 5, cellOf (unhide HX) 6⟩
      go_wp2_with fail
      refine (unhide C1 _ ((unhide GL).later (unhide BW)) (unhide IK) (unhide IM) (unhide PY)).mono ?_
      rintro e w8 ⟨u, els2, rfl, hP, hmap, b⟩
      replace HX := hide ((b.block _ (heapLt (unhide HX))).trans (unhide HX))
      replace IK := hide ((unhide IK).later b)
      replace IM := hide ((unhide IM).later b)
      replace PS := hide ((unhide PS).later b)
      replace BW := hide ((unhide BW).trans (b.mono (unhide BW).size))
      replace PX := hide ((unhide PX).later b)
      replace HF := hide (And.intro ((unhide HF).1.later b) ((unhide HF).2.later b))
      replace HAT := hide ((unhide HAT).keep (b.block bk (unhide HBS)))
      replace HBS := hide (Nat.lt_of_lt_of_le (unhide HBS) b.size)
      have hpx := hP.pksA hmap (unhide HSM1)
      obtain ⟨za, zc, hgv⟩ := hpx.slice
      subst hgv
      have PZ := hide (hpx.weak (N' := fun _ => True) (fun _ _ => trivial))
      clear hP hmap hpx b PY C1
      clear x0 x1 x2 x3 x4 x5 x6
      clear els2
      go_wp2_with fail
      refine wp_region_held_drew (S := fun w' => (w'.cell? ⟨X, 0, none⟩ = some (.int .i64 n) ∧ w'.cell? ⟨X, 1, none⟩ = some (.slice ka ks.length kc) ∧ w'.cell? ⟨X, 2, none⟩ = some (.int .i64 d) ∧ w'.cell? ⟨X, 3, none⟩ = some (.bool has) ∧ w'.cell? ⟨X, 4, none⟩ = some (.int .i64 num) ∧ w'.cell? ⟨X, 5, none⟩ = some (.int .i64 til) ∧ w'.cell? ⟨X, 6, none⟩ = some (.slice ma ms.length mc)) ∧ (w'.cell? ⟨bk, off + i * 4, none⟩ = some (.int .i64 nm) ∧ w'.cell? ⟨bk, off + i * 4 + 1, none⟩ = some (.int .i64 vr) ∧ w'.cell? ⟨bk, off + i * 4 + 2, none⟩ = some (.slice fa fs.length fc) ∧ w'.cell? ⟨bk, off + i * 4 + 3, none⟩ = some (.slice da ds.length dc))) (by kernel_rfl) (by exact ⟨⟨cellOf (unhide HX) 0, cellOf (unhide HX) 1, cellOf (unhide HX) 2, cellOf (unhide HX) 3, cellOf (unhide HX) 4, cellOf (unhide HX) 5, cellOf (unhide HX) 6⟩, unhide HAT⟩) (fun hHeld => ?_)
      refine anyH_at (i := 0) (d := some 108) rfl rfl (by kernel_rfl) (by kernel_rfl) (by kernel_rfl) (fun _ _ _ h => h) (by rfl) (v := ?_) ?_ (by assumption) ?_
      rotate_left
      · (intro w hSw; (try dsimp only at hSw); go_simp <;> with_reducible rfl)
      simp only [Act.put, List.setIfInBounds_toArray, List.set_cons_zero, List.set_cons_succ]
      refine anyH_at (i := 1) (d := some 109) rfl rfl (by kernel_rfl) (by kernel_rfl) (by kernel_rfl) (fun _ _ _ h => h) (by rfl) (v := ?_) ?_ (by assumption) ?_
      rotate_left
      · (intro w hSw; (try dsimp only at hSw); go_simp <;> with_reducible rfl)
      simp only [Act.put, List.setIfInBounds_toArray, List.set_cons_zero, List.set_cons_succ]
      refine anyH_at (i := 2) (d := some 110) rfl rfl (by kernel_rfl) (by kernel_rfl) (by kernel_rfl) (fun _ _ _ h => h) (by rfl) (v := ?_) ?_ (by assumption) ?_
      rotate_left
      · (intro w hSw; (try dsimp only at hSw); go_simp <;> with_reducible rfl)
      simp only [Act.put, List.setIfInBounds_toArray, List.set_cons_zero, List.set_cons_succ]
      refine anyH_at (i := 3) (d := some 111) rfl rfl (by kernel_rfl) (by kernel_rfl) (by kernel_rfl) (fun _ _ _ h => h) (by rfl) (v := ?_) ?_ (by assumption) ?_
      rotate_left
      · (intro w hSw; (try dsimp only at hSw); go_simp <;> with_reducible rfl)
      simp only [Act.put, List.setIfInBounds_toArray, List.set_cons_zero, List.set_cons_succ]
      refine anyH_at (i := 4) (d := some 112) rfl rfl (by kernel_rfl) (by kernel_rfl) (by kernel_rfl) (fun _ _ _ h => h) (by rfl) (v := ?_) ?_ (by assumption) ?_
      rotate_left
      · (intro w hSw; (try dsimp only at hSw); go_simp <;> with_reducible rfl)
      simp only [Act.put, List.setIfInBounds_toArray, List.set_cons_zero, List.set_cons_succ]
      refine anyH_at (i := 5) (d := some 113) rfl rfl (by kernel_rfl) (by kernel_rfl) (by kernel_rfl) (fun _ _ _ h => h) (by rfl) (v := ?_) ?_ (by assumption) ?_
      rotate_left
      · (intro w hSw; (try dsimp only at hSw); go_simp <;> with_reducible rfl)
      simp only [Act.put, List.setIfInBounds_toArray, List.set_cons_zero, List.set_cons_succ]
      refine wpAnyH_ready (rs := [6]) (by kernel_rfl) (by simp) ?_
      refine AllReadyH.cons rfl (fun K hK => ?_) AllReadyH.nil
      go_simp
      have b := below_drew w8
      replace HX := hide ((b.block _ (heapLt (unhide HX))).trans (unhide HX))
      replace IK := hide ((unhide IK).later b)
      replace IM := hide ((unhide IM).later b)
      replace PS := hide ((unhide PS).later b)
      replace BW := hide ((unhide BW).trans (b.mono (unhide BW).size))
      replace PX := hide ((unhide PX).later b)
      replace PZ := hide ((unhide PZ).later b)
      replace HF := hide (And.intro ((unhide HF).1.later b) ((unhide HF).2.later b))
      replace HAT := hide ((unhide HAT).keep (b.block bk (unhide HBS)))
      replace HBS := hide (Nat.lt_of_lt_of_le (unhide HBS) b.size)
      clear b
      refine (implText_any _ nm vr _ _ fs ds (unhide HF).1 (unhide HF).2).mono ?_
      rintro e w9 ⟨rfl, b⟩
      rw [← unhide HS]
      replace HX := hide ((b.block _ (heapLt (unhide HX))).trans (unhide HX))
      replace IK := hide ((unhide IK).later b)
      replace IM := hide ((unhide IM).later b)
      replace PS := hide ((unhide PS).later b)
      replace BW := hide ((unhide BW).trans (b.mono (unhide BW).size))
      replace PX := hide ((unhide PX).later b)
      replace PZ := hide ((unhide PZ).later b)
      replace HF := hide (And.intro ((unhide HF).1.later b) ((unhide HF).2.later b))
      replace HAT := hide ((unhide HAT).keep (b.block bk (unhide HBS)))
      replace HBS := hide (Nat.lt_of_lt_of_le (unhide HBS) b.size)
      clear b
      try go_wp2_with fail
      refine hK.out _ _ ?_ (fun hHeldN => ?_)
      · exact ⟨⟨cellOf (unhide HX) 0, cellOf (unhide HX) 1, cellOf (unhide HX) 2, cellOf (unhide HX) 3, cellOf (unhide HX) 4, cellOf (unhide HX) 5, cellOf (unhide HX) 6⟩, unhide HAT⟩
      clear hHeld
      have hHeld := hHeldN
      clear hHeldN
      clear hK K
      try simp only [Act.put, List.setIfInBounds_toArray, List.set_cons_zero, List.set_cons_succ]
      refine wpAnyH_ready (rs := [7]) (by kernel_rfl) (by simp) ?_
      refine AllReadyH.cons rfl (fun K hK => ?_) AllReadyH.nil
      go_simp
      have C1 := hide (fun (W : World) hG h1 h2 h3 => implAdd_any (N := fun _ => True) W ⟨n, ks, d, has, num, til, ms⟩ (.slice ka ks.length kc) (.slice ma ms.length mc) (.slice za L1.length zc) L1 str ev hG h1 h2 h3)
      dsimp only [tvT, tv] at C1
      rw [unhide HB2] at C1
      dsimp only at C1
      refine (unhide C1 _ ((unhide GL).later (unhide BW)) (unhide IK) (unhide IM) (unhide PZ)).mono ?_
      rintro e w10 ⟨u, els2, rfl, hP, hmap, b⟩
      replace HX := hide ((b.block _ (heapLt (unhide HX))).trans (unhide HX))
      replace IK := hide ((unhide IK).later b)
      replace IM := hide ((unhide IM).later b)
      replace PS := hide ((unhide PS).later b)
      replace BW := hide ((unhide BW).trans (b.mono (unhide BW).size))
      replace PX := hide ((unhide PX).later b)
      replace HF := hide (And.intro ((unhide HF).1.later b) ((unhide HF).2.later b))
      replace HAT := hide ((unhide HAT).keep (b.block bk (unhide HBS)))
      replace HBS := hide (Nat.lt_of_lt_of_le (unhide HBS) b.size)
      have hpx := hP.pksA hmap (unhide HSM2)
      obtain ⟨ba, bc, hgv⟩ := hpx.slice
      subst hgv
      have PB := hide (hpx.weak (N' := fun _ => True) (fun _ _ => trivial))
      clear hP hmap hpx b PZ C1
      clear els2
      try go_wp2_with fail
      refine hK.out _ _ ?_ (fun hHeldN => ?_)
      · exact ⟨⟨cellOf (unhide HX) 0, cellOf (unhide HX) 1, cellOf (unhide HX) 2, cellOf (unhide HX) 3, cellOf (unhide HX) 4, cellOf (unhide HX) 5, cellOf (unhide HX) 6⟩, unhide HAT⟩
      clear hHeld
      have hHeld := hHeldN
      clear hHeldN
      clear hK K
      try simp only [Act.put, List.setIfInBounds_toArray, List.set_cons_zero, List.set_cons_succ]
      refine anyH_at (i := 8) (d := some 107) rfl rfl (by kernel_rfl) (by kernel_rfl) (by kernel_rfl) (fun _ _ _ h => h) (by rfl) (v := ?_) ?_ (by assumption) ?_
      rotate_left
      · (intro w hSw; (try dsimp only at hSw); go_simp <;> with_reducible rfl)
      simp only [Act.put, List.setIfInBounds_toArray, List.set_cons_zero, List.set_cons_succ]
      refine anyH_at (i := 9) (d := some 116) rfl rfl (by kernel_rfl) (by kernel_rfl) (by kernel_rfl) (fun _ _ _ h => h) (by rfl) (v := ?_) ?_ (by assumption) ?_
      rotate_left
      · (intro w hSw; (try dsimp only at hSw); go_simp <;> with_reducible rfl)
      simp only [Act.put, List.setIfInBounds_toArray, List.set_cons_zero, List.set_cons_succ]
      refine anyH_at (i := 10) (d := some 117) rfl rfl (by kernel_rfl) (by kernel_rfl) (by kernel_rfl) (fun _ _ _ h => h) (by rfl) (v := ?_) ?_ (by assumption) ?_
      rotate_left
      · (intro w hSw; (try dsimp only at hSw); go_simp <;> with_reducible rfl)
      simp only [Act.put, List.setIfInBounds_toArray, List.set_cons_zero, List.set_cons_succ]
      refine anyH_at (i := 11) (d := some 18) rfl rfl (by kernel_rfl) (by kernel_rfl) (by kernel_rfl) (fun _ _ _ h => h) (by rfl) (v := ?_) ?_ (by assumption) ?_
      rotate_left
      · (intro w hSw; (try dsimp only at hSw); go_simp <;> with_reducible rfl)
      simp only [Act.put, List.setIfInBounds_toArray, List.set_cons_zero, List.set_cons_succ]
      refine anyH_at (i := 12) (d := some 19) rfl rfl (by kernel_rfl) (by kernel_rfl) (by kernel_rfl) (fun _ _ _ h => h) (by rfl) (v := ?_) ?_ (by assumption) ?_
      rotate_left
      · (intro w hSw; (try dsimp only at hSw); go_simp <;> with_reducible rfl)
      simp only [Act.put, List.setIfInBounds_toArray, List.set_cons_zero, List.set_cons_succ]
      refine wpAnyH_done (by kernel_rfl) ?_ _
      clear hHeld
      cases q2
      · have BF := BW
        clear HX IK IM PS PX PB
        go_wp2
        go_ret
        exact ⟨rfl, unhide BF⟩
      obtain rfl : Bl = A := unhide HO3 rfl
      go_wp2_with fail
      refine (luPkgs_same _ _ _ (Bl) (unhide PB) (unhide PX)).mono ?_
      rintro e w11 ⟨rfl, b⟩
      replace BW := hide ((unhide BW).trans (b.mono (unhide BW).size))
      clear b
      clear HX IK IM PS PX PB
      go_wp2
      go_ret
      exact ⟨rfl, unhide BW⟩
end Go.Proofs.YtlnieobmhofkdaaGreatDoor
