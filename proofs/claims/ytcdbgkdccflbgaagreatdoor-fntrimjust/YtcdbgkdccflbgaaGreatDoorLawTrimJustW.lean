import Derived.Test.YtcdbgkdccflbgaaGreatDoorSTrimDrawW
import Derived.Test.YtcdbgkdccflbgaaGreatDoorMix23
import Derived.Test.YtcdbgkdccflbgaaGreatDoorMix26
import Derived.Test.YtcdbgkdccflbgaaGreatDoorMix27
/- The walk of FnTrimJust: it returns true and leaves what was there; for every row of bytes. -/
namespace Go.Proofs.YtcdbgkdccflbgaaGreatDoor
open Go.RowKit

attribute [local go_sem ↓] Go.wp_at_zero Go.wp_at_succ

set_option maxHeartbeats 8000000 in
set_option maxRecDepth 100000 in
theorem trimJust_walk (w : World) (a : Option Addr) (len cap : Nat) (h : Bytes w a len cap) (ev : Addr) (hg : Gl w ev) :
    Calls Tryz.prog 5 #[.slice a len cap] w fun e w' => e = .returned (.bool true) ∧ Below w.heap.size w w' := by
  by_cases hbig : (1048576 : Int) < (len : Int)
  · go_enter Tryz.func5, Tryz.ntmps5
    go_wp2
    go_ret
    exact ⟨rfl, Below.refl _ _⟩
  have CD := hide (drawStoreTrim_any w a len cap h)
  have GL := hide hg
  clear h hg
  go_enter Tryz.func5, Tryz.ntmps5
  go_wp2_with fail
  refine (unhide CD).mono ?_
  rintro e w1 ⟨t, kv, mv, v, s, rfl, hts, b1⟩
  obtain ⟨hks, hms, hsl, hok, hom, hpk⟩ := hts
  obtain ⟨n, ks, d, has, num, til, ms⟩ := t
  dsimp only at hks hms hok hom
  dsimp only [tvT, tv]
  obtain ⟨ka, kc, hkv⟩ := own_formS hok
  obtain ⟨ma, mc, hmv⟩ := own_formS hom
  obtain ⟨sa, sc, hsv⟩ := hpk.slice
  subst hkv hmv hsv
  have b2 := below1 w1 (.cells #[.int .i64 n, .slice ka ks.length kc, .int .i64 d, .bool has, .int .i64 num, .int .i64 til, .slice ma ms.length mc] 30)
  have HX := hide (heap_alloc_new w1 (.cells #[.int .i64 n, .slice ka ks.length kc, .int .i64 d, .bool has, .int .i64 num, .int .i64 til, .slice ma ms.length mc] 30))
  have IK := hide ((OwI.wide hok (by omega)).later b2)
  have IM := hide ((Trs.own hom (by omega)).later b2)
  have PS := hide ((hpk.weak (N' := fun _ => True) (fun _ _ => trivial)).later b2)
  have BW := hide (b1.trans (b2.mono b1.size))
  clear hok hom hpk b1 b2 CD
  have CI := hide (fun (W : World) (v : Value) (l : List Ix.Pg) hG h1 h2 h3 => implTrim_any (N := fun _ => True) W ⟨n, ks, d, has, num, til, ms⟩ (.slice ka ks.length kc) (.slice ma ms.length mc) v l ev hG h1 h2 h3)
  have CS := hide (fun (W : World) (v : Value) (l : List Ix.Pg) h1 h2 h3 => specTrim_any (N := fun _ => True) W ⟨n, ks, d, has, num, til, ms⟩ (.slice ka ks.length kc) (.slice ma ms.length mc) v l h1 h2 h3)
  have CT := hide (fun (W : World) h1 h2 => specTrustOk_any W n d (.slice ka ks.length kc) ks has num til (.slice ma ms.length mc) ms h1 h2)
  dsimp only [tvT, tv] at CI CS CT
  have HSM := hide (Ix.trimA_small ⟨n, ks, d, has, num, til, ms⟩ s)
  obtain ⟨A, hA⟩ : ∃ A, Ix.trimA ⟨n, ks, d, has, num, til, ms⟩ s = A := ⟨_, rfl⟩
  rw [hA] at HSM
  have HA := hide hA
  clear hA
  obtain ⟨x0, x1, x2, x3, x4, x5, x6⟩ : _ ∧ _ ∧ _ ∧ _ ∧ _ ∧ _ ∧ _ := ⟨cellOf (unhide HX) 0, cellOf (unhide HX) 1, cellOf (unhide HX) 2, cellOf (unhide HX) 3, cellOf (unhide HX) 4, cellOf (unhide HX) 5, cellOf (unhide HX) 6⟩
  go_wp2_with fail
  refine (unhide CI _ _ s ((unhide GL).later (unhide BW)) (unhide IK) (unhide IM) (unhide PS)).mono ?_
  generalize hXe : w1.heap.size = X at *
  generalize w1.alloc _ = W2 at *
  clear hXe
  clear w1
  rintro e w3 ⟨u, els, rfl, hP, hmap, b⟩
  rw [unhide HA] at hmap
  replace HX := hide ((b.block _ (heapLt (unhide HX))).trans (unhide HX))
  replace IK := hide ((unhide IK).later b)
  replace IM := hide ((unhide IM).later b)
  replace PS := hide ((unhide PS).later b)
  replace BW := hide ((unhide BW).trans (b.mono (unhide BW).size))
  have hpx := hP.pksA hmap (unhide HSM)
  obtain ⟨ga, gc, hgv⟩ := hpx.slice
  subst hgv
  have PX := hide (hpx.weak (N' := fun _ => True) (fun _ _ => trivial))
  clear hP hmap hpx b x0 x1 x2 x3 x4 x5 x6
  clear els
  obtain ⟨x0, x1, x2, x3, x4, x5, x6⟩ : _ ∧ _ ∧ _ ∧ _ ∧ _ ∧ _ ∧ _ := ⟨cellOf (unhide HX) 0, cellOf (unhide HX) 1, cellOf (unhide HX) 2, cellOf (unhide HX) 3, cellOf (unhide HX) 4, cellOf (unhide HX) 5, cellOf (unhide HX) 6⟩
  go_wp2_with fail
  refine (unhide CS _ _ s (unhide IK) (unhide IM) (unhide PS)).mono ?_
  rintro e w4 ⟨u, els, rfl, ho, hmap, hel, b⟩
  rw [unhide HA] at hmap
  replace HX := hide ((b.block _ (heapLt (unhide HX))).trans (unhide HX))
  replace IK := hide ((unhide IK).later b)
  replace IM := hide ((unhide IM).later b)
  replace PS := hide ((unhide PS).later b)
  replace BW := hide ((unhide BW).trans (b.mono (unhide BW).size))
  replace PX := hide ((unhide PX).later b)
  have hpw := POwn.pks ho (fun _ _ => trivial) (by omega)
  rw [hmap] at hpw
  obtain ⟨wa, wc, hu⟩ := hpw.slice
  subst hu
  have PW := hide hpw
  clear ho hmap hel b hpw x0 x1 x2 x3 x4 x5 x6
  clear els
  have CL := hide (luPkgs_same w4 _ _ A (unhide PX) (unhide PW))
  go_wp2_with fail
  refine (unhide CL).mono ?_
  rintro e w4' ⟨rfl, b⟩
  replace HX := hide ((b.block _ (heapLt (unhide HX))).trans (unhide HX))
  replace IK := hide ((unhide IK).later b)
  replace IM := hide ((unhide IM).later b)
  replace PS := hide ((unhide PS).later b)
  replace BW := hide ((unhide BW).trans (b.mono (unhide BW).size))
  replace PX := hide ((unhide PX).later b)
  clear b CL PW
  obtain ⟨x0, x1, x2, x3, x4, x5, x6⟩ : _ ∧ _ ∧ _ ∧ _ ∧ _ ∧ _ ∧ _ := ⟨cellOf (unhide HX) 0, cellOf (unhide HX) 1, cellOf (unhide HX) 2, cellOf (unhide HX) 3, cellOf (unhide HX) 4, cellOf (unhide HX) 5, cellOf (unhide HX) 6⟩
  go_wp2_with fail
  refine (unhide CT _ (unhide IK) (unhide IM)).mono ?_
  rintro e w5 ⟨rfl, b⟩
  replace HX := hide ((b.block _ (heapLt (unhide HX))).trans (unhide HX))
  replace IK := hide ((unhide IK).later b)
  replace IM := hide ((unhide IM).later b)
  replace PS := hide ((unhide PS).later b)
  replace BW := hide ((unhide BW).trans (b.mono (unhide BW).size))
  replace PX := hide ((unhide PX).later b)
  clear b x0 x1 x2 x3 x4 x5 x6
  cases hO : Tr.ok n ks d has num til ms
  · skip
    obtain ⟨x0, x1, x2, x3, x4, x5, x6⟩ : _ ∧ _ ∧ _ ∧ _ ∧ _ ∧ _ ∧ _ := ⟨cellOf (unhide HX) 0, cellOf (unhide HX) 1, cellOf (unhide HX) 2, cellOf (unhide HX) 3, cellOf (unhide HX) 4, cellOf (unhide HX) 5, cellOf (unhide HX) 6⟩
    go_wp2_with fail
    refine (unhide CS _ _ s (unhide IK) (unhide IM) (unhide PS)).mono ?_
    rintro e w6 ⟨u, els, rfl, ho, hmap, hel, b⟩
    rw [unhide HA] at hmap
    replace HX := hide ((b.block _ (heapLt (unhide HX))).trans (unhide HX))
    replace IK := hide ((unhide IK).later b)
    replace IM := hide ((unhide IM).later b)
    replace PS := hide ((unhide PS).later b)
    replace BW := hide ((unhide BW).trans (b.mono (unhide BW).size))
    replace PX := hide ((unhide PX).later b)
    have hpw := POwn.pks ho (fun _ _ => trivial) (by omega)
    rw [hmap] at hpw
    obtain ⟨wa, wc, hu⟩ := hpw.slice
    subst hu
    have PW := hide hpw
    clear ho hmap hel b hpw x0 x1 x2 x3 x4 x5 x6
    clear els
    have CL := hide (luPkgs_same w6 _ _ A (unhide PX) (unhide PW))
    go_wp2_with fail
    refine (unhide CL).mono ?_
    rintro e w6' ⟨rfl, b⟩
    replace HX := hide ((b.block _ (heapLt (unhide HX))).trans (unhide HX))
    replace IK := hide ((unhide IK).later b)
    replace IM := hide ((unhide IM).later b)
    replace PS := hide ((unhide PS).later b)
    replace BW := hide ((unhide BW).trans (b.mono (unhide BW).size))
    replace PX := hide ((unhide PX).later b)
    clear b CL PW
    have BF := hide (unhide BW)
    clear HX IK IM PS PX
    go_wp2
    go_ret
    exact ⟨rfl, unhide BF⟩
  go_wp2_with fail
  refine (specStoreOk_any _ _ s (unhide PS)).mono ?_
  rintro e w7 ⟨rfl, b⟩
  replace HX := hide ((b.block _ (heapLt (unhide HX))).trans (unhide HX))
  replace IK := hide ((unhide IK).later b)
  replace IM := hide ((unhide IM).later b)
  replace PS := hide ((unhide PS).later b)
  replace BW := hide ((unhide BW).trans (b.mono (unhide BW).size))
  replace PX := hide ((unhide PX).later b)
  clear b
  cases hB : Ix.pkgsOk s
  · skip
    obtain ⟨x0, x1, x2, x3, x4, x5, x6⟩ : _ ∧ _ ∧ _ ∧ _ ∧ _ ∧ _ ∧ _ := ⟨cellOf (unhide HX) 0, cellOf (unhide HX) 1, cellOf (unhide HX) 2, cellOf (unhide HX) 3, cellOf (unhide HX) 4, cellOf (unhide HX) 5, cellOf (unhide HX) 6⟩
    go_wp2_with fail
    refine (unhide CS _ _ s (unhide IK) (unhide IM) (unhide PS)).mono ?_
    rintro e w8 ⟨u, els, rfl, ho, hmap, hel, b⟩
    rw [unhide HA] at hmap
    replace HX := hide ((b.block _ (heapLt (unhide HX))).trans (unhide HX))
    replace IK := hide ((unhide IK).later b)
    replace IM := hide ((unhide IM).later b)
    replace PS := hide ((unhide PS).later b)
    replace BW := hide ((unhide BW).trans (b.mono (unhide BW).size))
    replace PX := hide ((unhide PX).later b)
    have hpw := POwn.pks ho (fun _ _ => trivial) (by omega)
    rw [hmap] at hpw
    obtain ⟨wa, wc, hu⟩ := hpw.slice
    subst hu
    have PW := hide hpw
    clear ho hmap hel b hpw x0 x1 x2 x3 x4 x5 x6
    clear els
    have CL := hide (luPkgs_same w8 _ _ A (unhide PX) (unhide PW))
    go_wp2_with fail
    refine (unhide CL).mono ?_
    rintro e w8' ⟨rfl, b⟩
    replace HX := hide ((b.block _ (heapLt (unhide HX))).trans (unhide HX))
    replace IK := hide ((unhide IK).later b)
    replace IM := hide ((unhide IM).later b)
    replace PS := hide ((unhide PS).later b)
    replace BW := hide ((unhide BW).trans (b.mono (unhide BW).size))
    replace PX := hide ((unhide PX).later b)
    clear b CL PW
    have BF := hide (unhide BW)
    clear HX IK IM PS PX
    go_wp2
    go_ret
    exact ⟨rfl, unhide BF⟩
  have hAe : A = Ix.trim num til ms s := by rw [← unhide HA]; exact Ix.trimA_yes hO hB
  have hAA : Ix.trimA ⟨n, ks, d, has, num, til, ms⟩ A = A := by
    have h2 := Ix.trimA_twice (t := ⟨n, ks, d, has, num, til, ms⟩) hO hB
    rw [unhide HA] at h2
    exact h2
  have HAE := hide hAe
  have HAA := hide hAA
  have HTO : Hid (Tr.T.ok ⟨n, ks, d, has, num, til, ms⟩ = true) := hO
  have HOK := hide hB
  clear hO hB hAe hAA HA
  go_wp2_with fail
  go_loopw [6, 7] (fun kv i w' => ∃ k : Nat, k ≤ s.length ∧ i = .int .i64 k ∧ kv = .int .i64 (Ix.trim num til ms (s.take k)).length ∧ Below w7.heap.size w7 w') (fun _ i _ => s.length - (intOf i).toNat)
  case atStart => exact ⟨0, Nat.zero_le _, rfl, rfl, Below.refl _ _⟩
  case round =>
    obtain ⟨k, hk, rfl, rfl, hw⟩ := hrel
    have HW := hide hw
    clear hw
    by_cases hlt : k < s.length
    · obtain ⟨_, _, e1, hlen, hrow⟩ := unhide PS
      injection e1 with e1 _ e3
      subst e1 e3
      obtain ⟨bk, off, rfl, hbs, _, hc⟩ := hrow (by omega)
      obtain ⟨fv, dv, hAt, hf, hd⟩ := hc k hlt
      clear hc hrow
      have hkept := Ix.has_kept (num := num) (til := til) (ms := ms) (unhide HOK) hlt
      have hsn := Ix.trim_snoc (num := num) (til := til) (ms := ms) hlt
      have htl := Ix.trim_len num til ms s k
      have hat := Ix.trim_at (num := num) (til := til) (ms := ms) hlt
      have hth := Ix.tells_has (t := ⟨n, ks, d, has, num, til, ms⟩) (p := Ix.pg s k) (unhide HTO)
      rw [← unhide HAE] at hat
      obtain ⟨nm, vr, fs, ds, hpk⟩ : ∃ nm vr fs ds, Ix.pg s k = (nm, vr, fs, ds) := ⟨_, _, _, _, rfl⟩
      rw [hpk] at hAt hf hd hkept hsn hat hth
      dsimp only at hf hd hth
      obtain ⟨fa, fc, hfv⟩ := hf.slice
      obtain ⟨da, dc, hdv⟩ := hd.slice
      subst hfv hdv
      have HF := hide (And.intro hf.prs hd.prs)
      have hi0 : (0 : Int) ≤ (k : Int) := Int.natCast_nonneg _
      have hi1 : (k : Int) < (s.length : Int) := by omega
      have hth2 : Hid (Ix.tellsP num til ms (nm, vr, fs, ds) = true → has = true) := hth
      obtain ⟨str, hs⟩ : ∃ str : ByteArray, str = ⟨(Pk.text nm vr fs ds).toArray⟩ := ⟨_, rfl⟩
      have hsd : str.data.toList = Ix.pText (nm, vr, fs, ds) := by rw [hs]; rfl
      have HS := hide hs
      have HKE := hide hkept
      rw [← hsd] at hkept
      have HKB := hide hkept.1
      have HSN := hide hsn
      have HTAT := hide hat
      obtain ⟨tk, htk⟩ : ∃ tk : Nat, (Ix.trim num til ms (s.take k)).length = tk := ⟨_, rfl⟩
      rw [htk] at htl
      have HTK := hide htk
      rw [htk]
      have kk : ∀ w', Below wr.heap.size wr w' → ((w'.cell? ⟨X, 0, none⟩ = some (.int .i64 n) ∧ w'.cell? ⟨X, 3, none⟩ = some (.bool has)) ∧ w'.cell? ⟨X, 4, none⟩ = some (.int .i64 num) ∧ w'.cell? ⟨X, 5, none⟩ = some (.int .i64 til) ∧ w'.cell? ⟨X, 6, none⟩ = some (.slice ma ms.length mc)) ∧ (w'.cell? ⟨bk, off + k * 4, none⟩ = some (.int .i64 nm) ∧ w'.cell? ⟨bk, off + k * 4 + 1, none⟩ = some (.int .i64 vr) ∧ w'.cell? ⟨bk, off + k * 4 + 2, none⟩ = some (.slice fa fs.length fc) ∧ w'.cell? ⟨bk, off + k * 4 + 3, none⟩ = some (.slice da ds.length dc)) := fun w' hw' => by
        have hb := (unhide HW).trans (hw'.mono (unhide HW).size)
        have hx := (hb.block _ (heapLt (unhide HX))).trans (unhide HX)
        exact ⟨⟨⟨cellOf hx 0, cellOf hx 3⟩, cellOf hx 4, cellOf hx 5, cellOf hx 6⟩, hAt.keep (hb.block bk hbs)⟩
      have KK := hide kk
      clear kk hAt hf hd hpk hkept hsn hat hth hs hsd htk
      go_wp2_with fail
      go_cut [8, 9] from 48 to 58 (fun y o wx => ∃ (Xb : Nat), y = .pointer (some ⟨Xb, 0, none⟩) ∧ o = .bool (Ix.hasB num til ms str.data.toList) ∧ Below wr.heap.size wr wx)
      case first =>
        refine wp_region_held_drew (S := fun w' => ((w'.cell? ⟨X, 0, none⟩ = some (.int .i64 n) ∧ w'.cell? ⟨X, 3, none⟩ = some (.bool has)) ∧ w'.cell? ⟨X, 4, none⟩ = some (.int .i64 num) ∧ w'.cell? ⟨X, 5, none⟩ = some (.int .i64 til) ∧ w'.cell? ⟨X, 6, none⟩ = some (.slice ma ms.length mc)) ∧ (w'.cell? ⟨bk, off + k * 4, none⟩ = some (.int .i64 nm) ∧ w'.cell? ⟨bk, off + k * 4 + 1, none⟩ = some (.int .i64 vr) ∧ w'.cell? ⟨bk, off + k * 4 + 2, none⟩ = some (.slice fa fs.length fc) ∧ w'.cell? ⟨bk, off + k * 4 + 3, none⟩ = some (.slice da ds.length dc))) (by kernel_rfl) (by exact unhide KK _ (below_drew wr)) (fun hHeld => ?_)
        refine anyH_at (i := 0) (d := some 49) rfl rfl (by kernel_rfl) (by kernel_rfl) (by kernel_rfl) (fun _ _ _ h => h) (by rfl) (v := ?_) ?_ (by assumption) ?_
        rotate_left
        · (intro w hSw; (try dsimp only at hSw); go_simp <;> with_reducible rfl)
        simp only [Act.put, List.setIfInBounds_toArray, List.set_cons_zero, List.set_cons_succ]
        refine anyH_at (i := 1) (d := some 50) rfl rfl (by kernel_rfl) (by kernel_rfl) (by kernel_rfl) (fun _ _ _ h => h) (by rfl) (v := ?_) ?_ (by assumption) ?_
        rotate_left
        · (intro w hSw; (try dsimp only at hSw); go_simp <;> with_reducible rfl)
        simp only [Act.put, List.setIfInBounds_toArray, List.set_cons_zero, List.set_cons_succ]
        refine anyH_at (i := 2) (d := some 51) rfl rfl (by kernel_rfl) (by kernel_rfl) (by kernel_rfl) (fun _ _ _ h => h) (by rfl) (v := ?_) ?_ (by assumption) ?_
        rotate_left
        · (intro w hSw; (try dsimp only at hSw); go_simp <;> with_reducible rfl)
        simp only [Act.put, List.setIfInBounds_toArray, List.set_cons_zero, List.set_cons_succ]
        refine anyH_at (i := 3) (d := some 52) rfl rfl (by kernel_rfl) (by kernel_rfl) (by kernel_rfl) (fun _ _ _ h => h) (by rfl) (v := ?_) ?_ (by assumption) ?_
        rotate_left
        · (intro w hSw; (try dsimp only at hSw); go_simp <;> with_reducible rfl)
        simp only [Act.put, List.setIfInBounds_toArray, List.set_cons_zero, List.set_cons_succ]
        refine anyH_at (i := 4) (d := some 53) rfl rfl (by kernel_rfl) (by kernel_rfl) (by kernel_rfl) (fun _ _ _ h => h) (by rfl) (v := ?_) ?_ (by assumption) ?_
        rotate_left
        · (intro w hSw; (try dsimp only at hSw); go_simp <;> with_reducible rfl)
        simp only [Act.put, List.setIfInBounds_toArray, List.set_cons_zero, List.set_cons_succ]
        refine anyH_at (i := 5) (d := some 54) rfl rfl (by kernel_rfl) (by kernel_rfl) (by kernel_rfl) (fun _ _ _ h => h) (by rfl) (v := ?_) ?_ (by assumption) ?_
        rotate_left
        · (intro w hSw; (try dsimp only at hSw); go_simp <;> with_reducible rfl)
        simp only [Act.put, List.setIfInBounds_toArray, List.set_cons_zero, List.set_cons_succ]
        have DD : Hid (Below wr.heap.size wr wr.drew) := below_drew wr
        refine wpAnyH_ready (rs := [6, 11]) (by kernel_rfl) (by simp) ?_
        refine AllReadyH.cons rfl (fun K hK => ?_) (AllReadyH.cons rfl (fun K hK => ?_) AllReadyH.nil)
        rotate_left
        · go_simp
          have HBX : Hid ((wr.drew.alloc (.cells #[.int .i64 0, .int .i64 0, .slice none 0 0, .slice none 0 0] 42)).heap[wr.heap.size]? = _) := heap_alloc_new wr.drew (.cells #[.int .i64 0, .int .i64 0, .slice none 0 0, .slice none 0 0] 42)
          have LOX : Hid (wr.heap.size ≤ wr.heap.size) := (unhide DD).size
          have bX := below1 wr.drew (.cells #[.int .i64 0, .int .i64 0, .slice none 0 0, .slice none 0 0] 42)
          replace DD := hide ((unhide DD).trans (bX.mono (unhide DD).size))
          clear bX
          refine hK.out _ _ ?_ (fun hHeldN => ?_)
          · exact unhide KK _ (unhide DD)
          clear hHeld
          have hHeld := hHeldN
          clear hHeldN
          clear hK K
          try simp only [Act.put, List.setIfInBounds_toArray, List.set_cons_zero, List.set_cons_succ]
          refine wpAnyH_ready (rs := [6]) (by kernel_rfl) (by simp) ?_
          refine AllReadyH.cons rfl (fun K hK => ?_) AllReadyH.nil
          go_simp
          have LP := hide (unhide DD).size
          refine (implText_any _ nm vr _ _ fs ds ((unhide HF).1.later ((unhide HW).trans ((unhide DD).mono (unhide HW).size))) ((unhide HF).2.later ((unhide HW).trans ((unhide DD).mono (unhide HW).size)))).mono ?_
          rintro e u1 ⟨rfl, b⟩
          replace DD := hide ((unhide DD).trans (b.mono (unhide DD).size))
          replace HBX := hide ((b.block _ (heapLt (unhide HBX))).trans (unhide HBX))
          rw [← unhide HS]
          clear b LP
          go_wp2_with fail
          refine hK.out _ _ ?_ (fun hHeldN => ?_)
          · exact unhide KK _ (unhide DD)
          clear hHeld
          have hHeld := hHeldN
          clear hHeldN
          clear hK K
          try simp only [Act.put, List.setIfInBounds_toArray, List.set_cons_zero, List.set_cons_succ]
          refine wpAnyH_ready (rs := [7]) (by kernel_rfl) (by simp) ?_
          refine AllReadyH.cons rfl (fun K hK => ?_) AllReadyH.nil
          go_simp
          have LP := hide (unhide DD).size
          refine (implHas_any _ num til _ ms str ev ((unhide GL).later ((unhide BW).trans (((unhide HW).trans ((unhide DD).mono (unhide HW).size)).mono (unhide BW).size))) ((unhide IM).later ((unhide HW).trans ((unhide DD).mono (unhide HW).size)))).mono ?_
          rintro e u2 ⟨fv2, dv2, rfl, hf2, hd2, b⟩
          replace DD := hide ((unhide DD).trans (b.mono (unhide DD).size))
          replace HBX := hide ((b.block _ (heapLt (unhide HBX))).trans (unhide HBX))
          obtain ⟨fa2, fc2, rfl⟩ := own_form hf2
          obtain ⟨da2, dc2, rfl⟩ := own_form hd2
          have LO2 := LP
          have OF := hide (own2_base hf2 (unhide LO2))
          have OD := hide (own2_base hd2 (unhide LO2))
          clear hf2 hd2 LO2
          clear b LP
          go_wp2_with fail
          refine hK.out _ _ ?_ (fun hHeldN => ?_)
          · exact unhide KK _ (unhide DD)
          clear hHeld
          have hHeld := hHeldN
          clear hHeldN
          clear hK K
          try simp only [Act.put, List.setIfInBounds_toArray, List.set_cons_zero, List.set_cons_succ]
          refine anyH_at (i := 8) (d := some 48) rfl rfl (by kernel_rfl) (by kernel_rfl) (by kernel_rfl) (fun _ _ _ h => h) (by rfl) (v := ?_) ?_ (by assumption) ?_
          rotate_left
          · (intro w hSw; (try dsimp only at hSw); go_simp <;> with_reducible rfl)
          simp only [Act.put, List.setIfInBounds_toArray, List.set_cons_zero, List.set_cons_succ]
          refine anyH_at (i := 9) (d := some 57) rfl rfl (by kernel_rfl) (by kernel_rfl) (by kernel_rfl) (fun _ _ _ h => h) (by rfl) (v := ?_) ?_ (by assumption) ?_
          rotate_left
          · (intro w hSw; (try dsimp only at hSw); go_simp <;> with_reducible rfl)
          simp only [Act.put, List.setIfInBounds_toArray, List.set_cons_zero, List.set_cons_succ]
          refine anyH_at (i := 10) (d := some 58) rfl rfl (by kernel_rfl) (by kernel_rfl) (by kernel_rfl) (fun _ _ _ h => h) (by rfl) (v := ?_) ?_ (by assumption) ?_
          rotate_left
          · (intro w hSw; (try dsimp only at hSw); go_simp <;> with_reducible rfl)
          simp only [Act.put, List.setIfInBounds_toArray, List.set_cons_zero, List.set_cons_succ]
          refine wpAnyH_ready (rs := [12]) (by kernel_rfl) (by simp) ?_
          refine AllReadyH.cons rfl (fun K hK => ?_) AllReadyH.nil
          obtain ⟨⟨r0, r1, r2, r3⟩, ⟨q0, q1, q2, q3⟩⟩ := box_cells (unhide HBX)
          go_simp
          obtain ⟨hBX, hOF, hOD, hBB⟩ := pkg_fill (unhide HBX) (unhide OF) (unhide OD) (unhide DD) (unhide LOX) rfl
          refine hK.out _ _ ?_ (fun hHeldN => ?_)
          · exact unhide KK _ hBB
          clear hHeld
          have hHeld := hHeldN
          clear hHeldN
          clear hK K
          try simp only [Act.put, List.setIfInBounds_toArray, List.set_cons_zero, List.set_cons_succ]
          refine anyH_at (i := 13) (d := some 9) rfl rfl (by kernel_rfl) (by kernel_rfl) (by kernel_rfl) (fun _ _ _ h => h) (by rfl) (v := ?_) ?_ (by assumption) ?_
          rotate_left
          · (intro w hSw; (try dsimp only at hSw); go_simp <;> with_reducible rfl)
          simp only [Act.put, List.setIfInBounds_toArray, List.set_cons_zero, List.set_cons_succ]
          refine wpAnyH_done (by kernel_rfl) ?_ _
          go_wp2_with fail
          go_meet
          exact ⟨_, rfl, rfl, hBB⟩
        go_simp
        have LP := hide (unhide DD).size
        refine (implText_any _ nm vr _ _ fs ds ((unhide HF).1.later ((unhide HW).trans ((unhide DD).mono (unhide HW).size))) ((unhide HF).2.later ((unhide HW).trans ((unhide DD).mono (unhide HW).size)))).mono ?_
        rintro e u1 ⟨rfl, b⟩
        replace DD := hide ((unhide DD).trans (b.mono (unhide DD).size))
        rw [← unhide HS]
        clear b LP
        go_wp2_with fail
        refine hK.out _ _ ?_ (fun hHeldN => ?_)
        · exact unhide KK _ (unhide DD)
        clear hHeld
        have hHeld := hHeldN
        clear hHeldN
        clear hK K
        try simp only [Act.put, List.setIfInBounds_toArray, List.set_cons_zero, List.set_cons_succ]
        refine wpAnyH_ready (rs := [7, 11]) (by kernel_rfl) (by simp) ?_
        refine AllReadyH.cons rfl (fun K hK => ?_) (AllReadyH.cons rfl (fun K hK => ?_) AllReadyH.nil)
        rotate_left
        · go_simp
          have HBX := hide (heap_alloc_new u1 (.cells #[.int .i64 0, .int .i64 0, .slice none 0 0, .slice none 0 0] 42))
          have LOX : Hid (wr.heap.size ≤ u1.heap.size) := (unhide DD).size
          have bX := below1 u1 (.cells #[.int .i64 0, .int .i64 0, .slice none 0 0, .slice none 0 0] 42)
          replace DD := hide ((unhide DD).trans (bX.mono (unhide DD).size))
          clear bX
          refine hK.out _ _ ?_ (fun hHeldN => ?_)
          · exact unhide KK _ (unhide DD)
          clear hHeld
          have hHeld := hHeldN
          clear hHeldN
          clear hK K
          try simp only [Act.put, List.setIfInBounds_toArray, List.set_cons_zero, List.set_cons_succ]
          generalize hXb : u1.heap.size = Xb at *
          clear hXb
          refine wpAnyH_ready (rs := [7]) (by kernel_rfl) (by simp) ?_
          refine AllReadyH.cons rfl (fun K hK => ?_) AllReadyH.nil
          go_simp
          have LP := hide (unhide DD).size
          refine (implHas_any _ num til _ ms str ev ((unhide GL).later ((unhide BW).trans (((unhide HW).trans ((unhide DD).mono (unhide HW).size)).mono (unhide BW).size))) ((unhide IM).later ((unhide HW).trans ((unhide DD).mono (unhide HW).size)))).mono ?_
          rintro e u2 ⟨fv2, dv2, rfl, hf2, hd2, b⟩
          replace DD := hide ((unhide DD).trans (b.mono (unhide DD).size))
          replace HBX := hide ((b.block _ (heapLt (unhide HBX))).trans (unhide HBX))
          obtain ⟨fa2, fc2, rfl⟩ := own_form hf2
          obtain ⟨da2, dc2, rfl⟩ := own_form hd2
          have LO2 := LP
          have OF := hide (own2_base hf2 (unhide LO2))
          have OD := hide (own2_base hd2 (unhide LO2))
          clear hf2 hd2 LO2
          clear b LP
          go_wp2_with fail
          refine hK.out _ _ ?_ (fun hHeldN => ?_)
          · exact unhide KK _ (unhide DD)
          clear hHeld
          have hHeld := hHeldN
          clear hHeldN
          clear hK K
          try simp only [Act.put, List.setIfInBounds_toArray, List.set_cons_zero, List.set_cons_succ]
          refine anyH_at (i := 8) (d := some 48) rfl rfl (by kernel_rfl) (by kernel_rfl) (by kernel_rfl) (fun _ _ _ h => h) (by rfl) (v := ?_) ?_ (by assumption) ?_
          rotate_left
          · (intro w hSw; (try dsimp only at hSw); go_simp <;> with_reducible rfl)
          simp only [Act.put, List.setIfInBounds_toArray, List.set_cons_zero, List.set_cons_succ]
          refine anyH_at (i := 9) (d := some 57) rfl rfl (by kernel_rfl) (by kernel_rfl) (by kernel_rfl) (fun _ _ _ h => h) (by rfl) (v := ?_) ?_ (by assumption) ?_
          rotate_left
          · (intro w hSw; (try dsimp only at hSw); go_simp <;> with_reducible rfl)
          simp only [Act.put, List.setIfInBounds_toArray, List.set_cons_zero, List.set_cons_succ]
          refine anyH_at (i := 10) (d := some 58) rfl rfl (by kernel_rfl) (by kernel_rfl) (by kernel_rfl) (fun _ _ _ h => h) (by rfl) (v := ?_) ?_ (by assumption) ?_
          rotate_left
          · (intro w hSw; (try dsimp only at hSw); go_simp <;> with_reducible rfl)
          simp only [Act.put, List.setIfInBounds_toArray, List.set_cons_zero, List.set_cons_succ]
          refine wpAnyH_ready (rs := [12]) (by kernel_rfl) (by simp) ?_
          refine AllReadyH.cons rfl (fun K hK => ?_) AllReadyH.nil
          obtain ⟨⟨r0, r1, r2, r3⟩, ⟨q0, q1, q2, q3⟩⟩ := box_cells (unhide HBX)
          go_simp
          obtain ⟨hBX, hOF, hOD, hBB⟩ := pkg_fill (unhide HBX) (unhide OF) (unhide OD) (unhide DD) (unhide LOX) rfl
          refine hK.out _ _ ?_ (fun hHeldN => ?_)
          · exact unhide KK _ hBB
          clear hHeld
          have hHeld := hHeldN
          clear hHeldN
          clear hK K
          try simp only [Act.put, List.setIfInBounds_toArray, List.set_cons_zero, List.set_cons_succ]
          refine anyH_at (i := 13) (d := some 9) rfl rfl (by kernel_rfl) (by kernel_rfl) (by kernel_rfl) (fun _ _ _ h => h) (by rfl) (v := ?_) ?_ (by assumption) ?_
          rotate_left
          · (intro w hSw; (try dsimp only at hSw); go_simp <;> with_reducible rfl)
          simp only [Act.put, List.setIfInBounds_toArray, List.set_cons_zero, List.set_cons_succ]
          refine wpAnyH_done (by kernel_rfl) ?_ _
          go_wp2_with fail
          go_meet
          exact ⟨_, rfl, rfl, hBB⟩
        go_simp
        have LP := hide (unhide DD).size
        refine (implHas_any _ num til _ ms str ev ((unhide GL).later ((unhide BW).trans (((unhide HW).trans ((unhide DD).mono (unhide HW).size)).mono (unhide BW).size))) ((unhide IM).later ((unhide HW).trans ((unhide DD).mono (unhide HW).size)))).mono ?_
        rintro e u2 ⟨fv2, dv2, rfl, hf2, hd2, b⟩
        replace DD := hide ((unhide DD).trans (b.mono (unhide DD).size))
        obtain ⟨fa2, fc2, rfl⟩ := own_form hf2
        obtain ⟨da2, dc2, rfl⟩ := own_form hd2
        have LO2 := LP
        have OF := hide (own2_base hf2 (unhide LO2))
        have OD := hide (own2_base hd2 (unhide LO2))
        clear hf2 hd2 LO2
        clear b LP
        go_wp2_with fail
        refine hK.out _ _ ?_ (fun hHeldN => ?_)
        · exact unhide KK _ (unhide DD)
        clear hHeld
        have hHeld := hHeldN
        clear hHeldN
        clear hK K
        try simp only [Act.put, List.setIfInBounds_toArray, List.set_cons_zero, List.set_cons_succ]
        refine anyH_at (i := 8) (d := some 48) rfl rfl (by kernel_rfl) (by kernel_rfl) (by kernel_rfl) (fun _ _ _ h => h) (by rfl) (v := ?_) ?_ (by assumption) ?_
        rotate_left
        · (intro w hSw; (try dsimp only at hSw); go_simp <;> with_reducible rfl)
        simp only [Act.put, List.setIfInBounds_toArray, List.set_cons_zero, List.set_cons_succ]
        refine anyH_at (i := 9) (d := some 57) rfl rfl (by kernel_rfl) (by kernel_rfl) (by kernel_rfl) (fun _ _ _ h => h) (by rfl) (v := ?_) ?_ (by assumption) ?_
        rotate_left
        · (intro w hSw; (try dsimp only at hSw); go_simp <;> with_reducible rfl)
        simp only [Act.put, List.setIfInBounds_toArray, List.set_cons_zero, List.set_cons_succ]
        refine anyH_at (i := 10) (d := some 58) rfl rfl (by kernel_rfl) (by kernel_rfl) (by kernel_rfl) (fun _ _ _ h => h) (by rfl) (v := ?_) ?_ (by assumption) ?_
        rotate_left
        · (intro w hSw; (try dsimp only at hSw); go_simp <;> with_reducible rfl)
        simp only [Act.put, List.setIfInBounds_toArray, List.set_cons_zero, List.set_cons_succ]
        refine wpAnyH_ready (rs := [11]) (by kernel_rfl) (by simp) ?_
        refine AllReadyH.cons rfl (fun K hK => ?_) AllReadyH.nil
        go_simp
        have HBX := hide (heap_alloc_new u2 (.cells #[.int .i64 0, .int .i64 0, .slice none 0 0, .slice none 0 0] 42))
        have LOX : Hid (wr.heap.size ≤ u2.heap.size) := (unhide DD).size
        have bX := below1 u2 (.cells #[.int .i64 0, .int .i64 0, .slice none 0 0, .slice none 0 0] 42)
        replace DD := hide ((unhide DD).trans (bX.mono (unhide DD).size))
        replace OF := hide (own2_later (unhide OF) bX)
        replace OD := hide (own2_later (unhide OD) bX)
        clear bX
        refine hK.out _ _ ?_ (fun hHeldN => ?_)
        · exact unhide KK _ (unhide DD)
        clear hHeld
        have hHeld := hHeldN
        clear hHeldN
        clear hK K
        try simp only [Act.put, List.setIfInBounds_toArray, List.set_cons_zero, List.set_cons_succ]
        generalize hXb : u2.heap.size = Xb at *
        clear hXb
        refine wpAnyH_ready (rs := [12]) (by kernel_rfl) (by simp) ?_
        refine AllReadyH.cons rfl (fun K hK => ?_) AllReadyH.nil
        obtain ⟨⟨r0, r1, r2, r3⟩, ⟨q0, q1, q2, q3⟩⟩ := box_cells (unhide HBX)
        go_simp
        obtain ⟨hBX, hOF, hOD, hBB⟩ := pkg_fill (unhide HBX) (unhide OF) (unhide OD) (unhide DD) (unhide LOX) rfl
        refine hK.out _ _ ?_ (fun hHeldN => ?_)
        · exact unhide KK _ hBB
        clear hHeld
        have hHeld := hHeldN
        clear hHeldN
        clear hK K
        try simp only [Act.put, List.setIfInBounds_toArray, List.set_cons_zero, List.set_cons_succ]
        refine anyH_at (i := 13) (d := some 9) rfl rfl (by kernel_rfl) (by kernel_rfl) (by kernel_rfl) (fun _ _ _ h => h) (by rfl) (v := ?_) ?_ (by assumption) ?_
        rotate_left
        · (intro w hSw; (try dsimp only at hSw); go_simp <;> with_reducible rfl)
        simp only [Act.put, List.setIfInBounds_toArray, List.set_cons_zero, List.set_cons_succ]
        refine wpAnyH_done (by kernel_rfl) ?_ _
        go_wp2_with fail
        go_meet
        exact ⟨_, rfl, rfl, hBB⟩
      case rest =>
        obtain ⟨Xb, rfl, rfl, hb2⟩ := hcut
        have HW2 := hide ((unhide HW).trans (hb2.mono (unhide HW).size))
        rw [unhide HKB]
        obtain ⟨⟨⟨_, c3⟩, _⟩, _⟩ := unhide KK _ hb2
        cases hTP : Ix.tellsP num til ms (nm, vr, fs, ds)
        · have hsn := unhide HSN
          rw [if_neg (by rw [hTP]; simp)] at hsn
          have HSN2 := hide hsn
          clear hsn hTP hb2
          go_wp2
          go_roundw
          case rel => exact ⟨k + 1, by omega, by go_num, by rw [unhide HSN2, unhide HTK], unhide HW2⟩
          case measure => simp [intOf]; omega
        · have hh : has = true := unhide hth2 hTP
          rw [hh] at c3
          have hsn := unhide HSN
          rw [if_pos hTP] at hsn
          have HSN2 := hide hsn
          obtain ⟨hti, htp⟩ := unhide HTAT hTP
          rw [unhide HTK] at hti htp
          obtain ⟨_, _, e1, hlenx, hrowx⟩ := unhide PX
          injection e1 with e1 _ e3
          subst e1 e3
          obtain ⟨bx, offx, rfl, hbx, _, hcx⟩ := hrowx (by omega)
          obtain ⟨fv3, dv3, hAt3, hf3, hd3⟩ := hcx tk hti
          rw [htp] at hAt3 hf3 hd3
          dsimp only at hf3 hd3
          obtain ⟨fa3, fc3, hfv⟩ := hf3.slice
          obtain ⟨da3, dc3, hdv⟩ := hd3.slice
          subst hfv hdv
          have HF3 := hide (And.intro hf3.prs hd3.prs)
          have hj0 : (0 : Int) ≤ (tk : Int) := Int.natCast_nonneg _
          have hj1 : (tk : Int) < (A.length : Int) := by omega
          have k2 : ∀ w', Below wc.heap.size wc w' → (w'.cell? ⟨bx, offx + tk * 4, none⟩ = some (.int .i64 nm) ∧ w'.cell? ⟨bx, offx + tk * 4 + 1, none⟩ = some (.int .i64 vr) ∧ w'.cell? ⟨bx, offx + tk * 4 + 2, none⟩ = some (.slice fa3 fs.length fc3) ∧ w'.cell? ⟨bx, offx + tk * 4 + 3, none⟩ = some (.slice da3 ds.length dc3)) ∧ (w'.cell? ⟨bk, off + k * 4, none⟩ = some (.int .i64 nm) ∧ w'.cell? ⟨bk, off + k * 4 + 1, none⟩ = some (.int .i64 vr) ∧ w'.cell? ⟨bk, off + k * 4 + 2, none⟩ = some (.slice fa fs.length fc) ∧ w'.cell? ⟨bk, off + k * 4 + 3, none⟩ = some (.slice da ds.length dc)) := fun w' hw' => by
            have hb := (unhide HW2).trans (hw'.mono (unhide HW2).size)
            exact ⟨hAt3.keep (hb.block bx hbx), (unhide KK _ (hb2.trans (hw'.mono hb2.size))).2⟩
          have hsame : same nm vr nm vr fs ds fs ds = true := same_yes ⟨rfl, rfl, rfl, rfl⟩
          have cP : ∀ w', Below wc.heap.size wc w' → Calls Tryz.prog 24 #[.agg #[.int .i64 nm, .int .i64 vr, .slice fa3 fs.length fc3, .slice da3 ds.length dc3], .agg #[.int .i64 nm, .int .i64 vr, .slice fa fs.length fc, .slice da ds.length dc]] w' fun e w'' => e = .returned (.bool true) ∧ Below wc.heap.size wc w'' := fun w' hw' => by
            have hB := (unhide HW2).trans (hw'.mono (unhide HW2).size)
            refine (lu_any w' nm vr nm vr _ _ _ _ fs ds fs ds ((unhide HF3).1.later hB) ((unhide HF3).2.later hB) ((unhide HF).1.later hB) ((unhide HF).2.later hB)).mono ?_
            rintro e w'' ⟨he, hb⟩
            exact ⟨by rw [he, hsame], hw'.trans (hb.mono hw'.size)⟩
          have K2 := hide k2
          have CP := hide cP
          clear k2 cP hAt3 hf3 hd3 hcx hrowx hsame hsn hb2 hti htp hh
          go_wp2_with fail
          refine wq_region (by kernel_rfl) (by kernel_rfl) ?_
          refine wq_move (d := some 64) rfl rfl (by rfl) rfl ?_
          simp only [Act.put, List.setIfInBounds_toArray, List.set_cons_zero, List.set_cons_succ, List.getElem_toArray, List.getElem_cons_zero, List.getElem_cons_succ]
          refine wq_move (d := some 65) rfl rfl (by rfl) rfl ?_
          simp only [Act.put, List.setIfInBounds_toArray, List.set_cons_zero, List.set_cons_succ, List.getElem_toArray, List.getElem_cons_zero, List.getElem_cons_succ]
          refine wq_take (d := some 66) rfl (by rfl) (v := ?_) ?_ ?_
          rotate_left
          · (intro w hCw; have hKw := (unhide K2) w hCw; go_simp <;> with_reducible rfl)
          simp only [Act.put, List.setIfInBounds_toArray, List.set_cons_zero, List.set_cons_succ]
          refine wq_take (d := some 67) rfl (by rfl) (v := (.bool false)) ?_ ?_
          · (intro w hCw; go_simp <;> omega)
          simp only [Act.put, List.setIfInBounds_toArray, List.set_cons_zero, List.set_cons_succ]
          refine wq_move (d := some 68) rfl rfl (by rfl) rfl ?_
          simp only [Act.put, List.setIfInBounds_toArray, List.set_cons_zero, List.set_cons_succ, List.getElem_toArray, List.getElem_cons_zero, List.getElem_cons_succ]
          refine wq_take (d := some 69) rfl (by rfl) (v := ?_) ?_ ?_
          rotate_left
          · (intro w hCw; have hKw := (unhide K2) w hCw; go_simp <;> with_reducible rfl)
          simp only [Act.put, List.setIfInBounds_toArray, List.set_cons_zero, List.set_cons_succ]
          refine wq_take (d := some 70) rfl (by rfl) (v := ?_) ?_ ?_
          rotate_left
          · (intro w hCw; have hKw := (unhide K2) w hCw; go_simp <;> with_reducible rfl)
          simp only [Act.put, List.setIfInBounds_toArray, List.set_cons_zero, List.set_cons_succ]
          refine wq_take (d := some 71) rfl (by rfl) (v := ?_) ?_ ?_
          rotate_left
          · (intro w hCw; have hKw := (unhide K2) w hCw; go_simp <;> with_reducible rfl)
          simp only [Act.put, List.setIfInBounds_toArray, List.set_cons_zero, List.set_cons_succ]
          refine wq_take (d := some 72) rfl (by rfl) (v := ?_) ?_ ?_
          rotate_left
          · (intro w hCw; have hKw := (unhide K2) w hCw; go_simp <;> with_reducible rfl)
          simp only [Act.put, List.setIfInBounds_toArray, List.set_cons_zero, List.set_cons_succ]
          refine wq_take (d := some 73) rfl (by rfl) (v := ?_) ?_ ?_
          rotate_left
          · (intro w hCw; have hKw := (unhide K2) w hCw; go_simp <;> with_reducible rfl)
          simp only [Act.put, List.setIfInBounds_toArray, List.set_cons_zero, List.set_cons_succ]
          refine wq_take (d := some 74) rfl (by rfl) (v := ?_) ?_ ?_
          rotate_left
          · (intro w hCw; have hKw := (unhide K2) w hCw; go_simp <;> with_reducible rfl)
          simp only [Act.put, List.setIfInBounds_toArray, List.set_cons_zero, List.set_cons_succ]
          refine wq_take (d := some 75) rfl (by rfl) (v := ?_) ?_ ?_
          rotate_left
          · (intro w hCw; have hKw := (unhide K2) w hCw; go_simp <;> with_reducible rfl)
          simp only [Act.put, List.setIfInBounds_toArray, List.set_cons_zero, List.set_cons_succ]
          refine wq_take (d := some 76) rfl (by rfl) (v := ?_) ?_ ?_
          rotate_left
          · (intro w hCw; have hKw := (unhide K2) w hCw; go_simp <;> with_reducible rfl)
          simp only [Act.put, List.setIfInBounds_toArray, List.set_cons_zero, List.set_cons_succ]
          refine wq_call (d := some 77) rfl (by rfl) (hc := (unhide CP)) ?_ ?_
          · (intro w hCw; go_simp)
          simp only [Act.put, List.setIfInBounds_toArray, List.set_cons_zero, List.set_cons_succ]
          refine wq_take (d := some 78) rfl (by rfl) (v := ?_) ?_ ?_
          rotate_left
          · (intro w hCw; have hKw := (unhide K2) w hCw; go_simp <;> with_reducible rfl)
          simp only [Act.put, List.setIfInBounds_toArray, List.set_cons_zero, List.set_cons_succ]
          refine wq_take (d := some 79) rfl (by rfl) (v := ?_) ?_ ?_
          rotate_left
          · (intro w hCw; have hKw := (unhide K2) w hCw; go_simp <;> with_reducible rfl)
          simp only [Act.put, List.setIfInBounds_toArray, List.set_cons_zero, List.set_cons_succ]
          refine wq_nil ?_
          intro w9 hw9
          go_wp2
          go_roundw
          case rel => exact ⟨k + 1, by omega, by go_num, by rw [unhide HSN2, List.length_append, unhide HTK]; rfl, (unhide HW2).trans (hw9.mono (unhide HW2).size)⟩
          case measure => simp [intOf]; omega
    · obtain rfl : k = s.length := by omega
      rw [List.take_of_length_le (Nat.le_refl _), ← unhide HAE]
      have hb := unhide HW
      clear hlt
      replace HX := hide ((hb.block _ (heapLt (unhide HX))).trans (unhide HX))
      replace IK := hide ((unhide IK).later hb)
      replace IM := hide ((unhide IM).later hb)
      replace PS := hide ((unhide PS).later hb)
      replace BW := hide ((unhide BW).trans (hb.mono (unhide BW).size))
      replace PX := hide ((unhide PX).later hb)
      clear hb HW
      obtain ⟨x0, x1, x2, x3, x4, x5, x6⟩ : _ ∧ _ ∧ _ ∧ _ ∧ _ ∧ _ ∧ _ := ⟨cellOf (unhide HX) 0, cellOf (unhide HX) 1, cellOf (unhide HX) 2, cellOf (unhide HX) 3, cellOf (unhide HX) 4, cellOf (unhide HX) 5, cellOf (unhide HX) 6⟩
      have e85 : ((A.length : Int) == (A.length : Int)) = true := by simp
      go_wp2_with fail
      refine (unhide CI _ _ A ((unhide GL).later (unhide BW)) (unhide IK) (unhide IM) (unhide PX)).mono ?_
      rintro e w8 ⟨u, els, rfl, hP, hmap, b⟩
      rw [unhide HAA] at hmap
      replace HX := hide ((b.block _ (heapLt (unhide HX))).trans (unhide HX))
      replace IK := hide ((unhide IK).later b)
      replace IM := hide ((unhide IM).later b)
      replace PS := hide ((unhide PS).later b)
      replace BW := hide ((unhide BW).trans (b.mono (unhide BW).size))
      replace PX := hide ((unhide PX).later b)
      have hpx := hP.pksA hmap (unhide HSM)
      obtain ⟨ya, yc, hyv⟩ := hpx.slice
      subst hyv
      have CL := hide (luPkgs_same w8 _ _ A hpx (unhide PX))
      clear hP hmap hpx b x0 x1 x2 x3 x4 x5 x6
      clear els
      go_wp2_with fail
      refine (unhide CL).mono ?_
      rintro e w9 ⟨rfl, b⟩
      replace HX := hide ((b.block _ (heapLt (unhide HX))).trans (unhide HX))
      replace IK := hide ((unhide IK).later b)
      replace IM := hide ((unhide IM).later b)
      replace PS := hide ((unhide PS).later b)
      replace BW := hide ((unhide BW).trans (b.mono (unhide BW).size))
      replace PX := hide ((unhide PX).later b)
      clear b CL
      have c3 := cellOf (unhide HX) 3
      cases hh : has
      · rw [hh] at c3
        have hnil : A = [] := by rw [unhide HAE]; exact Ix.trim_none (t := ⟨n, ks, d, has, num, til, ms⟩) (unhide HTO) hh s
        have e99 : ((A.length : Int) == 0) = true := by rw [hnil]; rfl
        have BF := hide (unhide BW)
        clear HX IK IM PS PX hnil
        go_wp2
        go_ret
        exact ⟨rfl, unhide BF⟩
      · rw [hh] at c3
        have BF := hide (unhide BW)
        clear HX IK IM PS PX
        go_wp2
        go_ret
        exact ⟨rfl, unhide BF⟩
end Go.Proofs.YtcdbgkdccflbgaaGreatDoor
