import Derived.Test.YtlidgoomlllonaaDoorMixL
import Derived.Test.YtlidgoomlllonaaDoorFilesMath
import Derived.Test.YtlidgoomlllonaaDoorSFilesW
import Derived.Test.YtlidgoomlllonaaDoorMixM
import Derived.Test.YtlidgoomlllonaaDoorMixF
import Derived.Test.YtlidgoomlllonaaDoorAllW
import Derived.Test.YtlidgoomlllonaaDoorMixG
import Derived.Test.YtlidgoomlllonaaDoorLastW
import Derived.Deep.CutRange
/- The walk of FnFilesLess: it returns true and leaves what was there; for every two rows of bytes. -/
namespace Go.Proofs.YtlidgoomlllonaaDoor
open Go.RowKit

attribute [local go_sem ↓] Go.wp_at_zero Go.wp_at_succ

theorem Ix.planFiles_le6 (l : List Ix.Pg) : (Ix.planFiles l).length ≤ 6 := by
  unfold Ix.planFiles
  split
  · rw [Ix.filesTo_len l l.length (Nat.le_refl _)]; exact Nat.le_refl _
  · simp
theorem OwI.set6 {B : Nat} {w : World} {g c i : Nat} {a : List Int} {y : Int} (h : OwI B w (.slice (some ⟨g, 0, none⟩) a.length c) a) : OwI B (w.setCell ⟨g, i, none⟩ (.int .i64 y)) (.slice (some ⟨g, 0, none⟩) (a.set i y).length c) (a.set i y) := by
  have h1 := (World.ownsRow.stored h i (.int .i64 y)).1
  unfold OwI
  rw [List.length_set, List.map_set]
  exact h1
theorem OwI.cell6 {B : Nat} {w : World} {g c i : Nat} {a : List Int} (h : OwI B w (.slice (some ⟨g, 0, none⟩) a.length c) a) (hi : i < a.length) : w.cell? ⟨g, i, none⟩ = some (.int .i64 (a.getD i 0)) ∧ w.frozen? ⟨g, i, none⟩ = false := by
  refine ⟨own_cell h i _ ?_, ?_⟩
  · rw [List.getElem?_map, List.getElem?_eq_getElem hi, List.getD_eq_getElem?_getD, List.getElem?_eq_getElem hi]
    rfl
  · obtain ⟨_, c, hc⟩ := own_row h g rfl
    exact frozenOf hc i

set_option maxHeartbeats 16000000 in
set_option maxRecDepth 100000 in
theorem filesLess_walk (w : World) (a : Option Addr) (len cap : Nat) (a1 : Option Addr) (len1 cap1 : Nat) (h : Bytes w a len cap) (_h1 : Bytes w a1 len1 cap1) :
    Calls Tryd.prog 6 #[.slice a len cap, .slice a1 len1 cap1] w fun e w' => e = .returned (.bool true) ∧ Below w.heap.size w w' := by
  obtain ⟨i0, hI0, hz0, hz1, hz2⟩ := info_parts infoPkg
  by_cases hbig : (1048576 : Int) < (len : Int)
  · go_enter Tryd.func6, Tryd.ntmps6
    go_wp2
    go_ret
    exact ⟨rfl, Below.refl _ _⟩
  have hbig' : decide ((1048576 : Int) < (len : Int)) = false := by simpa using hbig
  by_cases hbig2 : (1048576 : Int) < (len1 : Int)
  · go_enter Tryd.func6, Tryd.ntmps6
    go_wp2
    go_ret
    exact ⟨rfl, Below.refl _ _⟩
  have CD := hide (drawPlanFiles_any w a len cap h)
  clear h _h1
  go_enter Tryd.func6, Tryd.ntmps6
  go_wp2_with fail
  refine (unhide CD).mono ?_
  rintro e w1 ⟨v, els, rfl, hpo, hms, b1⟩
  obtain ⟨ma, mc, hmv⟩ := own_formS hpo.own
  subst hmv
  have hrm := own_roomP hpo.own
  have HPO := hide hpo
  have I1 := hide (POwn.pks (N := fun _ => True) (hpo.weak (fun _ _ => trivial)) (fun _ _ => trivial) (by omega))
  have B1 := hide b1
  clear hpo b1 CD
  obtain ⟨l, hl⟩ : ∃ l : List Ix.Pg, l = els.map (·.1) := ⟨_, rfl⟩
  have hll : l.length = els.length := by rw [hl, List.length_map]
  have HL := hide hl
  rw [← hl] at I1
  have HR : Hid (∀ a c, Value.slice ma els.length mc = .slice a l.length c → l.length ≤ c) := fun _ _ e => by injection e with _ _ e; omega
  clear hl
  have HLL := hide hll
  clear hll
  have hln := Ix.planFiles_le6 l
  have CI := hide (implPlanFiles_any w1 _ l (unhide I1) (unhide HR))
  have CS := hide (fun (W : World) hW => specPlanFiles_any (N := fun _ => True) W (.slice ma els.length mc) l hW)
  obtain ⟨PF, hPF⟩ : ∃ PF, PF = Ix.planFiles l := ⟨_, rfl⟩
  have HPF := hide hPF
  rw [← hPF] at hln CI CS
  clear hPF
  go_wp2_with fail
  refine (unhide CI).mono ?_
  rintro e w2 ⟨gv, rfl, ho2, b2⟩
  have G2 := hide (ho2.wide (by omega))
  obtain ⟨ga, gc, hgv⟩ := own_formS ho2
  subst hgv
  have I2 := hide ((unhide I1).later b2)
  have BB2 := hide b2
  clear ho2 b2 I1 CI
  go_wp2_with fail
  refine (unhide CS _ (unhide I2)).mono ?_
  rintro e w3 ⟨sv, rfl, ho3, b3⟩
  have S3 := hide (ho3.wide (by omega))
  obtain ⟨sa, sc, hsv⟩ := own_formS ho3
  subst hsv
  have I3 := hide ((unhide I2).later b3)
  have G3 := hide ((unhide G2).later b3)
  have BB3 := hide ((unhide BB2).trans (b3.mono (unhide BB2).size))
  clear ho3 b3 I2 G2 BB2
  go_wp2_with fail
  refine (luInts_same _ _ _ PF (unhide G3) (unhide S3)).mono ?_
  rintro e w4 ⟨rfl, b4⟩
  have I4 := hide ((unhide I3).later b4)
  have G4 := hide ((unhide G3).later b4)
  have BB4 := hide ((unhide BB3).trans (b4.mono (unhide BB3).size))
  clear b4 I3 G3 BB3 S3
  have CO := hide (specPlanOk_any _ (.slice ma els.length mc) l (unhide I4))
  obtain ⟨ok, hok⟩ : ∃ ok, ok = Ix.planOk l := ⟨_, rfl⟩
  have HKO := hide hok
  rw [← hok] at CO
  clear hok
  go_wp2_with fail
  refine (unhide CO).mono ?_
  rintro e w5 ⟨rfl, b5⟩
  have I5 := hide ((unhide I4).later b5)
  have G5 := hide ((unhide G4).later b5)
  have BB5 := hide ((unhide BB4).trans (b5.mono (unhide BB4).size))
  clear b5 I4 G4 BB4 CO
  have HEND : Hid (∀ W : World, Below w5.heap.size w5 W → Below w.heap.size w W) := fun W hW => (unhide B1).trans (((unhide BB5).trans (hW.mono (unhide BB5).size)).mono (unhide B1).size)
  by_cases hgo : ok = false ∨ els.length = 0
  · have HGO : Hid (ok = false ∨ (ok = true ∧ ((els.length : Int) == 0) = true)) := by
      show ok = false ∨ (ok = true ∧ ((els.length : Int) == 0) = true)
      rcases hgo with h | h
      · exact .inl h
      · cases ok
        · exact .inl rfl
        · exact .inr ⟨rfl, by rw [h]; rfl⟩
    clear hgo
    rcases unhide HGO with hok | ⟨hok, hkz⟩
    all_goals
      subst hok
      clear HGO
      go_wp2_with fail
      refine (unhide CS _ (unhide I5)).mono ?_
      rintro e w6 ⟨sv, rfl, ho6, b6⟩
      have S6 := hide (ho6.wide (by omega))
      obtain ⟨sa, sc, hsv⟩ := own_formS ho6
      subst hsv
      have G6 := hide ((unhide G5).later b6)
      have BX6 := hide b6
      clear ho6 b6 I5 G5
      go_wp2_with fail
      refine (luInts_same _ _ _ PF (unhide G6) (unhide S6)).mono ?_
      rintro e w7 ⟨rfl, b7⟩
      have B7 := hide (unhide HEND _ ((unhide BX6).trans (b7.mono (unhide BX6).size)))
      clear b7
      go_wp2
      go_ret
      exact ⟨rfl, unhide B7⟩
  have hokt : ok = true := by cases ok with
    | false => exact absurd (.inl rfl) hgo
    | true => rfl
  have hkl : ¬ els.length = 0 := fun h => hgo (.inr h)
  subst hokt
  clear hgo CS
  have HOK := hide (unhide HKO).symm
  clear HKO
  rcases own_shape (unhide HPO).own with ⟨_, h0⟩ | ⟨g, mc', hv, hgB⟩
  · exact absurd h0 hkl
  injection hv with hv1 _ hv2
  subst hv1 hv2
  have hkz : ((els.length : Int) == 0) = false := by rw [beq_eq_false_iff_ne]; omega
  have hkz' : ¬ (els.length : Int) = 0 := by omega
  have hroom : els.length ≤ mc ∧ mc ≤ 9223372036854775807 := by
    obtain ⟨_, h2⟩ := (unhide HPO).own
    rcases h2 with ⟨h, _⟩ | ⟨g', cap', cur, hv, _, _, hn, hc, _⟩
    · cases h
    · injection hv with _ _ hv
      subst hv
      exact ⟨hn, by unfold maxLen at hc; omega⟩
  obtain ⟨i, hi, hrem⟩ : ∃ i : Nat, i < els.length ∧ (len1 : Int) % (els.length : Int) = (i : Int) := ⟨len1 % els.length, Nat.mod_lt _ (by omega), by simp⟩
  have er : IntKind.i64.wrap ((len1 : Int) % (els.length : Int)) = (len1 : Int) % (els.length : Int) := by rw [hrem]; simp [IntKind.wrap, IntKind.bits, IntKind.signed]; omega
  have HO4 := hide (own_later (unhide HPO).own (unhide BB5))
  have hg4 : g < w5.heap.size := by
    obtain ⟨_, c, hc⟩ := own_row (unhide HO4) g rfl
    exact heapLt hc
  go_wp2_with fail
  simp only [hrem]
  clear hrem hkz hkz' er
  have hle : l.length = els.length := unhide HLL
  have HEL := hide (unhide HPO).sl
  have hi0' : (0 : Int) ≤ (i : Int) := by omega
  have hi1 : (i : Int) ≤ (mc : Int) := by omega
  have hi2 : (0 : Int) ≤ (i : Int) + 1 := by omega
  have hi3 : (i : Int) + 1 ≤ (els.length : Int) := by omega
  have hi4 : (i : Int) < (els.length : Int) := by omega
  have hi5 : (i : Int) ≤ (els.length : Int) := by omega
  have hck : ¬ mc = 0 := by omega
  have hck2 : ¬ mc = i := by omega
  have ew : IntKind.i64.wrap ((i : Int) + 1) = (i : Int) + 1 := by simp [IntKind.wrap, IntKind.bits, IntKind.signed]; omega
  have et : ((i : Int) + 1).toNat = i + 1 := by omega
  have HFI := hide (fun hc => Ix.files_less (unhide HOK) (k := i) (by omega) hc)
  have HIL : Hid (i < l.length) := by show i < l.length; omega
  go_cut [8] from 47 to 56 (fun o wx => ∃ (ya : Option Addr) (yc : Nat), o = .slice ya (cutE els i).length yc ∧ wx.ownsRow w5.heap.size 30 4 (.slice ya (cutE els i).length yc) (cutE els i).length (flat4 (cutE els i)) ∧ Below w5.heap.size w5 wx)
  case first =>
    by_cases hce : mc = i + 1
    · have HCE := hide hce
      clear hce
      refine wp_region_held_drew (S := fun _ => True) (by kernel_rfl) trivial (fun hHeld => ?_)
      refine anyH_at (i := 1) (d := some 48) rfl rfl (by kernel_rfl) (by kernel_rfl) (by kernel_rfl) (fun _ _ _ h => h) (by rfl) (v := ?_) ?_ (by assumption) ?_
      rotate_left
      · (intro w hSw; (try dsimp only at hSw); go_simp <;> with_reducible rfl)
      simp only [Act.put, List.setIfInBounds_toArray, List.set_cons_zero, List.set_cons_succ]
      refine anyH_at (i := 2) (d := some 49) rfl rfl (by kernel_rfl) (by kernel_rfl) (by kernel_rfl) (fun _ _ _ h => h) (by rfl) (v := ?_) ?_ (by assumption) ?_
      rotate_left
      · (intro w hSw; (try dsimp only at hSw); go_simp <;> with_reducible rfl)
      simp only [Act.put, List.setIfInBounds_toArray, List.set_cons_zero, List.set_cons_succ]
      refine anyH_at (i := 3) (d := some 50) rfl rfl (by kernel_rfl) (by kernel_rfl) (by kernel_rfl) (fun _ _ _ h => h) (by rfl) (v := ?_) ?_ (by assumption) ?_
      rotate_left
      · (intro w hSw; (try dsimp only at hSw); go_simp <;> with_reducible rfl)
      simp only [Act.put, List.setIfInBounds_toArray, List.set_cons_zero, List.set_cons_succ]
      refine anyH_at (i := 5) (d := some 52) rfl rfl (by kernel_rfl) (by kernel_rfl) (by kernel_rfl) (fun _ _ _ h => h) (by rfl) (v := ?_) ?_ (by assumption) ?_
      rotate_left
      · (intro w hSw; (try dsimp only at hSw); go_simp <;> with_reducible rfl)
      simp only [Act.put, List.setIfInBounds_toArray, List.set_cons_zero, List.set_cons_succ]
      refine anyH_at (i := 6) (d := some 53) rfl rfl (by kernel_rfl) (by kernel_rfl) (by kernel_rfl) (fun _ _ _ h => h) (by rfl) (v := ?_) ?_ (by assumption) ?_
      rotate_left
      · (intro w hSw; (try dsimp only at hSw); go_simp <;> with_reducible rfl)
      simp only [Act.put, List.setIfInBounds_toArray, List.set_cons_zero, List.set_cons_succ]
      refine anyH_at (i := 7) (d := some 54) rfl rfl (by kernel_rfl) (by kernel_rfl) (by kernel_rfl) (fun _ _ _ h => h) (by rfl) (v := ?_) ?_ (by assumption) ?_
      rotate_left
      · (intro w hSw; (try dsimp only at hSw); go_simp <;> with_reducible rfl)
      simp only [Act.put, List.setIfInBounds_toArray, List.set_cons_zero, List.set_cons_succ]
      refine anyH_at (i := 8) (d := some 55) rfl rfl (by kernel_rfl) (by kernel_rfl) (by kernel_rfl) (fun _ _ _ h => h) (by rfl) (v := ?_) ?_ (by assumption) ?_
      rotate_left
      · (intro w hSw; (try dsimp only at hSw); have hce := unhide HCE; go_simp <;> with_reducible rfl)
      simp only [Act.put, List.setIfInBounds_toArray, List.set_cons_zero, List.set_cons_succ]
      refine wpAnyH_ready (rs := [0]) (by kernel_rfl) (by simp) ?_
      refine AllReadyH.cons rfl (fun K hK => ?_) AllReadyH.nil
      go_simp
      have bE := below1 w5 (.cells #[] 30)
      refine hK.out _ _ ?_ (fun hHeldN => ?_)
      · trivial
      clear hHeld
      have hHeld := hHeldN
      clear hHeldN
      clear hK K
      try simp only [Act.put, List.setIfInBounds_toArray, List.set_cons_zero, List.set_cons_succ]
      refine wpAnyH_ready (rs := [4]) (by kernel_rfl) (by simp) ?_
      refine AllReadyH.cons rfl (fun K hK => ?_) AllReadyH.nil
      rw [if_pos (by rfl)]
      refine wp_append_own _ _ _ 23 rfl w5.heap.size 30 i0 _ 4 64 Tryd.underlying23 hI0 hz0 hz1 hz2 rfl (by decide) (.slice (some ⟨w5.heap.size, 0, none⟩) 0 0) 0 [] rfl (World.ownsRow.drew (emptyP w5)) ⟨g, 0, none⟩ i mc (flat4 (els.take i)) rfl (by rw [flat4_len, List.length_take]; omega) (by simpa using newsP (s := 0) (unhide HO4) bE.drew hg4 takeP) (flat4_one (unhide HEL) (fun e he => List.mem_of_mem_take he)) (by unfold maxLen; omega) (by omega) (by simp) ?_
      intro v6 w6 hown6 hgrow6 _
      have o6 : w6.ownsRow w5.heap.size 30 4 v6 i (flat4 (els.take i)) := by simpa using hown6
      have G6 := grown_below (B := w5.heap.size) (World.ownsRow.drew (emptyP w5)) hgrow6 bE.drew bE.drew.size
      have O6 := hide o6
      have HG6 := hide G6
      clear hown6 hgrow6 o6 G6 bE
      change K (Act.put _ (some 51) _) _
      refine hK.out _ _ ?_ (fun hHeldN => ?_)
      · trivial
      clear hHeld
      have hHeld := hHeldN
      clear hHeldN
      clear hK K
      try simp only [Act.put, List.setIfInBounds_toArray, List.set_cons_zero, List.set_cons_succ]
      refine wpAnyH_ready (rs := [9]) (by kernel_rfl) (by simp) ?_
      refine AllReadyH.cons rfl (fun K hK => ?_) AllReadyH.nil
      rw [if_pos (by rfl)]
      refine wp_append_own _ _ _ 23 rfl w5.heap.size 30 i0 _ 4 64 Tryd.underlying23 hI0 hz0 hz1 hz2 rfl (by decide) v6 i (flat4 (els.take i)) rfl (unhide O6) ⟨g, 0, none⟩ _ _ (flat4 (els.drop (i + 1))) rfl (by rw [flat4_len, List.length_drop]) (by have hce := unhide HCE; intro j u hu; exfalso; have hd : els.drop (i + 1) = [] := List.drop_eq_nil_of_le (by omega); rw [hd] at hu; simp [flat4] at hu) (flat4_one (unhide HEL) (fun e he => List.mem_of_mem_drop he)) (by unfold maxLen; omega) (by omega) (unhide HG6).size ?_
      intro v7 w7 hown7 hgrow7 _
      have o7 := cutE_own hown7 (by omega)
      have G7 := grown_below (B := w5.heap.size) (unhide O6) hgrow7 (unhide HG6) (unhide HG6).size
      obtain ⟨ya, yc, hv7⟩ := own_formS o7
      subst hv7
      have O7 := hide o7
      have HG7 := hide G7
      clear hown7 hgrow7 o7 G7 O6 HG6
      change K (Act.put _ (some 56) _) _
      refine hK.out _ _ ?_ (fun hHeldN => ?_)
      · trivial
      clear hHeld
      have hHeld := hHeldN
      clear hHeldN
      clear hK K
      try simp only [Act.put, List.setIfInBounds_toArray, List.set_cons_zero, List.set_cons_succ]
      refine anyH_at (i := 10) (d := some 8) rfl rfl (by kernel_rfl) (by kernel_rfl) (by kernel_rfl) (fun _ _ _ h => h) (by rfl) (v := ?_) ?_ (by assumption) ?_
      rotate_left
      · (intro w hSw; (try dsimp only at hSw); go_simp <;> with_reducible rfl)
      simp only [Act.put, List.setIfInBounds_toArray, List.set_cons_zero, List.set_cons_succ]
      refine wpAnyH_done (by kernel_rfl) ?_ _
      go_wp2_with fail
      go_meet
      exact ⟨ya, yc, rfl, unhide O7, unhide HG7⟩
    · refine wp_region_held_drew (S := fun _ => True) (by kernel_rfl) trivial (fun hHeld => ?_)
      refine anyH_at (i := 1) (d := some 48) rfl rfl (by kernel_rfl) (by kernel_rfl) (by kernel_rfl) (fun _ _ _ h => h) (by rfl) (v := ?_) ?_ (by assumption) ?_
      rotate_left
      · (intro w hSw; (try dsimp only at hSw); go_simp <;> with_reducible rfl)
      simp only [Act.put, List.setIfInBounds_toArray, List.set_cons_zero, List.set_cons_succ]
      refine anyH_at (i := 2) (d := some 49) rfl rfl (by kernel_rfl) (by kernel_rfl) (by kernel_rfl) (fun _ _ _ h => h) (by rfl) (v := ?_) ?_ (by assumption) ?_
      rotate_left
      · (intro w hSw; (try dsimp only at hSw); go_simp <;> with_reducible rfl)
      simp only [Act.put, List.setIfInBounds_toArray, List.set_cons_zero, List.set_cons_succ]
      refine anyH_at (i := 3) (d := some 50) rfl rfl (by kernel_rfl) (by kernel_rfl) (by kernel_rfl) (fun _ _ _ h => h) (by rfl) (v := ?_) ?_ (by assumption) ?_
      rotate_left
      · (intro w hSw; (try dsimp only at hSw); go_simp <;> with_reducible rfl)
      simp only [Act.put, List.setIfInBounds_toArray, List.set_cons_zero, List.set_cons_succ]
      refine anyH_at (i := 5) (d := some 52) rfl rfl (by kernel_rfl) (by kernel_rfl) (by kernel_rfl) (fun _ _ _ h => h) (by rfl) (v := ?_) ?_ (by assumption) ?_
      rotate_left
      · (intro w hSw; (try dsimp only at hSw); go_simp <;> with_reducible rfl)
      simp only [Act.put, List.setIfInBounds_toArray, List.set_cons_zero, List.set_cons_succ]
      refine anyH_at (i := 6) (d := some 53) rfl rfl (by kernel_rfl) (by kernel_rfl) (by kernel_rfl) (fun _ _ _ h => h) (by rfl) (v := ?_) ?_ (by assumption) ?_
      rotate_left
      · (intro w hSw; (try dsimp only at hSw); go_simp <;> with_reducible rfl)
      simp only [Act.put, List.setIfInBounds_toArray, List.set_cons_zero, List.set_cons_succ]
      refine anyH_at (i := 7) (d := some 54) rfl rfl (by kernel_rfl) (by kernel_rfl) (by kernel_rfl) (fun _ _ _ h => h) (by rfl) (v := ?_) ?_ (by assumption) ?_
      rotate_left
      · (intro w hSw; (try dsimp only at hSw); go_simp <;> with_reducible rfl)
      simp only [Act.put, List.setIfInBounds_toArray, List.set_cons_zero, List.set_cons_succ]
      refine anyH_at (i := 8) (d := some 55) rfl rfl (by kernel_rfl) (by kernel_rfl) (by kernel_rfl) (fun _ _ _ h => h) (by rfl) (v := ?_) ?_ (by assumption) ?_
      rotate_left
      · (intro w hSw; (try dsimp only at hSw); go_simp <;> with_reducible rfl)
      simp only [Act.put, List.setIfInBounds_toArray, List.set_cons_zero, List.set_cons_succ]
      refine wpAnyH_ready (rs := [0]) (by kernel_rfl) (by simp) ?_
      refine AllReadyH.cons rfl (fun K hK => ?_) AllReadyH.nil
      go_simp
      have bE := below1 w5 (.cells #[] 30)
      refine hK.out _ _ ?_ (fun hHeldN => ?_)
      · trivial
      clear hHeld
      have hHeld := hHeldN
      clear hHeldN
      clear hK K
      try simp only [Act.put, List.setIfInBounds_toArray, List.set_cons_zero, List.set_cons_succ]
      refine wpAnyH_ready (rs := [4]) (by kernel_rfl) (by simp) ?_
      refine AllReadyH.cons rfl (fun K hK => ?_) AllReadyH.nil
      rw [if_pos (by rfl)]
      refine wp_append_own _ _ _ 23 rfl w5.heap.size 30 i0 _ 4 64 Tryd.underlying23 hI0 hz0 hz1 hz2 rfl (by decide) (.slice (some ⟨w5.heap.size, 0, none⟩) 0 0) 0 [] rfl (World.ownsRow.drew (emptyP w5)) ⟨g, 0, none⟩ i mc (flat4 (els.take i)) rfl (by rw [flat4_len, List.length_take]; omega) (by simpa using newsP (s := 0) (unhide HO4) bE.drew hg4 takeP) (flat4_one (unhide HEL) (fun e he => List.mem_of_mem_take he)) (by unfold maxLen; omega) (by omega) (by simp) ?_
      intro v6 w6 hown6 hgrow6 _
      have o6 : w6.ownsRow w5.heap.size 30 4 v6 i (flat4 (els.take i)) := by simpa using hown6
      have G6 := grown_below (B := w5.heap.size) (World.ownsRow.drew (emptyP w5)) hgrow6 bE.drew bE.drew.size
      have O6 := hide o6
      have HG6 := hide G6
      clear hown6 hgrow6 o6 G6 bE
      change K (Act.put _ (some 51) _) _
      refine hK.out _ _ ?_ (fun hHeldN => ?_)
      · trivial
      clear hHeld
      have hHeld := hHeldN
      clear hHeldN
      clear hK K
      try simp only [Act.put, List.setIfInBounds_toArray, List.set_cons_zero, List.set_cons_succ]
      refine wpAnyH_ready (rs := [9]) (by kernel_rfl) (by simp) ?_
      refine AllReadyH.cons rfl (fun K hK => ?_) AllReadyH.nil
      rw [if_pos (by rfl)]
      refine wp_append_own _ _ _ 23 rfl w5.heap.size 30 i0 _ 4 64 Tryd.underlying23 hI0 hz0 hz1 hz2 rfl (by decide) v6 i (flat4 (els.take i)) rfl (unhide O6) ⟨g, (i + 1) * 4, none⟩ _ _ (flat4 (els.drop (i + 1))) rfl (by rw [flat4_len, List.length_drop]) (newsP (s := i + 1) (unhide HO4) (unhide HG6) hg4 dropP) (flat4_one (unhide HEL) (fun e he => List.mem_of_mem_drop he)) (by unfold maxLen; omega) (by omega) (unhide HG6).size ?_
      intro v7 w7 hown7 hgrow7 _
      have o7 := cutE_own hown7 (by omega)
      have G7 := grown_below (B := w5.heap.size) (unhide O6) hgrow7 (unhide HG6) (unhide HG6).size
      obtain ⟨ya, yc, hv7⟩ := own_formS o7
      subst hv7
      have O7 := hide o7
      have HG7 := hide G7
      clear hown7 hgrow7 o7 G7 O6 HG6
      change K (Act.put _ (some 56) _) _
      refine hK.out _ _ ?_ (fun hHeldN => ?_)
      · trivial
      clear hHeld
      have hHeld := hHeldN
      clear hHeldN
      clear hK K
      try simp only [Act.put, List.setIfInBounds_toArray, List.set_cons_zero, List.set_cons_succ]
      refine anyH_at (i := 10) (d := some 8) rfl rfl (by kernel_rfl) (by kernel_rfl) (by kernel_rfl) (fun _ _ _ h => h) (by rfl) (v := ?_) ?_ (by assumption) ?_
      rotate_left
      · (intro w hSw; (try dsimp only at hSw); go_simp <;> with_reducible rfl)
      simp only [Act.put, List.setIfInBounds_toArray, List.set_cons_zero, List.set_cons_succ]
      refine wpAnyH_done (by kernel_rfl) ?_ _
      go_wp2_with fail
      go_meet
      exact ⟨ya, yc, rfl, unhide O7, unhide HG7⟩
  case rest =>
    obtain ⟨ya, yc, rfl, hoY, hbY⟩ := hcut
    have BBY := (unhide BB5).trans (hbY.mono (unhide BB5).size)
    have hY : Pks (fun _ => True) wc (.slice ya (cutE els i).length yc) ((cutE els i).map (·.1)) := POwn.of (unhide HPO) BBY hoY cutE_mem (by rw [cutE_len hi]; omega)
    have hrY := own_roomP hoY
    have hRY : ∀ a c, Value.slice ya (cutE els i).length yc = .slice a ((cutE els i).map (·.1)).length c → ((cutE els i).map (·.1)).length ≤ c := fun _ _ e => by injection e with _ _ e; rw [List.length_map]; omega
    have HRY := hide hRY
    have hmp : (cutE els i).map (·.1) = Ix.cutP l i := by rw [cutE_map, ← unhide HL]
    rw [hmp] at hY HRY
    have HY := hide hY
    have HG := hide ((unhide G5).later hbY)
    have HI := hide ((unhide I5).later hbY)
    have HB := hide ((unhide B1).trans (BBY.mono (unhide B1).size))
    have CY := hide (implPlanOk_any wc _ _ hY (unhide HRY))
    have CF := hide (fun (W : World) hW => implPlanFiles_any (N := fun _ => True) W (.slice ya (cutE els i).length yc) (Ix.cutP l i) hW (unhide HRY))
    have hlc := Ix.planFiles_le6 (Ix.cutP l i)
    obtain ⟨ok, hok⟩ : ∃ ok, ok = Ix.planOk (Ix.cutP l i) := ⟨_, rfl⟩
    have HKO := hide hok
    rw [← hok] at CY
    clear hok hoY hbY BBY hY hrY hRY hmp HO4 hg4 G5 I5 BB5 HEND
    go_wp2_with fail
    refine (unhide CY).mono ?_
    rintro e w6 ⟨rfl, b6⟩
    have Y6 := hide ((unhide HY).later b6)
    have G6 := hide ((unhide HG).later b6)
    have I6 := hide ((unhide HI).later b6)
    have B6 := hide ((unhide HB).trans (b6.mono (unhide HB).size))
    clear b6 HY HG HI HB CY
    cases ok
    · go_wp2
      go_ret
      exact ⟨rfl, unhide B6⟩
    obtain ⟨hf1, hf2⟩ := unhide HFI (unhide HKO).symm
    have hc6 := (Ix.files_law (unhide HKO).symm).1
    rw [← unhide HPF] at hf1
    generalize Ix.planFiles (Ix.cutP l i) = A at *
    have HF1 := hide hf1
    have HF2 := hide hf2
    have HC6 := hide hc6
    clear hf1 hf2 HFI HKO hlc
    go_wp2_with fail
    refine (unhide CF _ (unhide Y6)).mono ?_
    rintro e w7 ⟨xv, rfl, ho7, b7⟩
    have H6 : 0 < A.length := by omega
    rcases own_shape ho7 with ⟨_, h0⟩ | ⟨X, xc, hxv, hXB⟩
    · omega
    subst hxv
    have HO7 := hide ho7
    have HBX := hide b7
    obtain ⟨N6, hN6⟩ : ∃ n : Nat, n = A.length := ⟨_, rfl⟩
    rw [← hN6]
    have hN66 : N6 = 6 := by omega
    subst hN66
    clear ho7 b7 Y6 CF hN6 hc6
    have hil : i < l.length := unhide HIL
    obtain ⟨pa, pc, hmv, hml, hrow0⟩ := unhide I6
    injection hmv with hmv1 hmv2 hmv3
    obtain ⟨b, off, hpa, hb, _, hc⟩ := hrow0 (by omega)
    rw [hpa] at hmv1
    injection hmv1 with hmv1
    injection hmv1 with hm1 hm2 _
    subst hm1 hm2
    obtain ⟨fv, dv, hAt, hf, hd⟩ := hc i hil
    have hfo := Ix.pOk_file (Ix.pkgs_pOk (Ix.planOk_pkgs (unhide HOK)) hil)
    obtain ⟨nm, vr, fs, ds, hpk⟩ : ∃ nm vr fs ds, Ix.pg l i = (nm, vr, fs, ds) := ⟨_, _, _, _, rfl⟩
    rw [hpk] at hAt hf hfo HF1 HF2
    dsimp only at hf hfo HF1 HF2
    obtain ⟨fa, fc, hfv, _, hfr⟩ := hf
    subst hfv
    have HFO := hide hfo
    have HFR := hide hfr
    have hAw : Hid (∀ w', Below w6.heap.size w6 w' → w'.cell? ⟨g, i * 4 + 2, none⟩ = some (.slice fa fs.length fc)) := fun w' hb2 => by
      have := (hAt.keep (hb2.block g hb)).2.2.1
      rwa [Nat.zero_add] at this
    clear hmv2 hmv3 hpa hrow0 hc hAt hd hpk hfo hfr hck hck2 ew et hi1 hi2 hi3 hi5 hil
    go_wp2_with fail
    go_loopw [10] (fun jv w' => ∃ m : Nat, m ≤ fs.length ∧ jv = .int .i64 m ∧ OwI w6.heap.size w' (.slice (some ⟨X, 0, none⟩) (Ix.putF A (fs.take m)).length xc) (Ix.putF A (fs.take m)) ∧ Below w6.heap.size w6 w') (fun jv _ => fs.length - (intOf jv).toNat)
    case atStart => exact ⟨0, Nat.zero_le _, rfl, unhide HO7, unhide HBX⟩
    case round =>
      clear HO7 HBX
      obtain ⟨m, hm, rfl, hO, hw⟩ := hrel
      have HO := hide hO
      have HW := hide hw
      have c2 := unhide hAw wr hw
      have hpl := Ix.putF_len (fs.take m) A
      have hc6 := unhide HC6
      clear hO hw
      by_cases hlt : m < fs.length
      · obtain ⟨fb, fof, hfa, hfb, _, hfc⟩ := unhide HFR (by omega)
        subst hfa
        have hj0 : (0 : Int) ≤ (m : Int) := Int.natCast_nonneg _
        have hj1 : (m : Int) < (fs.length : Int) := by omega
        have er2 : IntKind.i64.wrap ((m : Int) + 1) = (m : Int) + 1 := by simp [IntKind.wrap, IntKind.bits, IntKind.signed]; omega
        have hbd := (unhide HFO m hlt).1
        have hps := Ix.putF_succ hlt A
        have hneg := unhide HF2 m hlt
        obtain ⟨d0, d1⟩ := hfc m hlt
        rw [← (unhide HW).cell hfb] at d0 d1
        obtain ⟨xn, hxn⟩ := Int.eq_ofNat_of_zero_le hbd.1
        rw [hxn] at d0 hbd hps hneg
        rw [Int.toNat_natCast] at hps hneg
        have HPS := hide hps
        have hx6 : xn < 6 := by omega
        have hx0 : (0 : Int) ≤ (xn : Int) := Int.natCast_nonneg _
        have hx1 : (xn : Int) < 6 := by omega
        clear hfc hxn hps
        generalize Pk.snd fs m = y at *
        generalize Ix.putF A (fs.take m) = A2 at *
        obtain ⟨q0, q1⟩ := (unhide HO).cell6 (i := xn) (by omega)
        rw [hneg] at q0
        have hd0 := below_drew wr
        have hOD := own_later (unhide HO) hd0
        obtain ⟨_, q2⟩ := OwI.cell6 hOD (i := xn) (by omega)
        have HO2 := hide (OwI.set6 (i := xn) (y := y) hOD)
        have HW2 := hide (below_set (o := xn) (u := .int .i64 y) ((unhide HW).trans (hd0.mono (unhide HW).size)) hXB.1)
        have q3 : wr.drew.cell? ⟨X, xn, none⟩ = some (.int .i64 (-1)) := q0
        clear hd0 hOD HO hneg
        go_wp2_with fail
        have hSS : wr.drew.cell? ⟨g, i * 4 + 2, none⟩ = some (.slice (some ⟨fb, fof, none⟩) fs.length fc) ∧ wr.drew.cell? ⟨fb, fof + m * 2, none⟩ = some (.int .i64 (xn : Int)) ∧ wr.drew.cell? ⟨fb, fof + m * 2 + 1, none⟩ = some (.int .i64 y) := ⟨c2, d0, d1⟩
        refine wl_region (S := fun w' => w'.cell? ⟨g, i * 4 + 2, none⟩ = some (.slice (some ⟨fb, fof, none⟩) fs.length fc) ∧ w'.cell? ⟨fb, fof + m * 2, none⟩ = some (.int .i64 (xn : Int)) ∧ w'.cell? ⟨fb, fof + m * 2 + 1, none⟩ = some (.int .i64 y)) (s := 20) (by kernel_rfl) hSS (fun hHeld => ?_)
        clear hSS c2 d0 d1 q0 q1
        refine wl_take (i := 0) (d := some 85) rfl rfl (by kernel_rfl) (by kernel_rfl) (by kernel_rfl) (by kernel_rfl) (by kernel_rfl) (fun _ _ _ h => h) (by rfl) (fun w _ => run_move rfl rfl w) (by assumption) ?_
        simp only [Act.put, List.setIfInBounds_toArray, List.set_cons_zero, List.set_cons_succ, List.getElem_toArray, List.getElem_cons_zero, List.getElem_cons_succ]
        refine wl_take (i := 1) (d := some 86) rfl rfl (by kernel_rfl) (by kernel_rfl) (by kernel_rfl) (by kernel_rfl) (by kernel_rfl) (fun _ _ _ h => h) (by rfl) (fun w _ => run_move rfl rfl w) (by assumption) ?_
        simp only [Act.put, List.setIfInBounds_toArray, List.set_cons_zero, List.set_cons_succ, List.getElem_toArray, List.getElem_cons_zero, List.getElem_cons_succ]
        refine wl_take (i := 2) (d := some 87) rfl rfl (by kernel_rfl) (by kernel_rfl) (by kernel_rfl) (by kernel_rfl) (by kernel_rfl) (fun _ _ _ h => h) (by rfl) (fun w _ => run_move rfl rfl w) (by assumption) ?_
        simp only [Act.put, List.setIfInBounds_toArray, List.set_cons_zero, List.set_cons_succ, List.getElem_toArray, List.getElem_cons_zero, List.getElem_cons_succ]
        refine wl_take (i := 3) (d := some 88) rfl rfl (by kernel_rfl) (by kernel_rfl) (by kernel_rfl) (by kernel_rfl) (by kernel_rfl) (fun _ _ _ h => h) (by rfl) (v := ?_) ?_ (by assumption) ?_
        rotate_left
        · (intro w hSw; (try dsimp only at hSw); go_simp <;> with_reducible rfl)
        simp only [Act.put, List.setIfInBounds_toArray, List.set_cons_zero, List.set_cons_succ]
        refine wl_take (i := 4) (d := some 89) rfl rfl (by kernel_rfl) (by kernel_rfl) (by kernel_rfl) (by kernel_rfl) (by kernel_rfl) (fun _ _ _ h => h) (by rfl) (v := ?_) ?_ (by assumption) ?_
        rotate_left
        · (intro w hSw; (try dsimp only at hSw); go_simp <;> with_reducible rfl)
        simp only [Act.put, List.setIfInBounds_toArray, List.set_cons_zero, List.set_cons_succ]
        refine wl_take (i := 5) (d := some 90) rfl rfl (by kernel_rfl) (by kernel_rfl) (by kernel_rfl) (by kernel_rfl) (by kernel_rfl) (fun _ _ _ h => h) (by rfl) (v := ?_) ?_ (by assumption) ?_
        rotate_left
        · (intro w hSw; (try dsimp only at hSw); go_simp <;> with_reducible rfl)
        simp only [Act.put, List.setIfInBounds_toArray, List.set_cons_zero, List.set_cons_succ]
        refine wl_take (i := 6) (d := some 91) rfl rfl (by kernel_rfl) (by kernel_rfl) (by kernel_rfl) (by kernel_rfl) (by kernel_rfl) (fun _ _ _ h => h) (by rfl) (fun w _ => run_move rfl rfl w) (by assumption) ?_
        simp only [Act.put, List.setIfInBounds_toArray, List.set_cons_zero, List.set_cons_succ, List.getElem_toArray, List.getElem_cons_zero, List.getElem_cons_succ]
        refine wl_take (i := 7) (d := some 92) rfl rfl (by kernel_rfl) (by kernel_rfl) (by kernel_rfl) (by kernel_rfl) (by kernel_rfl) (fun _ _ _ h => h) (by rfl) (v := ?_) ?_ (by assumption) ?_
        rotate_left
        · (intro w hSw; (try dsimp only at hSw); go_simp <;> with_reducible rfl)
        simp only [Act.put, List.setIfInBounds_toArray, List.set_cons_zero, List.set_cons_succ]
        refine wl_take (i := 8) (d := some 93) rfl rfl (by kernel_rfl) (by kernel_rfl) (by kernel_rfl) (by kernel_rfl) (by kernel_rfl) (fun _ _ _ h => h) (by rfl) (v := ?_) ?_ (by assumption) ?_
        rotate_left
        · (intro w hSw; (try dsimp only at hSw); go_simp <;> with_reducible rfl)
        simp only [Act.put, List.setIfInBounds_toArray, List.set_cons_zero, List.set_cons_succ]
        refine wl_take (i := 9) (d := some 94) rfl rfl (by kernel_rfl) (by kernel_rfl) (by kernel_rfl) (by kernel_rfl) (by kernel_rfl) (fun _ _ _ h => h) (by rfl) (v := ?_) ?_ (by assumption) ?_
        rotate_left
        · (intro w hSw; (try dsimp only at hSw); go_simp <;> with_reducible rfl)
        simp only [Act.put, List.setIfInBounds_toArray, List.set_cons_zero, List.set_cons_succ]
        refine wl_take (i := 10) (d := some 95) rfl rfl (by kernel_rfl) (by kernel_rfl) (by kernel_rfl) (by kernel_rfl) (by kernel_rfl) (fun _ _ _ h => h) (by rfl) (fun w _ => run_move rfl rfl w) (by assumption) ?_
        simp only [Act.put, List.setIfInBounds_toArray, List.set_cons_zero, List.set_cons_succ, List.getElem_toArray, List.getElem_cons_zero, List.getElem_cons_succ]
        refine wl_take (i := 11) (d := some 96) rfl rfl (by kernel_rfl) (by kernel_rfl) (by kernel_rfl) (by kernel_rfl) (by kernel_rfl) (fun _ _ _ h => h) (by rfl) (fun w _ => run_move rfl rfl w) (by assumption) ?_
        simp only [Act.put, List.setIfInBounds_toArray, List.set_cons_zero, List.set_cons_succ, List.getElem_toArray, List.getElem_cons_zero, List.getElem_cons_succ]
        refine wl_take (i := 12) (d := some 97) rfl rfl (by kernel_rfl) (by kernel_rfl) (by kernel_rfl) (by kernel_rfl) (by kernel_rfl) (fun _ _ _ h => h) (by rfl) (v := ?_) ?_ (by assumption) ?_
        rotate_left
        · (intro w hSw; (try dsimp only at hSw); go_simp <;> with_reducible rfl)
        simp only [Act.put, List.setIfInBounds_toArray, List.set_cons_zero, List.set_cons_succ]
        refine wl_take (i := 13) (d := some 98) rfl rfl (by kernel_rfl) (by kernel_rfl) (by kernel_rfl) (by kernel_rfl) (by kernel_rfl) (fun _ _ _ h => h) (by rfl) (v := ?_) ?_ (by assumption) ?_
        rotate_left
        · (intro w hSw; (try dsimp only at hSw); go_simp <;> with_reducible rfl)
        simp only [Act.put, List.setIfInBounds_toArray, List.set_cons_zero, List.set_cons_succ]
        refine wl_take (i := 14) (d := some 99) rfl rfl (by kernel_rfl) (by kernel_rfl) (by kernel_rfl) (by kernel_rfl) (by kernel_rfl) (fun _ _ _ h => h) (by rfl) (v := ?_) ?_ (by assumption) ?_
        rotate_left
        · (intro w hSw; (try dsimp only at hSw); go_simp <;> with_reducible rfl)
        simp only [Act.put, List.setIfInBounds_toArray, List.set_cons_zero, List.set_cons_succ]
        refine wl_take (i := 15) (d := some 100) rfl rfl (by kernel_rfl) (by kernel_rfl) (by kernel_rfl) (by kernel_rfl) (by kernel_rfl) (fun _ _ _ h => h) (by rfl) (fun w _ => run_move rfl rfl w) (by assumption) ?_
        simp only [Act.put, List.setIfInBounds_toArray, List.set_cons_zero, List.set_cons_succ, List.getElem_toArray, List.getElem_cons_zero, List.getElem_cons_succ]
        refine wl_take (i := 16) (d := some 101) rfl rfl (by kernel_rfl) (by kernel_rfl) (by kernel_rfl) (by kernel_rfl) (by kernel_rfl) (fun _ _ _ h => h) (by rfl) (v := ?_) ?_ (by assumption) ?_
        rotate_left
        · (intro w hSw; (try dsimp only at hSw); go_simp <;> with_reducible rfl)
        simp only [Act.put, List.setIfInBounds_toArray, List.set_cons_zero, List.set_cons_succ]
        refine wl_take (i := 17) (d := some 102) rfl rfl (by kernel_rfl) (by kernel_rfl) (by kernel_rfl) (by kernel_rfl) (by kernel_rfl) (fun _ _ _ h => h) (by rfl) (v := ?_) ?_ (by assumption) ?_
        rotate_left
        · (intro w hSw; (try dsimp only at hSw); go_simp <;> with_reducible rfl)
        simp only [Act.put, List.setIfInBounds_toArray, List.set_cons_zero, List.set_cons_succ]
        refine wl_take (i := 18) (d := some 103) rfl rfl (by kernel_rfl) (by kernel_rfl) (by kernel_rfl) (by kernel_rfl) (by kernel_rfl) (fun _ _ _ h => h) (by rfl) (v := ?_) ?_ (by assumption) ?_
        rotate_left
        · (intro w hSw; (try dsimp only at hSw); go_simp <;> with_reducible rfl)
        simp only [Act.put, List.setIfInBounds_toArray, List.set_cons_zero, List.set_cons_succ]
        refine wl_take (i := 19) (d := some 104) rfl rfl (by kernel_rfl) (by kernel_rfl) (by kernel_rfl) (by kernel_rfl) (by kernel_rfl) (fun _ _ _ h => h) (by rfl) (v := ?_) ?_ (by assumption) ?_
        rotate_left
        · (intro w hSw; (try dsimp only at hSw); go_simp <;> with_reducible rfl)
        simp only [Act.put, List.setIfInBounds_toArray, List.set_cons_zero, List.set_cons_succ]
        refine wl_one (i := 20) (by kernel_rfl) rfl (by rfl) (fun K hK => ?_)
        go_simp
        refine hK.out _ _ (fun h => absurd rfl h) ?_
        clear hK K
        refine wl_done (by kernel_rfl) ?_
        clear hHeld q2 q3
        go_wp2
        go_roundw
        case rel => exact ⟨m + 1, by omega, by go_num, by rw [unhide HPS]; exact unhide HO2, unhide HW2⟩
        case measure => simp [intOf]; omega
      · obtain rfl : m = fs.length := by omega
        have hO := unhide HO
        rw [List.take_length, unhide HF1] at hO
        have hp6 : PF.length = 6 := by rw [← unhide HF1, Ix.putF_len]; exact hc6
        have HX := hide (hO.wide (by omega))
        have HGw := hide ((unhide G6).later (unhide HW))
        have HB := hide ((unhide B6).trans ((unhide HW).mono (unhide B6).size))
        have CL := hide (luInts_same wr _ _ PF (unhide HX) (unhide HGw))
        rw [hp6] at CL
        clear hlt hO HX HO hpl
        obtain ⟨P6, hP6⟩ : ∃ n : Nat, n = PF.length := ⟨_, rfl⟩
        rw [← hP6]
        have hP66 : P6 = 6 := by rw [hP6]; exact hp6
        subst hP66
        clear hP6 hp6
        go_wp2_with fail
        refine (unhide CL).mono ?_
        rintro e w9 ⟨rfl, b9⟩
        have B9 := hide ((unhide HB).trans (b9.mono (unhide HB).size))
        clear b9
        go_wp2
        go_ret
        exact ⟨rfl, unhide B9⟩
end Go.Proofs.YtlidgoomlllonaaDoor
