import Derived.Test.YtpjpgofllnnemaaDoorDqW
import Derived.Test.YtpjpgofllnnemaaDoorDiskTrueW
import Derived.Test.YtpjpgofllnnemaaDoorMix15
/- What spec.DrawDiskTrue returns: a disk that can be read. -/
namespace Go.Proofs.YtpjpgofllnnemaaDoor
open Go.RowKit

attribute [local go_sem ↓] Go.wp_at_zero Go.wp_at_succ

theorem Dk.mends_len (fl : List Int) (ps : List Ix.Pg) : (Dk.mends fl ps).length ≤ 8 := by have h := (Dk.steps_len fl ps).1; unfold Dk.steps at h; rw [List.length_cons] at h; omega

theorem Dk.mends_can' {fl : List Int} {ps : List Ix.Pg} (h : Ix.pkgsOk ps = true) : ∀ s ∈ Dk.mends fl ps, Dk.canDo 6 s ∧ smallP s.ps := fun s hs => Dk.steps_can' (fl := fl) h s (List.mem_cons_of_mem _ hs)
theorem l22Mends_6 {N : Nat → Prop} (w : World) (a1 af : Option Addr) (n1 c1 cf : Nat) (has : Bool) (fl : List Int) (v2 : Value) (ps : List Ix.Pg) (hf : Ins w (.slice af 6 cf) fl) (h6 : fl.length = 6) (hp : Pks N w v2 ps) (hok : Ix.pkgsOk ps = true) :
    Calls Tryd.prog 23 #[.agg #[.slice a1 n1 c1, .slice af 6 cf, .bool has, v2]] w fun e w' => ∃ sa sc, e = .returned (.slice sa (if has = true then Dk.mends fl ps else []).length sc) ∧ Sts (fun b => w.heap.size ≤ b) w' (.slice sa (if has = true then Dk.mends fl ps else []).length sc) (if has = true then Dk.mends fl ps else []) ∧ Below w.heap.size w w' := by
  have h := l22Mends_any (N := N) w a1 af n1 c1 cf has fl v2 ps (by rw [h6]; exact hf) h6 hp hok
  rw [h6] at h
  refine h.mono ?_
  rintro e w' ⟨u, rfl, hS, b⟩
  obtain ⟨sa, sc, hu⟩ := hS.slice
  subst hu
  exact ⟨_, _, rfl, hS, b⟩

set_option linter.unusedSimpArgs false in
set_option maxHeartbeats 8000000 in
set_option maxRecDepth 100000 in
theorem drawDiskTrue_any (w : World) (a : Option Addr) (len cap : Nat) (h : Bytes w a len cap) :
    Calls Tryd.prog 6 #[.slice a len cap] w fun e w' => ∃ D v1 uf v2, e = .returned (dkV v1 uf D.has v2) ∧ DIn w' D v1 uf v2 ∧ Below w.heap.size w w' := by
  have CO := hide (open_behind w a len cap h (.cells #[.slice none 0 0, .slice none 0 0, .bool false, .slice none 0 0] 26))
  clear h
  go_enter Tryd.func6, Tryd.ntmps6
  go_wp2_with fail
  refine (unhide CO).mono ?_
  generalize w.alloc _ = W0 at *
  rintro e w1 ⟨rfl, hr1, hR1, b1, hs1⟩
  have HR1 := hide hR1
  have B1 := hide b1
  have HRD := hide hr1
  clear hR1 b1 hr1 CO
  clear W0
  go_wp2_with fail
  refine (l71Disk_any _ (w.heap.size + 1) 0 (unhide HRD) (by omega) (by omega)).mono ?_
  rintro e w2 ⟨D, v1, uf, v2, pv, ps, q2, rfl, hout, _, _, _, hq2, hr2, hk2⟩
  obtain ⟨db, fl, has, jr⟩ := D
  obtain ⟨f1, g1, i1⟩ := hout.p1.slice
  obtain ⟨af, cf, iff', hcf, hl1000, hrf⟩ := hout.pf
  obtain ⟨f2, g2, i2⟩ := hout.p2.slice
  dsimp only at i1 iff' i2 hcf hl1000
  subst i1 iff' i2
  have TD := hide (Dq.of ((Dr.start (unhide HRD) (by omega)).keep hk2 hr2) hout)
  clear hout hr2 hk2 hrf
  dsimp only [dkV] at *
  go_wp2_with fail
  generalize w2.heap.size = X at *
  generalize w2.alloc _ = w3 at *
  refine (pick_any _ (w.heap.size + 1) q2 2 (by exact (unhide TD).dr.rd) (by omega) (by omega) (by omega)).mono ?_
  rintro e w4 ⟨v4, rfl, v40, v41, hr4, hk4⟩
  replace TD := hide ((unhide TD).keep hk4 hr4)
  clear hr4 hk4
  by_cases h0 : v4 = 0
  · subst h0
    have CK := hide (specDiskOk_any w4 ⟨db, fl, has, jr⟩ _ _ _ (unhide TD).p1 (unhide TD).pf.ins (unhide TD).p2)
    have GD := hide (fun h => Dk.ok_get (d := ⟨db, fl, has, jr⟩) h)
    generalize Dk.D.ok ⟨db, fl, has, jr⟩ = dok at *
    obtain ⟨x0, x1, x2, x3⟩ := (unhide TD).cells
    go_wp2_with fail
    refine (unhide CK).mono ?_
    rintro e w5 ⟨rfl, b⟩
    replace TD := hide ((unhide TD).later b)
    clear b x0 x1 x2 x3 CK
    cases dok
    · clear GD
      have hR5 := (unhide TD).old (unhide HR1) (by omega)
      obtain ⟨⟨r0, j0⟩, ⟨r1, j1⟩, ⟨r2, j2⟩, r3, j3⟩ : (_ ∧ _) ∧ (_ ∧ _) ∧ (_ ∧ _) ∧ _ ∧ _ := ⟨⟨cellOf hR5 0, frozenOf hR5 0⟩, ⟨cellOf hR5 1, frozenOf hR5 1⟩, ⟨cellOf hR5 2, frozenOf hR5 2⟩, cellOf hR5 3, frozenOf hR5 3⟩
      obtain ⟨x0, x1, x2, x3⟩ := (unhide TD).cells
      have hb5 := (unhide TD).below (unhide B1) (Nat.le_succ _)
      have HR5 := hide hR5
      have HB5 := hide hb5
      clear hR5 hb5
      go_wp2
      obtain ⟨⟨q0, q1, q2, q3⟩, hbel, hfar⟩ := fin4 (a := .slice f1 db.length g1) (b := .slice af fl.length cf) (c := .bool has) (d := .slice f2 jr.length g2) (W := w) (unhide HR5) (Nat.le_refl _) (unhide HB5) rfl
      exact bodyPost_ret (v := .agg #[.slice f1 db.length g1, .slice af fl.length cf, .bool has, .slice f2 jr.length g2]) (by simp [results, Tryd.results6, go_sem, q0, q1, q2, q3]) rfl ⟨⟨db, fl, has, jr⟩, _, _, _, rfl, (unhide TD).reads hfar (by simp [World.setCell]) (by have := heapLt (unhide HR1); omega), hbel⟩
    · obtain ⟨gf, _, gj, _⟩ := unhide GD (by trivial)
      have hl6 : fl.length = 6 := (Dk.files_get gf).1
      have HL6 := hide hl6
      have HJ := hide (Ix.planOk_pkgs gj)
      rw [hl6] at TD
      rw [hl6]
      clear gf gj hl6 GD
      have hbd := below_drew w5
      replace TD := hide ((unhide TD).later hbd)
      clear hbd
      go_wp2_with fail
      refine wl_region (S := fun w' => w'.cell? ⟨X, 0, none⟩ = some (.slice f1 db.length g1) ∧ w'.cell? ⟨X, 1, none⟩ = some (.slice af 6 cf) ∧ w'.cell? ⟨X, 2, none⟩ = some (.bool has) ∧ w'.cell? ⟨X, 3, none⟩ = some (.slice f2 jr.length g2)) (s := 4) (by kernel_rfl) (unhide TD).cells (fun hHeld => ?_)
      refine wl_take (i := 0) (d := some 20) rfl rfl (by kernel_rfl) (by kernel_rfl) (by kernel_rfl) (by kernel_rfl) (by kernel_rfl) (fun _ _ _ h => h) (by rfl) (v := ?_) ?_ (by assumption) ?_
      rotate_left
      · (intro w hSw; (try dsimp only at hSw); go_simp <;> with_reducible rfl)
      simp only [Act.put, List.setIfInBounds_toArray, List.set_cons_zero, List.set_cons_succ]
      refine wl_take (i := 1) (d := some 21) rfl rfl (by kernel_rfl) (by kernel_rfl) (by kernel_rfl) (by kernel_rfl) (by kernel_rfl) (fun _ _ _ h => h) (by rfl) (v := ?_) ?_ (by assumption) ?_
      rotate_left
      · (intro w hSw; (try dsimp only at hSw); go_simp <;> with_reducible rfl)
      simp only [Act.put, List.setIfInBounds_toArray, List.set_cons_zero, List.set_cons_succ]
      refine wl_one (i := 2) (by kernel_rfl) rfl (by rfl) (fun K hK => ?_)
      go_simp
      refine (l22Mends_6 _ f1 af db.length g1 cf has fl _ jr (unhide TD).pf.ins (unhide HL6) (unhide TD).p2 (unhide HJ)).mono ?_
      rintro e w6 ⟨ua, uc, rfl, hsts, b⟩
      have HU : Hid (∀ b, w5.drew.heap.size ≤ b → (Value.slice af 6 cf).ownBlock ≠ some b) := fun b hb => ((unhide TD).sz6 (unhide HL6) b hb).2.1
      have HST := hide (hsts.weak (N' := fun b => (Value.slice af 6 cf).ownBlock ≠ some b) (unhide HU))
      replace TD := hide ((unhide TD).later b)
      have hml := Dk.mends_len fl jr
      have hmc := Dk.mends_can' (fl := fl) (unhide HJ)
      generalize Dk.mends fl jr = MM at *
      have hml2 : (if has = true then MM else []).length ≤ 8 := by
        split
        · omega
        · exact Nat.zero_le _
      have hmc2 : ∀ s ∈ (if has = true then MM else []), Dk.canDo 6 s ∧ smallP s.ps := fun s hs => by
        split at hs
        · exact hmc s hs
        · cases hs
      generalize (if has = true then MM else []) = LL at *
      have HMC := hide hmc2
      have hH := (unhide TD).cells
      clear hsts b HU hml hmc hmc2
      go_wp2_with fail
      refine hK.out _ _ (fun _ => (by assumption)) ?_
      clear hK K
      try simp only [Act.put, List.setIfInBounds_toArray, List.set_cons_zero, List.set_cons_succ]
      refine wl_one (i := 3) (by kernel_rfl) rfl (by rfl) (fun K hK => ?_)
      go_simp
      refine (l22To_rd (B := w1.heap.size) w6 has _ (.slice af 6 cf) _ db jr fl _ LL 20 false ((unhide TD).drd (unhide HL6)) (unhide TD).dr.size (fun b hb => hb.2.1) ((unhide TD).sz6 (unhide HL6)) (unhide HST) (by omega) (by rw [unhide HL6]; exact unhide HMC) (by omega) (by omega)).mono ?_
      rintro e w7 ⟨x, rfl, hret, hst6⟩
      have hl6 : (Dk.till ⟨db, fl, has, jr⟩ LL 20 false).fl.length = 6 := by rw [Dk.till_fl]; exact unhide HL6
      generalize Dk.till ⟨db, fl, has, jr⟩ LL 20 false = D2 at *
      obtain ⟨q1, q2', rfl, hans⟩ := hret
      obtain ⟨h1, k1, i1⟩ := hans.p1.slice
      obtain ⟨h2, k2, i2⟩ := hans.p2.slice
      subst i1 i2
      have HS6 := hide (fun w' hw => (unhide TD).store (w' := w') (D' := D2) (unhide HL6) hans hl6 hst6 hw)
      have hX6 := (hst6.block X (heapLt (unhide TD).hX) (own_ne ((unhide TD).own (unhide HL6)) (unhide TD).hX (by decide))).trans (unhide TD).hX
      obtain ⟨⟨z0, j0⟩, ⟨z1, j1⟩, ⟨z2, j2⟩, z3, j3⟩ : (_ ∧ _) ∧ (_ ∧ _) ∧ (_ ∧ _) ∧ _ ∧ _ := ⟨⟨cellOf hX6 0, frozenOf hX6 0⟩, ⟨cellOf hX6 1, frozenOf hX6 1⟩, ⟨cellOf hX6 2, frozenOf hX6 2⟩, cellOf hX6 3, frozenOf hX6 3⟩
      have hS6 : w7.cell? ⟨X, 0, none⟩ = some (.slice f1 db.length g1) ∧ w7.cell? ⟨X, 1, none⟩ = some (.slice af 6 cf) ∧ w7.cell? ⟨X, 2, none⟩ = some (.bool has) ∧ w7.cell? ⟨X, 3, none⟩ = some (.slice f2 jr.length g2) := ⟨z0, z1, z2, z3⟩
      clear hX6 hst6 hans hH hHeld
      dsimp only [dkV]
      go_wp2_with fail
      refine hK.out _ _ (fun _ => (by assumption)) ?_
      clear hK K
      try simp only [Act.put, List.setIfInBounds_toArray, List.set_cons_zero, List.set_cons_succ]
      refine wl_one (i := 4) (by kernel_rfl) rfl (by rfl) (fun K hK => ?_)
      go_simp
      have HI7 := hide (unhide HS6 _ rfl)
      clear TD
      have TD := HI7
      clear HI7
      generalize World.setCell _ _ _ = W7 at *
      refine hK.out _ _ (fun h => absurd rfl h) ?_
      clear hK K
      refine wl_done (by kernel_rfl) ?_
      clear z0 z1 z2 z3 j0 j1 j2 j3 hS6 HS6
      obtain ⟨db2, fl2, has2, jr2⟩ := D2
      have hR5 := (unhide TD).old (unhide HR1) (by omega)
      obtain ⟨⟨r0, j0⟩, ⟨r1, j1⟩, ⟨r2, j2⟩, r3, j3⟩ : (_ ∧ _) ∧ (_ ∧ _) ∧ (_ ∧ _) ∧ _ ∧ _ := ⟨⟨cellOf hR5 0, frozenOf hR5 0⟩, ⟨cellOf hR5 1, frozenOf hR5 1⟩, ⟨cellOf hR5 2, frozenOf hR5 2⟩, cellOf hR5 3, frozenOf hR5 3⟩
      obtain ⟨x0, x1, x2, x3⟩ := (unhide TD).cells
      have hb5 := (unhide TD).below (unhide B1) (Nat.le_succ _)
      have HR5 := hide hR5
      have HB5 := hide hb5
      clear hR5 hb5
      go_wp2
      obtain ⟨⟨q0, q1, q2, q3⟩, hbel, hfar⟩ := fin4 (a := .slice h1 db2.length k1) (b := .slice af 6 cf) (c := .bool has2) (d := .slice h2 jr2.length k2) (W := w) (unhide HR5) (Nat.le_refl _) (unhide HB5) rfl
      exact bodyPost_ret (v := .agg #[.slice h1 db2.length k1, .slice af 6 cf, .bool has2, .slice h2 jr2.length k2]) (by simp [results, Tryd.results6, go_sem, q0, q1, q2, q3]) rfl ⟨⟨db2, fl2, has2, jr2⟩, _, _, _, rfl, (unhide TD).reads hfar (by simp [World.setCell]) (by have := heapLt (unhide HR1); omega), hbel⟩
  · have h0' : (v4 == 0) = false := by simpa using h0
    have hR5 := (unhide TD).old (unhide HR1) (by omega)
    obtain ⟨⟨r0, j0⟩, ⟨r1, j1⟩, ⟨r2, j2⟩, r3, j3⟩ : (_ ∧ _) ∧ (_ ∧ _) ∧ (_ ∧ _) ∧ _ ∧ _ := ⟨⟨cellOf hR5 0, frozenOf hR5 0⟩, ⟨cellOf hR5 1, frozenOf hR5 1⟩, ⟨cellOf hR5 2, frozenOf hR5 2⟩, cellOf hR5 3, frozenOf hR5 3⟩
    obtain ⟨x0, x1, x2, x3⟩ := (unhide TD).cells
    have hb5 := (unhide TD).below (unhide B1) (Nat.le_succ _)
    have HR5 := hide hR5
    have HB5 := hide hb5
    clear hR5 hb5
    go_wp2
    obtain ⟨⟨q0, q1, q2, q3⟩, hbel, hfar⟩ := fin4 (a := .slice f1 db.length g1) (b := .slice af fl.length cf) (c := .bool has) (d := .slice f2 jr.length g2) (W := w) (unhide HR5) (Nat.le_refl _) (unhide HB5) rfl
    exact bodyPost_ret (v := .agg #[.slice f1 db.length g1, .slice af fl.length cf, .bool has, .slice f2 jr.length g2]) (by simp [results, Tryd.results6, go_sem, q0, q1, q2, q3]) rfl ⟨⟨db, fl, has, jr⟩, _, _, _, rfl, (unhide TD).reads hfar (by simp [World.setCell]) (by have := heapLt (unhide HR1); omega), hbel⟩
end Go.Proofs.YtpjpgofllnnemaaDoor

/- What laws.luInts returns: whether numbers are the same. -/
namespace Go.Proofs.YtpjpgofllnnemaaDoor
open Go.RowKit

attribute [local go_sem ↓] Go.wp_at_zero Go.wp_at_succ

set_option maxHeartbeats 4000000 in
set_option maxRecDepth 100000 in
theorem luInts_any (w : World) (va vb : Value) (a b : List Int) (ha : Ins w va a) (hb : Ins w vb b) :
    Calls Tryd.prog 11 #[va, vb] w fun e w' => e = .returned (.bool (decide (a = b))) ∧ Below w.heap.size w w' := by
  obtain ⟨aa, ac, rfl, hla, hra⟩ := ha
  obtain ⟨ba, bc, rfl, hlb, hrb⟩ := hb
  by_cases hl : a.length = b.length
  rotate_left
  · have hne : ((a.length : Int) != (b.length : Int)) = true := by rw [bne_iff_ne]; omega
    have HN : Hid (decide (a = b) = false) := decide_eq_false (fun e => hl (by rw [e]))
    clear hl
    go_enter Tryd.func11, Tryd.ntmps11
    go_wp2
    go_ret
    exact ⟨ret_bool (unhide HN).symm, Below.refl _ _⟩
  have hne : ((a.length : Int) != (b.length : Int)) = false := by rw [hl]; simp
  have HL := hide hl
  clear hl
  go_enter Tryd.func11, Tryd.ntmps11
  go_wp2_with fail
  go_loopw [5] (fun i w' => ∃ k : Nat, k ≤ a.length ∧ i = .int .i64 k ∧ Below w.heap.size w w' ∧ ∀ j, j < k → Ky.nth a j = Ky.nth b j) (fun i _ => a.length - (intOf i).toNat)
  case atStart => exact ⟨0, Nat.zero_le _, rfl, Below.refl _ _, fun j hj => by omega⟩
  case round =>
    obtain ⟨k, hk, rfl, hw, hs⟩ := hrel
    have HW := hide hw
    have HS := hide hs
    clear hw hs
    by_cases hlt : k < a.length
    · have hltb : k < b.length := by rw [← unhide HL]; exact hlt
      obtain ⟨b1, o1, rfl, hb1, hc1⟩ := hra (by omega)
      obtain ⟨b2, o2, rfl, hb2, hc2⟩ := hrb (by omega)
      have c1 := hc1 k hlt
      have c2 := hc2 k hltb
      rw [← (unhide HW).cell hb1] at c1
      rw [← (unhide HW).cell hb2] at c2
      clear hc1 hc2 hra hrb
      have hi0 : (0 : Int) ≤ (k : Int) := Int.natCast_nonneg _
      have hi1 : (k : Int) < (a.length : Int) := by omega
      have hi2 : (k : Int) < (b.length : Int) := by omega
      by_cases he : Ky.nth a k = Ky.nth b k
      · have hee : (Ky.nth a k != Ky.nth b k) = false := by rw [he]; simp
        have HE := hide he
        clear he
        go_wp2_with fail
        go_quiet (fail)
        go_wp2
        go_roundw
        case rel => exact ⟨k + 1, by omega, by go_num, below_drewN (unhide HW) _, fun j hj => by
          rcases Nat.lt_or_ge j k with h | h
          · exact unhide HS j h
          · obtain rfl : j = k := by omega
            exact unhide HE⟩
        case measure => simp [intOf]; omega
      · have hee : (Ky.nth a k != Ky.nth b k) = true := by rw [bne_iff_ne]; exact he
        have HN : Hid (decide (a = b) = false) := decide_eq_false (fun e => he (by rw [e]))
        clear he
        go_wp2_with fail
        go_quiet (fail)
        go_wp2
        go_ret
        exact ⟨ret_bool (unhide HN).symm, below_drewN (unhide HW) _⟩
    · obtain rfl : k = a.length := by omega
      have HN : Hid (decide (a = b) = true) := decide_eq_true (Ky.nth_ext (unhide HL) (unhide HS))
      clear hlt HL HS
      go_wp2
      go_ret
      exact ⟨ret_bool (unhide HN).symm, unhide HW⟩
end Go.Proofs.YtpjpgofllnnemaaDoor

/- The walk of FnExactDiskNew: it returns true. -/
namespace Go.Proofs.YtpjpgofllnnemaaDoor
open Go.RowKit

theorem Pks.none (w : World) : Pks (fun _ => True) w (.slice none 0 0) [] := ⟨.none, 0, rfl, by simp, fun h => absurd h (by simp)⟩
theorem Pks.empty (w : World) (g : Nat) : Pks (fun _ => True) w (.slice (some ⟨g, 0, .none⟩) 0 0) [] := ⟨some ⟨g, 0, .none⟩, 0, rfl, by simp, fun h => absurd h (by simp)⟩
theorem Ix.pkgsOk_nil : Ix.pkgsOk [] = true := by decide
theorem Ix.planFiles_nil : Ix.planFiles [] = Ix.filesTo [] 0 ∧ (Ix.planFiles []).length = 6 := by
  have h : Ix.planOk [] = true := by decide
  have e : Ix.planFiles [] = Ix.filesTo [] 0 := by unfold Ix.planFiles; rw [if_pos h, List.length_nil]
  exact ⟨e, by rw [e]; exact Ix.filesTo_len [] 0 (Nat.le_refl _)⟩

set_option maxHeartbeats 2000000 in
set_option maxRecDepth 100000 in
theorem implDiskNew_any (w : World) :
    Calls Tryd.prog 9 #[] w fun e w' => ∃ vf, e = .returned (dkV (.slice none 0 0) vf false (.slice none 0 0)) ∧ OwI w.heap.size w' vf (Ix.planFiles []) ∧ Below w.heap.size w w' := by
  have hlb : (Ix.planFiles []).length ≤ 1000 := by rw [Ix.planFiles_nil.2]; omega
  have CP := hide (fun (W : World) => implPlanFiles_any (N := fun _ => True) W (.slice none 0 0) [] (Pks.none W) (fun _ _ _ => Nat.zero_le _))
  generalize Ix.planFiles [] = PF at *
  have b0 := below1 w (.cells #[.slice none 0 0, .slice none 0 0, .bool false, .slice none 0 0] 26)
  have HR := hide (heap_alloc_new w (.cells #[.slice none 0 0, .slice none 0 0, .bool false, .slice none 0 0] 26))
  have BW := hide b0
  clear b0
  go_enter Tryd.func9, Tryd.ntmps9
  go_wp2_with fail
  refine (unhide CP _).mono ?_
  generalize w.alloc _ = W0 at *
  rintro e w1 ⟨u, rfl, ho, b⟩
  obtain ⟨ua, uc, hu⟩ := own_formS ho
  subst hu
  replace HR := hide ((b.block _ (heapLt (unhide HR))).trans (unhide HR))
  have HO := hide (own_base' ho (unhide BW).size)
  replace BW := hide ((unhide BW).trans (b.mono (unhide BW).size))
  obtain ⟨⟨c0, f0⟩, ⟨c1, f1⟩, ⟨c2, f2⟩, c3, f3⟩ : (_ ∧ _) ∧ (_ ∧ _) ∧ (_ ∧ _) ∧ _ ∧ _ := ⟨⟨cellOf (unhide HR) 0, frozenOf (unhide HR) 0⟩, ⟨cellOf (unhide HR) 1, frozenOf (unhide HR) 1⟩, ⟨cellOf (unhide HR) 2, frozenOf (unhide HR) 2⟩, cellOf (unhide HR) 3, frozenOf (unhide HR) 3⟩
  clear ho b CP
  go_wp2
  obtain ⟨⟨q0, q1, q2, q3⟩, hbel, hfar⟩ := fin4 (a := .slice none 0 0) (b := .slice ua PF.length uc) (c := .bool false) (d := .slice none 0 0) (W := w) (unhide HR) (Nat.le_refl _) (unhide BW) rfl
  exact bodyPost_ret (v := .agg #[.slice none 0 0, .slice ua PF.length uc, .bool false, .slice none 0 0]) (by simp [results, Tryd.results9, go_sem, q0, q1, q2, q3]) rfl ⟨_, rfl, own_keepS (unhide HO) (fun g _ e _ _ => hfar g (fun e2 => own_ne (unhide HO) (unhide HR) (by decide) (by rw [e, e2]))), hbel⟩

set_option maxHeartbeats 2000000 in
set_option maxRecDepth 100000 in
theorem specDiskNew_any (w : World) :
    Calls Tryd.prog 38 #[] w fun e w' => ∃ g1 g2 vf, e = .returned (dkV (.slice (some ⟨g1, 0, none⟩) 0 0) vf false (.slice (some ⟨g2, 0, none⟩) 0 0)) ∧ Ins w' vf (Ix.planFiles []) ∧ Below w.heap.size w w' := by
  have hlb : (Ix.planFiles []).length ≤ 1000 := by rw [Ix.planFiles_nil.2]; omega
  have CP : Hid (∀ W : World, Calls Tryd.prog 26 #[.slice none 0 0] W fun e w' => ∃ u, e = .returned u ∧ OwI W.heap.size w' u (Ix.planFiles []) ∧ Below W.heap.size W w') := fun W => by
    rw [Ix.planFiles_nil.1]
    exact l13Files_any (N := fun _ => True) W (.slice none 0 0) [] (Pks.none W) Ix.pkgsOk_nil
  generalize Ix.planFiles [] = PF at *
  have b0 := below1 w (.cells #[.slice none 0 0, .slice none 0 0, .bool false, .slice none 0 0] 26)
  have hR := heap_alloc_new w (.cells #[.slice none 0 0, .slice none 0 0, .bool false, .slice none 0 0] 26)
  have b1 := below1 (w.alloc (.cells #[.slice none 0 0, .slice none 0 0, .bool false, .slice none 0 0] 26)) (.cells #[] 56)
  have HR := hide ((b1.block _ (heapLt hR)).trans hR)
  have BW := hide (b0.trans (b1.mono b0.size))
  clear b0 b1 hR
  go_enter Tryd.func38, Tryd.ntmps38
  go_wp2_with fail
  refine (unhide CP _).mono ?_
  generalize World.alloc _ _ = W0 at *
  rintro e w1 ⟨u, rfl, ho, b⟩
  obtain ⟨ua, uc, hu⟩ := own_formS ho
  subst hu
  have b2 := below1 w1 (.cells #[] 56)
  have b12 := b.trans (b2.mono b.size)
  have hR := (b12.block _ (heapLt (unhide HR))).trans (unhide HR)
  replace HR := hide hR
  have HO := hide (own_later ho b2)
  replace BW := hide ((unhide BW).trans (b12.mono (unhide BW).size))
  obtain ⟨⟨c0, f0⟩, ⟨c1, f1⟩, ⟨c2, f2⟩, c3, f3⟩ : (_ ∧ _) ∧ (_ ∧ _) ∧ (_ ∧ _) ∧ _ ∧ _ := ⟨⟨cellOf hR 0, frozenOf hR 0⟩, ⟨cellOf hR 1, frozenOf hR 1⟩, ⟨cellOf hR 2, frozenOf hR 2⟩, cellOf hR 3, frozenOf hR 3⟩
  clear ho b CP b2 b12 hR
  go_wp2
  obtain ⟨⟨q0, q1, q2, q3⟩, hbel, hfar⟩ := fin4 (a := .slice (some ⟨w.heap.size + 1, 0, none⟩) 0 0) (b := .slice ua PF.length uc) (c := .bool false) (d := .slice (some ⟨w1.heap.size, 0, none⟩) 0 0) (W := w) (unhide HR) (Nat.le_refl _) (unhide BW) rfl
  exact bodyPost_ret (v := .agg #[.slice (some ⟨w.heap.size + 1, 0, none⟩) 0 0, .slice ua PF.length uc, .bool false, .slice (some ⟨w1.heap.size, 0, none⟩) 0 0]) (by simp [results, Tryd.results38, go_sem, q0, q1, q2, q3]) rfl ⟨_, _, _, rfl, OwI.wide (own_keepS (unhide HO) (fun g _ e _ _ => hfar g (fun e2 => own_ne (unhide HO) (unhide HR) (by decide) (by rw [e, e2])))) (by omega), hbel⟩


end Go.Proofs.YtpjpgofllnnemaaDoor
