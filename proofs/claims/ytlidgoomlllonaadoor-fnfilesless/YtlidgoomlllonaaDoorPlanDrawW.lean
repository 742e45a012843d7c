/- What spec's l71Plan, DrawPlanOk and DrawPlanFiles return: packages in memory of their own; those of l71Plan can be in together. -/
import Derived.Test.YtlidgoomlllonaaDoorForW
import Derived.Test.YtlidgoomlllonaaDoorOffDrawW
import Derived.Test.YtlidgoomlllonaaDoorOpenW
namespace Go.Proofs.YtlidgoomlllonaaDoor
open Go.RowKit

theorem Ix.forD_ok {st ha out : List Ix.Pg} {x : Int} (h : Ix.forD st ha x = some out) : Ix.planOk out = true := by
  unfold Ix.forD Ix.forO at h
  split at h
  · cases h
  · split at h
    · rename_i h1
      injection h with h
      rw [← h]
      exact h1
    · cases h
theorem Ix.planOk_each {l : List Ix.Pg} (h : Ix.planOk l = true) : ∀ p ∈ l, Ix.pOk p = true := (Ix.pkgsOk_pair.1 (Ix.planOk_pkgs h)).1
theorem Pks.kpB {w w' : World} {v : Value} {l : List Ix.Pg} {blk : Nat} (h : Pks (fun b => blk < b) w v l) (hk : Kp w.heap.size blk w w') : Pks (fun b => blk < b) w' v l :=
  h.keep hk.size (fun k hk1 hN => hk.block k hk1 (by omega))

set_option maxHeartbeats 4000000 in
set_option maxRecDepth 100000 in
theorem l71Plan_any {B : Nat} (w : World) (blk p : Nat) (sv : Value) (st : List Ix.Pg) (h : Rd B w blk p) (hB : B ≤ w.heap.size) (hp : p ≤ 800000000) (hs : Pks (fun b => blk < b) w sv st) (hst : ∀ q ∈ st, Ix.pOk q = true) :
    Calls Tryd.prog 18 #[.pointer (some ⟨blk, 0, none⟩), sv] w fun e w' => ∃ v els p', e = .returned v ∧ POx w.heap.size w' v els ∧ Ix.planOk (els.map (·.1)) = true ∧ p' ≤ p + 4 ∧ Rd B w' blk p' ∧ Kp w.heap.size blk w w' := by
  have hlt := h.lt
  have b0 := below1 w (.cells #[] 30)
  have HR0 := hide (h.later hB b0)
  have HK0 : Hid (Kp w.heap.size blk w (w.alloc (.cells #[] 30))) := Kp.of_below b0
  have HE0 := hide (POwn.empty w)
  have HS0 := hide (hs.later b0)
  have HST := hide hst
  have hz0 := sz1 w (.cells #[] 30)
  have HZ0 := hide hz0
  obtain ⟨sa, sc, hsv⟩ := hs.slice
  subst hsv
  clear h hs hst b0 hz0
  go_enter Tryd.func18, Tryd.ntmps18
  go_wp2_with fail
  refine (pick_any _ blk p 3 (unhide HR0) (by omega) (by omega) (by omega)).mono ?_
  generalize w.alloc _ = W0 at *
  rintro e w1 ⟨v1, rfl, v10, v11, hr1, hk1⟩
  have HR1 := hide hr1
  have HE1 := hide ((unhide HE0).kp hk1 hlt)
  have HK1 : Hid (Kp w.heap.size blk w w1) := (unhide HK0).trans hk1 (unhide HK0).size
  have HS1 := hide ((unhide HS0).kpB hk1)
  clear hr1 hk1 HR0 HK0 HE0 HS0 HZ0
  clear W0
  go_wp2_with fail
  go_loopw [5, 6] (fun o n w' => ∃ (els : List El) (j : Int) (q : Nat), n = .int .i64 j ∧ 0 ≤ j ∧ (q : Int) + j ≤ p + 3 ∧ Ix.planOk (els.map (·.1)) = true ∧ POx w.heap.size w' o els ∧ Pks (fun b => blk < b) w' (.slice sa st.length sc) st ∧ Rd B w' blk q ∧ Kp w.heap.size blk w w') (fun _ n _ => (intOf n).toNat)
  case atStart => exact ⟨[], v1, p + 1, rfl, v10, by omega, rfl, unhide HE1, unhide HS1, unhide HR1, unhide HK1⟩
  case round =>
    clear HE1 HS1 HR1 HK1 v10 v11
    clear w1
    obtain ⟨els, j, q, rfl, j0, hq, hok, ho, hs, hr, hk⟩ := hrel
    have HOK := hide hok
    have HO := hide ho
    have HS := hide hs
    have HR := hide hr
    have HK := hide hk
    have hsz := hk.size
    obtain ⟨oa, oc, hov⟩ := own_formS ho.own
    subst hov
    clear hok ho hs hr hk
    by_cases hj : 0 < j
    · have er : IntKind.i64.wrap (j - 1) = j - 1 := by simp [IntKind.wrap, IntKind.bits, IntKind.signed]; omega
      go_wp2_with fail
      refine (pick_any _ blk q 4 (unhide HR) (by omega) (by omega) (by omega)).mono ?_
      rintro e w2 ⟨v2, rfl, v20, v21, hr2, hk2⟩
      have e2 : IntKind.i64.wrap (1 + v2) = 1 + v2 := wrap_small v20 (by omega)
      have HR2 := hide hr2
      have HO2 := hide ((unhide HO).kp hk2 hlt)
      have HS2 := hide ((unhide HS).kpB hk2)
      have HK2 : Hid (Kp w.heap.size blk w w2) := (unhide HK).trans hk2 (unhide HK).size
      have hsz2 := (unhide HK2).size
      have hel := Ix.pkgs_len (Ix.planOk_pkgs (unhide HOK))
      rw [List.length_map] at hel
      have hP2 := (POwn.weak (unhide HO2) (M := fun b => blk < b) (fun b hb => by have := hb.1; omega)).pks (fun b hb => by omega) (by omega)
      have CF := hide (l13For_any w2 (.slice sa st.length sc) (.slice oa els.length oc) st (els.map (·.1)) (1 + v2) (unhide HS2) hP2 (unhide HST) (Ix.planOk_each (unhide HOK)) (by omega) (by omega))
      clear hr2 hk2 HR HO HS HK hP2
      have hfo := fun out => Ix.forD_ok (st := st) (ha := els.map (·.1)) (out := out) (x := 1 + v2)
      generalize Ix.forD st (els.map (·.1)) (1 + v2) = fd at *
      go_wp2_with fail
      refine (unhide CF).mono ?_
      rintro e w3 ⟨ov, els3, rfl, ho3, hmap, b3⟩
      have HR3 := hide ((unhide HR2).later (by omega) b3)
      have HS3 := hide ((unhide HS2).later b3)
      have HK3 : Hid (Kp w.heap.size blk w w3) := (unhide HK2).trans (Kp.of_below b3) (unhide HK2).size
      have HO3 := hide ((unhide HO2).later b3)
      have HP3 := hide (POx.base ho3 hsz2)
      obtain ⟨pa, pc, hov⟩ := own_formS ho3.own
      subst hov
      clear ho3 b3 CF HR2 HS2 HK2 HO2
      cases fd with
      | none =>
        dsimp only [Option.isSome]
        clear hmap hfo
        go_wp2
        go_roundw
        case rel => exact ⟨els, j - 1, q + 1, by go_num, by omega, by omega, unhide HOK, unhide HO3, unhide HS3, unhide HR3, unhide HK3⟩
        case measure => simp [intOf]; omega
      | some out =>
        dsimp only [Option.isSome]
        have hok3 : Ix.planOk (els3.map (·.1)) = true := by rw [hmap]; exact hfo out rfl
        have HOK3 := hide hok3
        clear hmap hfo hok3
        go_wp2
        go_roundw
        case rel => exact ⟨els3, j - 1, q + 1, by go_num, by omega, by omega, unhide HOK3, unhide HP3, unhide HS3, unhide HR3, unhide HK3⟩
        case measure => simp [intOf]; omega
    · obtain rfl : j = 0 := by omega
      go_wp2
      go_ret
      exact ⟨_, rfl, els, unhide HO, unhide HOK, q, by omega, unhide HR, unhide HK⟩
end Go.Proofs.YtlidgoomlllonaaDoor
