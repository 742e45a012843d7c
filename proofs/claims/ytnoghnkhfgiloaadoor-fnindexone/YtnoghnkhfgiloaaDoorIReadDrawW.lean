/- What spec.DrawIndexText and DrawIndexRead return: an index, its row made since; a text. Nothing old is written. -/
import Derived.Test.YtnoghnkhfgiloaaDoorIndexDrawW
import Derived.Test.YtnoghnkhfgiloaaDoorIndexTextW
import Derived.Test.YtnoghnkhfgiloaaDoorIdxReadMath
import Derived.Test.YtnoghnkhfgiloaaDoorDrawW
import Derived.Deep.RegionLaw
namespace Go.Proofs.YtnoghnkhfgiloaaDoor
open Go.RowKit

theorem itext_le (num til : Int) (ms : List Ix.M) : (⟨(Ix.text num til ms).toArray⟩ : ByteArray).size ≤ 120 := by
  show (Ix.text num til ms).length ≤ 120
  cases h : Ix.idxOk num til ms
  · rw [Ix.text_bad h]; exact Nat.zero_le _
  · exact Ix.text_le120 h
theorem fiveD (w : World) (a b c d e : ByteArray) : ∀ i, i < 5 → (w.alloc (.cells #[.string a, .string b, .string c, .string d, .string e] 9)).drew.cell? ⟨w.heap.size, 0 + i, none⟩ = some (.string (#[a, b, c, d, e].getD i ⟨#[]⟩)) := by
  intro i hi
  show (w.alloc _).cell? _ = _
  rw [World.cell?_alloc_new]
  match i, hi with
  | 0, _ => rfl
  | 1, _ => rfl
  | 2, _ => rfl
  | 3, _ => rfl
  | 4, _ => rfl
  | n + 5, h => omega
theorem five_len (i : Nat) (hi : i < 5) : (#[(⟨#[48]⟩ : ByteArray), ⟨#[32]⟩, ⟨#[10]⟩, ⟨#[97, 49, 32, 53, 10]⟩, ⟨#[57]⟩].getD i ⟨#[]⟩).size ≤ 5 := by
  match i, hi with
  | 0, _ => decide
  | 1, _ => decide
  | 2, _ => decide
  | 3, _ => decide
  | 4, _ => decide
  | n + 5, h => omega

set_option maxHeartbeats 2000000 in
set_option maxRecDepth 100000 in
theorem drawIText_any (w : World) (a : Option Addr) (len cap : Nat) (h : Bytes w a len cap) :
    Calls Tryd.prog 8 #[.slice a len cap] w fun e w' => ∃ (num til : Int) (ma : Option Addr) (mc : Nat) (ms : List Ix.M), e = .returned (.agg #[.int .i64 num, .int .i64 til, .slice ma ms.length mc]) ∧ ms.length ≤ 9 ∧ w'.ownsRow w.heap.size 45 3 (.slice ma ms.length mc) ms.length (flat3 ms) ∧ Below w.heap.size w w' := by
  have H := hide (h.later (below1 w (.cells #[.int .i64 0, .int .i64 0, .slice none 0 0] 25)))
  have BW := hide (below1 w (.cells #[.int .i64 0, .int .i64 0, .slice none 0 0] 25))
  have HR := hide (heap_alloc_new w (.cells #[.int .i64 0, .int .i64 0, .slice none 0 0] 25))
  clear h
  go_enter Tryd.func8, Tryd.ntmps8
  go_wp2_with fail
  refine (open_any _ a len cap (unhide H)).mono ?_
  generalize w.alloc _ = W0 at *
  rintro e w1 ⟨rfl, hr1, b1⟩
  have hz1 := b1.size
  have hz0 := (unhide BW).size
  have HR1 := hide hr1
  have hrne : w.heap.size < W0.heap.size := heapLt (unhide HR)
  replace HR := hide ((b1.block _ (heapLt (unhide HR))).trans (unhide HR))
  replace BW := hide ((unhide BW).trans (b1.mono (unhide BW).size))
  clear hr1 b1 H
  go_wp2_with fail
  refine (l71Index_any _ _ 0 (unhide HR1) hz1 (by omega)).mono ?_
  rintro e w2 ⟨num, til, mv, ms, p2, rfl, _, _, _, _, hml, hp2, hdr, of1⟩
  have hk2 := hdr.kp
  replace HR := hide ((hk2.block _ (heapLt (unhide HR)) (by omega)).trans (unhide HR))
  replace BW := hide ((unhide BW).trans ((hk2.mono (Nat.le_trans hz0 hz1)).below (Nat.le_of_lt hrne)))
  obtain ⟨ma, mc, hmv⟩ := own_formS of1
  subst hmv
  have HO := hide (own_base of1 (Nat.le_trans hz0 hz1))
  obtain ⟨⟨r0, s0⟩, ⟨r1, s1⟩, r2, s2⟩ : (_ ∧ _) ∧ (_ ∧ _) ∧ _ ∧ _ := ⟨⟨cellOf (unhide HR) 0, frozenOf (unhide HR) 0⟩, ⟨cellOf (unhide HR) 1, frozenOf (unhide HR) 1⟩, cellOf (unhide HR) 2, frozenOf (unhide HR) 2⟩
  clear of1 hdr hk2 HR1
  go_wp2_with fail
  obtain ⟨⟨q0, q1, q2⟩, hbel, hfar⟩ := fin3 (a := .int .i64 num) (b := .int .i64 til) (c := .slice ma ms.length mc) (unhide HR) (Nat.le_refl _) (unhide BW) rfl
  exact bodyPost_ret (v := .agg #[.int .i64 num, .int .i64 til, .slice ma ms.length mc]) (by simp [results, Tryd.results8, go_sem, q0, q1, q2]) rfl ⟨num, til, ma, mc, ms, rfl, hml, own_keepS (unhide HO) (fun g cur _ _ hg => hfar g (fun e => by rw [e] at hg; rw [unhide HR] at hg; injection hg with hg; injection hg with _ hg _; exact absurd hg (by decide))), hbel⟩

set_option maxHeartbeats 2000000 in
set_option maxRecDepth 100000 in
theorem drawIRead_any (w : World) (a : Option Addr) (len cap : Nat) (h : Bytes w a len cap) :
    Calls Tryd.prog 14 #[.slice a len cap] w fun e w' => ∃ s : ByteArray, e = .returned (.string s) ∧ Below w.heap.size w w' := by
  have HH : Hid (Bytes _ _ _ _) := h
  clear h
  go_enter Tryd.func14, Tryd.ntmps14
  go_wp2_with fail
  refine (open_any w a len cap (unhide HH)).mono ?_
  rintro e w1 ⟨rfl, hr1, hb1⟩
  have hz1 := hb1.size
  have hblk1 := hr1.lt
  have HR1 : Hid (Rd _ _ _ _) := hr1
  have HB1 : Hid (Below _ _ _) := hb1
  clear hr1 hb1 HH
  go_wp2_with fail
  refine (l71Index_any _ _ 0 (unhide HR1) hz1 (by omega)).mono ?_
  rintro e w2 ⟨num, til, mv, ms, p2, rfl, _, _, _, _, hml, hp2, hdr, of1⟩
  have P1 : Hid (Trs _ _ _) := Trs.own of1 (by omega)
  have hr2 := hdr.rd
  have hk2 := hdr.kp
  have hz2 := hk2.size
  have HR2 : Hid (Rd _ _ _ _) := hr2
  have HB2 : Hid (Below _ _ _) := (unhide HB1).trans ((hk2.mono hz1).below (Nat.le_refl _))
  obtain ⟨ma, mc, hmv⟩ := own_formS of1
  subst hmv
  clear of1 hdr hr2 hk2 HR1 HB1
  go_wp2_with fail
  refine (indexText_any _ num til _ ms (unhide P1)).mono ?_
  rintro e w3 ⟨rfl, hb3⟩
  obtain ⟨s3, hs3, hl3⟩ : ∃ s : ByteArray, (⟨(Ix.text num til ms).toArray⟩ : ByteArray) = s ∧ s.size ≤ 120 := ⟨_, rfl, itext_le num til ms⟩
  rw [hs3]
  have hz3 := hb3.size
  have HR3 : Hid (Rd _ _ _ _) := (unhide HR2).later (by omega) hb3
  have HB3 : Hid (Below _ _ _) := (unhide HB2).trans (hb3.mono (by omega))
  clear hs3 hb3 HR2 HB2 P1
  have hn1 : (1 : Int) ≤ (s3.size : Int) + 1 := by omega
  go_wp2_with fail
  refine (pick_any _ _ p2 (s3.size + 1 : Nat) (unhide HR3) (by omega) (by omega) (by omega)).mono ?_
  rintro e w4 ⟨v4, rfl, v40, v41, hr4, hk4⟩
  have hz4 := hk4.size
  have HR4 : Hid (Rd _ _ _ _) := hr4
  have HB4 : Hid (Below _ _ _) := (unhide HB3).trans ((hk4.mono (by omega)).below (Nat.le_refl _))
  clear hr4 hk4 HR3 HB3
  obtain ⟨n4, rfl⟩ := Int.eq_ofNat_of_zero_le v40
  have hn4 : n4 ≤ s3.size := by omega
  go_wp2_with fail
  refine (pick_any _ _ (p2 + 1) 8 (unhide HR4) (by omega) (by omega) (by omega)).mono ?_
  rintro e w5 ⟨v5, rfl, v50, v51, hr5, hk5⟩
  have hz5 := hk5.size
  have HR5 : Hid (Rd _ _ _ _) := hr5
  have HB5 : Hid (Below _ _ _) := (unhide HB4).trans ((hk5.mono (by omega)).below (Nat.le_refl _))
  clear hr5 hk5 HR4 HB4
  have hi1 : (n4 : Int) ≤ (s3.size : Int) := by omega
  by_cases h0 : v5 = 0
  · subst h0
    go_wp2
    go_ret
    exact ⟨_, rfl, unhide HB5⟩
  have h0b : (v5 == 0) = false := by simp [h0]
  by_cases h1 : v5 = 1
  · subst h1
    have HRa : Hid (∀ o, Rd w.heap.size (w5.alloc o).drew w.heap.size (p2 + 1 + 1)) := fun o => (unhide HR5).later (by omega) (((Below.refl _ _).alloc (Nat.le_refl _) _).drew)
    have hex : (s3.extract 0 n4).size ≤ 120 := by rw [ByteArray.size_extract]; omega
    have hex2 : (s3.extract n4 s3.size).size ≤ 120 := by rw [ByteArray.size_extract]; omega
    go_wp2_with fail
    go_region_law (go_simp; go_at_call 32; refine (of_any _ _ (p2 + 1 + 1) w5.heap.size 0 5 5 (fun i => #[(⟨#[48]⟩ : ByteArray), ⟨#[32]⟩, ⟨#[10]⟩, ⟨#[97, 49, 32, 53, 10]⟩, ⟨#[57]⟩].getD i ⟨#[]⟩) (by exact (unhide HRa) _) (by omega) (by omega) (by omega) (by omega) (by omega) (by exact fiveD _ _ _ _ _ _)).mono ?_; rintro e w8 ⟨i, hi, rfl, hr8, hk8⟩; have hlen8 := five_len i hi; generalize Array.getD _ i _ = t8 at *; have hc1 : ¬ 9223372036854775807 < n4 + t8.size := (by omega); have hc2 : ¬ 9223372036854775807 < n4 + t8.size + (s3.size - n4) := (by omega); dsimp only)
    all_goals
      have HB8 : Hid (Below w.heap.size w w8) := (((unhide HB5).alloc (by omega) _).drew).trans ((hk8.mono (Nat.le_trans (Nat.le_trans (by omega) (Nat.le_succ _)) (Nat.le_of_eq (sz1 w5 _).symm))).below (Nat.le_refl _))
      clear hr8 hk8
      go_wp2
      go_ret
      exact ⟨_, rfl, unhide HB8⟩
  have h1b : (v5 == 1) = false := by simp [h1]
  go_wp2
  go_ret
  exact ⟨_, rfl, unhide HB5⟩
end Go.Proofs.YtnoghnkhfgiloaaDoor
