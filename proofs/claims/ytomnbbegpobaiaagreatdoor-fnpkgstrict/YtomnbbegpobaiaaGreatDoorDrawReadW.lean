/- What spec.DrawPkgRead returns: a text; nothing old is written. -/
import Derived.Test.YtomnbbegpobaiaaGreatDoorAnyDrawW
import Derived.Test.YtomnbbegpobaiaaGreatDoorPkgTextW
import Derived.Test.YtomnbbegpobaiaaGreatDoorDrawW
import Derived.Test.YtomnbbegpobaiaaGreatDoorReadMath
import Derived.Deep.RegionLaw
namespace Go.Proofs.YtomnbbegpobaiaaGreatDoor
open Go.RowKit

theorem text_le16 (nm vr : Int) (fs ds : List (Int × Int)) : (Pk.text nm vr fs ds).length ≤ 30 := by
  cases h : Pk.pkgOk nm vr fs ds
  · rw [text_bad h]; simp
  · exact Pk.text_le30 h
theorem six (w : World) (a b c d e f : ByteArray) : ∀ i, i < 6 → (w.alloc (.cells #[.string a, .string b, .string c, .string d, .string e, .string f] 9)).cell? ⟨w.heap.size, 0 + i, none⟩ = some (.string (#[a, b, c, d, e, f].getD i ⟨#[]⟩)) := by
  intro i hi
  rw [World.cell?_alloc_new]
  match i, hi with
  | 0, _ => rfl
  | 1, _ => rfl
  | 2, _ => rfl
  | 3, _ => rfl
  | 4, _ => rfl
  | 5, _ => rfl
  | n + 6, h => omega
theorem sixD (w : World) (a b c d e f : ByteArray) (i : Nat) (hi : i < 6) : (w.alloc (.cells #[.string a, .string b, .string c, .string d, .string e, .string f] 9)).drew.cell? ⟨w.heap.size, 0 + i, none⟩ = some (.string (#[a, b, c, d, e, f].getD i ⟨#[]⟩)) := six w a b c d e f i hi
theorem six_len (i : Nat) (hi : i < 6) : (#[(⟨#[48]⟩ : ByteArray), ⟨#[32]⟩, ⟨#[58]⟩, ⟨#[98]⟩, ⟨#[32, 51, 58, 49]⟩, ⟨#[122]⟩].getD i ⟨#[]⟩).size ≤ 4 := by
  match i, hi with
  | 0, _ => decide
  | 1, _ => decide
  | 2, _ => decide
  | 3, _ => decide
  | 4, _ => decide
  | 5, _ => decide
  | n + 6, h => omega

set_option maxHeartbeats 2000000 in
set_option maxRecDepth 100000 in
theorem drawRead_any (w : World) (a : Option Addr) (len cap : Nat) (h : Bytes w a len cap) :
    Calls Tryz.prog 13 #[.slice a len cap] w fun e w' => ∃ s : ByteArray, e = .returned (.string s) ∧ Below w.heap.size w w' := by
  have HH : Hid (Bytes _ _ _ _) := h
  clear h
  go_enter Tryz.func13, Tryz.ntmps13
  go_wp2_with fail
  refine (open_any w a len cap (unhide HH)).mono ?_
  rintro e w1 ⟨rfl, hr1, hb1⟩
  have hz1 := hb1.size
  have hblk1 := hr1.lt
  have HR1 : Hid (Rd _ _ _ _) := hr1
  have HB1 : Hid (Below _ _ _) := hb1
  clear hr1 hb1 HH
  go_wp2_with fail
  refine (l71Any_any _ _ 0 (unhide HR1) hz1 (by omega)).mono ?_
  rintro e w2 ⟨nm, vr, fv, dv, fs, ds, p2, rfl, fl, dl, hp2, of1, od1, hr2, hk2⟩
  have P1 : Hid (Prs _ _ _) := Prs.own of1 (by omega)
  have P2 : Hid (Prs _ _ _) := Prs.own od1 (by omega)
  have hz2 := hk2.size
  have HR2 : Hid (Rd _ _ _ _) := hr2
  have HB2 : Hid (Below _ _ _) := (unhide HB1).trans ((hk2.mono hz1).below (Nat.le_refl _))
  clear of1 od1 hr2 hk2 HR1 HB1
  go_wp2_with fail
  refine (pkgText_any _ nm vr fv dv fs ds (unhide P1) (unhide P2)).mono ?_
  rintro e w3 ⟨rfl, hb3⟩
  obtain ⟨s3, hs3, hl3⟩ : ∃ s : ByteArray, (⟨(Pk.text nm vr fs ds).toArray⟩ : ByteArray) = s ∧ s.size ≤ 30 := ⟨_, rfl, text_le16 nm vr fs ds⟩
  rw [hs3]
  have hz3 := hb3.size
  have HR3 : Hid (Rd _ _ _ _) := (unhide HR2).later (by omega) hb3
  have HB3 : Hid (Below _ _ _) := (unhide HB2).trans (hb3.mono (by omega))
  clear hs3 hb3 HR2 HB2 P1 P2 fl dl
  have hn1 : (1 : Int) ≤ (s3.size : Int) + 1 := by omega
  go_wp2_with fail
  refine (pick_any _ _ p2 (s3.size + 1 : Nat) (unhide HR3) (by omega) (by omega) (by omega)).mono ?_
  rintro e w4 ⟨v4, rfl, v40, v41, hr4, hk4⟩
  have hz4 := hk4.size
  have HR4 : Hid (Rd _ _ _ _) := hr4
  have HB4 : Hid (Below _ _ _) := (unhide HB3).trans ((hk4.mono (by omega)).below (Nat.le_refl _))
  clear hr4 hk4 HR3 HB3
  obtain ⟨n4, rfl⟩ := Int.eq_ofNat_of_zero_le v40
  have hn4 : n4 ≤ s3.size := by omega
  go_wp2_with fail
  refine (pick_any _ _ (p2 + 1) 8 (unhide HR4) (by omega) (by omega) (by omega)).mono ?_
  rintro e w5 ⟨v5, rfl, v50, v51, hr5, hk5⟩
  have hz5 := hk5.size
  have HR5 : Hid (Rd _ _ _ _) := hr5
  have HB5 : Hid (Below _ _ _) := (unhide HB4).trans ((hk5.mono (by omega)).below (Nat.le_refl _))
  clear hr5 hk5 HR4 HB4
  have hi1 : (n4 : Int) ≤ (s3.size : Int) := by omega
  by_cases h0 : v5 = 0
  · subst h0
    go_wp2
    go_ret
    exact ⟨_, rfl, unhide HB5⟩
  have h0b : (v5 == 0) = false := by simp [h0]
  by_cases h1 : v5 = 1
  · subst h1
    have HRa : Hid (∀ o, Rd w.heap.size (w5.alloc o).drew w.heap.size (p2 + 1 + 1)) := fun o => (unhide HR5).later (by omega) (((Below.refl _ _).alloc (Nat.le_refl _) _).drew)
    have hex : (s3.extract 0 n4).size ≤ 30 := by rw [ByteArray.size_extract]; omega
    have hex2 : (s3.extract n4 s3.size).size ≤ 30 := by rw [ByteArray.size_extract]; omega
    go_wp2_with fail
    go_region_law (go_simp; go_at_call 32; refine (of_any _ _ (p2 + 1 + 1) w5.heap.size 0 6 6 (fun i => #[(⟨#[48]⟩ : ByteArray), ⟨#[32]⟩, ⟨#[58]⟩, ⟨#[98]⟩, ⟨#[32, 51, 58, 49]⟩, ⟨#[122]⟩].getD i ⟨#[]⟩) (by exact (unhide HRa) _) (by omega) (by omega) (by omega) (by omega) (by omega) (by exact sixD _ _ _ _ _ _ _)).mono ?_; rintro e w8 ⟨i, hi, rfl, hr8, hk8⟩; have hlen8 := six_len i hi; generalize Array.getD _ i _ = t8 at *; have hc1 : ¬ 9223372036854775807 < n4 + t8.size := (by omega); have hc2 : ¬ 9223372036854775807 < n4 + t8.size + (s3.size - n4) := (by omega); dsimp only)
    all_goals
      have HB8 : Hid (Below w.heap.size w w8) := (((unhide HB5).alloc (by omega) _).drew).trans ((hk8.mono (Nat.le_trans (Nat.le_trans (by omega) (Nat.le_succ _)) (Nat.le_of_eq (sz1 w5 _).symm))).below (Nat.le_refl _))
      clear hr8 hk8
      go_wp2
      go_ret
      exact ⟨_, rfl, unhide HB8⟩
  have h1b : (v5 == 1) = false := by simp [h1]
  go_wp2
  go_ret
  exact ⟨_, rfl, unhide HB5⟩
end Go.Proofs.YtomnbbegpobaiaaGreatDoor
