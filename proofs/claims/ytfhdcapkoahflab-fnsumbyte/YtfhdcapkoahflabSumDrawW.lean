/- What spec.DrawSumOf returns: a text of at most 100 bytes; nothing old is written. -/
import Derived.Test.YtfhdcapkoahflabAnyDrawW
namespace Go.Proofs.Ytfhdcapkoahflab
open Go.RowKit

theorem text_len (nm vr : Int) (fs ds : List (Int × Int)) : (Pk.text nm vr fs ds).length ≤ 100 := by
  cases h : Pk.pkgOk nm vr fs ds
  · rw [text_bad h]; simp
  · obtain ⟨_, _, hf, hd⟩ := pkgOk_get h
    have h1 := (Pk.filesOk_get hf).1
    have h2 := (Pk.depsOk_get hd).1
    rw [text_ok h, List.length_append, List.length_append, flat_len Pk.fileT 4 (fun _ => rfl), flat_len Pk.depT 3 (fun _ => rfl)]
    simp only [Pk.nameT, List.length_cons, List.length_nil]
    omega

theorem five (w : World) (s0 s1 s2 s3 s4 : ByteArray) (t : TypeId) : ∀ i, i < 5 → (w.alloc (.cells #[.string s0, .string s1, .string s2, .string s3, .string s4] t)).cell? ⟨w.heap.size, 0 + i, none⟩ = some (.string ((fun i => #[s0, s1, s2, s3, s4].getD i s0) i)) := by
  intro i hi
  rw [World.cell?_alloc_new]
  match i, hi with
  | 0, _ => rfl
  | 1, _ => rfl
  | 2, _ => rfl
  | 3, _ => rfl
  | 4, _ => rfl
  | n + 5, h => omega

set_option maxHeartbeats 2000000 in
theorem drawSum_any (w : World) (a : Option Addr) (len cap : Nat) (h : Bytes w a len cap) :
    Calls Try.prog 6 #[.slice a len cap] w fun e w' => ∃ s : ByteArray, s.size ≤ 100 ∧ e = .returned (.string s) ∧ Below w.heap.size w w' := by
  have HH : Hid (Bytes _ _ _ _) := h
  clear h
  go_enter Try.func6, Try.ntmps6
  go_wp2_with fail
  refine (open_any w a len cap (unhide HH)).mono ?_
  rintro e w1 ⟨rfl, hr1, hb1⟩
  have hz1 := hb1.size
  have hblk1 := hr1.lt
  have HR1 : Hid (Rd _ _ _ _) := hr1
  have HB1 : Hid (Below _ _ _) := hb1
  clear hr1 hb1 HH
  go_wp2_with fail
  refine (l71Any_any _ _ 0 (unhide HR1) hz1 (by omega)).mono ?_
  rintro e w2 ⟨nm, vr, fv, dv, fs, ds, p2, rfl, fl, dl, hp2, of1, od1, hr2, hk2⟩
  have P1 : Hid (Prs _ _ _) := Prs.own of1 (by omega)
  have P2 : Hid (Prs _ _ _) := Prs.own od1 (by omega)
  have hz2 := hk2.size
  have HR2 : Hid (Rd _ _ _ _) := hr2
  have HB2 : Hid (Below _ _ _) := (unhide HB1).trans ((hk2.mono hz1).below (Nat.le_refl _))
  clear of1 od1 hr2 hk2 HR1 HB1
  go_wp2_with fail
  refine (pkgText_any _ nm vr fv dv fs ds (unhide P1) (unhide P2)).mono ?_
  rintro e w3 ⟨rfl, hb3⟩
  obtain ⟨s3, hs3, hl3⟩ : ∃ s : ByteArray, (⟨(Pk.text nm vr fs ds).toArray⟩ : ByteArray) = s ∧ s.size ≤ 100 := ⟨_, rfl, by show (List.toArray _).size ≤ 100; simp only [List.size_toArray]; exact text_len nm vr fs ds⟩
  rw [hs3]
  have hz3 := hb3.size
  have HR3 : Hid (Rd _ _ _ _) := (unhide HR2).later (by omega) hb3
  have HB3 : Hid (Below _ _ _) := (unhide HB2).trans (hb3.mono (by omega))
  clear hs3 hb3 HR2 HB2 P1 P2 fl dl
  go_wp2_with fail
  refine (l71Any_any _ _ p2 (unhide HR3) (by omega) (by omega)).mono ?_
  rintro e w4 ⟨nm, vr, fv, dv, fs, ds, p4, rfl, fl, dl, hp4, of1, od1, hr4, hk4⟩
  have P1 : Hid (Prs _ _ _) := Prs.own of1 (by omega)
  have P2 : Hid (Prs _ _ _) := Prs.own od1 (by omega)
  have hz4 := hk4.size
  have HR4 : Hid (Rd _ _ _ _) := hr4
  have HB4 : Hid (Below _ _ _) := (unhide HB3).trans ((hk4.mono (by omega)).below (Nat.le_refl _))
  clear of1 od1 hr4 hk4 HR3 HB3
  go_wp2_with fail
  refine (pkgText_any _ nm vr fv dv fs ds (unhide P1) (unhide P2)).mono ?_
  rintro e w5 ⟨rfl, hb5⟩
  obtain ⟨s5, hs5, hl5⟩ : ∃ s : ByteArray, (⟨(Pk.text nm vr fs ds).toArray⟩ : ByteArray) = s ∧ s.size ≤ 100 := ⟨_, rfl, by show (List.toArray _).size ≤ 100; simp only [List.size_toArray]; exact text_len nm vr fs ds⟩
  rw [hs5]
  have hz5 := hb5.size
  have HR5 : Hid (Rd _ _ _ _) := (unhide HR4).later (by omega) hb5
  have HB5 : Hid (Below _ _ _) := (unhide HB4).trans (hb5.mono (by omega))
  clear hs5 hb5 HR4 HB4 P1 P2 fl dl
  go_wp2_with fail
  refine (pick_any _ _ p4 40 (unhide HR5) (by omega) (by omega) (by omega)).mono ?_
  rintro e w6 ⟨v6, rfl, v60, v61, hr6, hk6⟩
  have hz6 := hk6.size
  have HR6 : Hid (Rd _ _ _ _) := hr6
  have HB6 : Hid (Below _ _ _) := (unhide HB5).trans ((hk6.mono (by omega)).below (Nat.le_refl _))
  clear hr6 hk6 HR5 HB5
  obtain ⟨n6, rfl⟩ := Int.eq_ofNat_of_zero_le v60
  go_wp2_with fail
  refine (many_any w6 ⟨#[120]⟩ n6 40 (by show n6 * 1 ≤ 40; omega) (by show 1 ≤ 40; omega) (by omega) (by omega)).mono ?_
  rintro e w7 ⟨s7, hl7, rfl, rfl⟩
  go_wp2_with fail
  refine (of_any _ _ (p4 + 1) w7.heap.size 0 5 5 (fun i => #[⟨#[]⟩, ⟨#[97]⟩, s3, s5, s7].getD i ⟨#[]⟩) ((unhide HR6).later (by omega) ((Below.refl _ _).alloc (Nat.le_refl _) _)) (by omega) (by omega) (by omega) (by omega) (by omega) (five _ _ _ _ _ _ _)).mono ?_
  rintro e w8 ⟨i, hi, rfl, hr8, hk8⟩
  have HB8 : Hid (Below _ _ _) := ((unhide HB6).alloc (by omega) _).trans ((hk8.mono (by rw [sz1]; omega)).below (Nat.le_refl _))
  clear hr8 hk8
  go_wp2
  go_ret
  refine ⟨_, ?_, rfl, unhide HB8⟩
  match i, hi with
  | 0, _ => exact Nat.zero_le _
  | 1, _ => show 1 ≤ 100; omega
  | 2, _ => exact hl3
  | 3, _ => exact hl5
  | 4, _ => exact Nat.le_trans hl7 (by omega)
  | n + 5, h => omega
end Go.Proofs.Ytfhdcapkoahflab
