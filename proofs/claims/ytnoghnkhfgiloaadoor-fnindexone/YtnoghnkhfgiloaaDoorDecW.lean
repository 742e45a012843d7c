/- What spec.l6Dec returns: a number in decimals. -/
import Derived.Test.YtnoghnkhfgiloaaDoorPkgTextW
import Derived.Test.YtnoghnkhfgiloaaDoorIdxTextMath
import Derived.Test.YtnoghnkhfgiloaaDoorSkipW
import Derived.Deep.DrawnRows
namespace Go.Proofs.YtnoghnkhfgiloaaDoor
open Go.RowKit

attribute [local go_sem ↓] Go.wp_at_zero Go.wp_at_succ

set_option maxHeartbeats 2000000 in
set_option maxRecDepth 100000 in
theorem decStep (n : Nat) (hn : n < 1000000) (h10 : ¬ n < 10) (ih : ∀ w, Calls Tryd.prog 25 #[.int .i64 ((n / 10 : Nat) : Int)] w fun e w' => e = .returned (.string ⟨(Ix.dec (n / 10)).toArray⟩) ∧ Below w.heap.size w w') (w : World) :
    Calls Tryd.prog 25 #[.int .i64 (n : Int)] w fun e w' => e = .returned (.string ⟨(Ix.dec n).toArray⟩) ∧ Below w.heap.size w w' := by
  obtain ⟨q, hq⟩ : ∃ q : Nat, n / 10 = q := ⟨_, rfl⟩
  obtain ⟨r, hr⟩ : ∃ r : Nat, n % 10 = r := ⟨_, rfl⟩
  have HE := hide (Ix.dec_more h10)
  rw [hq, hr] at HE
  rw [hq] at ih
  have IH := hide ih
  have eq1 : (n : Int).tdiv 10 = (q : Int) := by rw [Int.tdiv_eq_ediv_of_nonneg (by omega)]; omega
  have eq2 : (n : Int).tmod 10 = (r : Int) := by rw [Int.tmod_eq_emod_of_nonneg (by omega)]; omega
  have h10' : (10 : Int) ≤ (n : Int) := by omega
  have hr9 : r ≤ 9 := by omega
  have hlen : (Ix.dec q).length ≤ 6 := Ix.dec_len6 (by omega)
  obtain ⟨s, hs⟩ : ∃ s : ByteArray, s = ⟨(Ix.dec q).toArray⟩ := ⟨_, rfl⟩
  have hsz : ¬ 9223372036854775807 < s.size + 1 := by rw [hs]; show ¬ _ < (List.toArray _).size + 1; simp; omega
  have HS := hide hs
  have hcv := fun (wx : World) (b c : Nat) (h : wx.cell? ⟨b, 0, none⟩ = some (.int .u8 (48 + (r : Int)))) => conv_one wx b (48 + (r : Int)) c (by omega) (by omega) h
  have ew1 : IntKind.i64.wrap (q : Int) = q := by simp [IntKind.wrap, IntKind.bits, IntKind.signed]; omega
  have ew2 : IntKind.i64.wrap (48 + (r : Int)) = 48 + (r : Int) := by simp [IntKind.wrap, IntKind.bits, IntKind.signed]; omega
  have ew3 : IntKind.u8.wrap (48 + (r : Int)) = 48 + (r : Int) := by simp [IntKind.wrap, IntKind.bits, IntKind.signed]; omega
  clear ih hs hq hr h10
  go_enter Tryd.func25, Tryd.ntmps25
  go_wp2_with fail
  go_region_with (go_at_call 25; refine (unhide IH _).mono ?_; rintro e w1 ⟨rfl, hb1⟩; rw [← unhide HS]; first | (have c0 : w1.cell? ⟨w.heap.size, 0, none⟩ = some (.int .u8 (48 + (r : Int))) := (hb1.cell (by simp)).trans (by rw [World.cell?_of_block (w := w.alloc (.cells #[.int .u8 (48 + (r : Int))] 5)) (by rfl), World.cell?_alloc_new]; rfl)) | skip)
  all_goals
    have HB1 := hide hb1
    clear hb1
    go_wp2
    go_ret
    refine ⟨ret_str ?_, ?_⟩
    · rw [unhide HS, unhide HE]
      exact app_data _ _
    · first
        | exact ((Below.refl _ _).drew.trans ((unhide HB1).mono (Nat.le_refl _))).alloc (by have := (unhide HB1).size; exact this) _
        | exact (((Below.refl _ _).alloc (Nat.le_refl _) _).drew).trans ((unhide HB1).mono (by simp))

set_option maxHeartbeats 1000000 in
theorem decN_any (n : Nat) (hn : n < 1000000) (w : World) : Calls Tryd.prog 25 #[.int .i64 (n : Int)] w fun e w' => e = .returned (.string ⟨(Ix.dec n).toArray⟩) ∧ Below w.heap.size w w' := by
  induction n using Nat.strongRecOn generalizing w with
  | _ n ih =>
    by_cases h : n < 10
    · refine (dec_any (n : Int) w (by omega) (by omega)).mono fun e w' ⟨h1, h2⟩ => ⟨?_, ?_⟩
      · rw [h1, Ix.dec_small h]
      · rw [h2]; exact below1 _ _
    · exact decStep n hn h (fun w => ih (n / 10) (by omega) (by omega) w) w
theorem decI_any (n : Int) (h0 : 0 ≤ n) (h1 : n < 1000000) (w : World) : Calls Tryd.prog 25 #[.int .i64 n] w fun e w' => e = .returned (.string ⟨(Ix.dec n.toNat).toArray⟩) ∧ Below w.heap.size w w' := by
  obtain ⟨i, rfl⟩ := Int.eq_ofNat_of_zero_le h0
  exact decN_any i (by omega) w
end Go.Proofs.YtnoghnkhfgiloaaDoor
