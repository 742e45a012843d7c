/- What impl.spellNamed writes: a name as a letter, and a version; strconv.Itoa of one figure. -/
import Derived.Test.YtoccijcngncghaaDoorPkgTextW
import Derived.Test.YtoccijcngncghaaDoorShelf
namespace Go.Proofs.YtoccijcngncghaaDoor
open Go.RowKit

attribute [local go_sem ↓] Go.wp_at_zero Go.wp_at_succ

theorem itoa_any (n : Int) (w : World) (h0 : 0 ≤ n) (h1 : n ≤ 9) : Calls Tryd.prog 124 #[.int .i64 n] w fun e w' => e = .returned (.string ⟨#[Pk.b8 (48 + n)]⟩) ∧ w' = w := by
  obtain ⟨i, rfl⟩ := Int.eq_ofNat_of_zero_le h0
  have hi : i < 10 := by omega
  have e : Lib.decDigits i = [Pk.b8 (48 + (i : Int))] := by
    rw [Lib.decDigits, dif_pos hi]
    unfold Pk.b8
    rw [show (48 + (i : Int)).toNat = 48 + i from by omega]
  refine (Tryd.strconv_Itoa_small i (by omega) w).mono fun e' w' ⟨h1, h2⟩ => ⟨?_, h2⟩
  rw [h1, e]

theorem enc_letter (nm : Int) (h0 : 1 ≤ nm) (h1 : nm ≤ 4) : Utf8.encode (97 + nm - 1) = ⟨#[Pk.b8 (96 + nm)]⟩ := by
  have h : nm = 1 ∨ nm = 2 ∨ nm = 3 ∨ nm = 4 := by omega
  rcases h with rfl | rfl | rfl | rfl <;> decide

set_option maxHeartbeats 1000000 in
set_option maxRecDepth 100000 in
theorem spellNamed_any (nm vr : Int) (w : World) (h0 : 1 ≤ nm) (h1 : nm ≤ 4) (h2 : 0 ≤ vr) (h3 : vr ≤ 9) : Calls Tryd.prog 121 #[.int .i64 nm, .int .i64 vr] w fun e w' => e = .returned (.string ⟨(Pk.nameT nm vr).toArray⟩) ∧ w' = w := by
  have henc := enc_letter nm h0 h1
  have hsz : ¬ 9223372036854775807 < (1 + 1 : Nat) := by omega
  go_enter Tryd.func121, Tryd.ntmps121
  go_wp2_with (go_at_call 124; refine (itoa_any _ _ h2 h3).mono ?_; rintro e w' ⟨rfl, rfl⟩)
  go_ret
  exact ⟨ret_str (app_data [Pk.b8 (96 + nm)] [Pk.b8 (48 + vr)]), rfl⟩
end Go.Proofs.YtoccijcngncghaaDoor
