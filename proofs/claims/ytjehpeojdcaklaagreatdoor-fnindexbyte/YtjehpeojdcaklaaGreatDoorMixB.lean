import Derived.Test.YtjehpeojdcaklaaGreatDoorPkgTextW
import Derived.Test.YtjehpeojdcaklaaGreatDoorShelf
/- What impl.spellNamed writes: a name as a letter, and a version; strconv.Itoa of one figure. -/
namespace Go.Proofs.YtjehpeojdcaklaaGreatDoor
open Go.RowKit

attribute [local go_sem ↓] Go.wp_at_zero Go.wp_at_succ

theorem itoa_any (n : Int) (w : World) (h0 : 0 ≤ n) (h1 : n ≤ 9) : Calls Tryz.prog 124 #[.int .i64 n] w fun e w' => e = .returned (.string ⟨#[Pk.b8 (48 + n)]⟩) ∧ w' = w := by
  obtain ⟨i, rfl⟩ := Int.eq_ofNat_of_zero_le h0
  have hi : i < 10 := by omega
  have e : Lib.decDigits i = [Pk.b8 (48 + (i : Int))] := by
    rw [Lib.decDigits, dif_pos hi]
    unfold Pk.b8
    rw [show (48 + (i : Int)).toNat = 48 + i from by omega]
  refine (Tryz.strconv_Itoa_small i (by omega) w).mono fun e' w' ⟨h1, h2⟩ => ⟨?_, h2⟩
  rw [h1, e]

theorem enc_letter (nm : Int) (h0 : 1 ≤ nm) (h1 : nm ≤ 4) : Utf8.encode (97 + nm - 1) = ⟨#[Pk.b8 (96 + nm)]⟩ := by
  have h : nm = 1 ∨ nm = 2 ∨ nm = 3 ∨ nm = 4 := by omega
  rcases h with rfl | rfl | rfl | rfl <;> decide

set_option maxHeartbeats 1000000 in
set_option maxRecDepth 100000 in
theorem spellNamed_any (nm vr : Int) (w : World) (h0 : 1 ≤ nm) (h1 : nm ≤ 4) (h2 : 0 ≤ vr) (h3 : vr ≤ 9) : Calls Tryz.prog 157 #[.int .i64 nm, .int .i64 vr] w fun e w' => e = .returned (.string ⟨(Pk.nameT nm vr).toArray⟩) ∧ w' = w := by
  have henc := enc_letter nm h0 h1
  have hsz : ¬ 9223372036854775807 < (1 + 1 : Nat) := by omega
  go_enter Tryz.func157, Tryz.ntmps157
  go_wp2_with (go_at_call 124; refine (itoa_any _ _ h2 h3).mono ?_; rintro e w' ⟨rfl, rfl⟩)
  go_ret
  exact ⟨ret_str (app_data [Pk.b8 (96 + nm)] [Pk.b8 (48 + vr)]), rfl⟩
end Go.Proofs.YtjehpeojdcaklaaGreatDoor

/- What impl's words spell: a name and a number, or a place and what is in it; of numbers of one figure. -/
namespace Go.Proofs.YtjehpeojdcaklaaGreatDoor
open Go.RowKit

attribute [local go_sem ↓] Go.wp_at_zero Go.wp_at_succ

set_option maxHeartbeats 1000000 in
set_option maxRecDepth 100000 in
theorem headSpell_any (nm vr : Int) (w : World) (h0 : 1 ≤ nm) (h1 : nm ≤ 4) (h2 : 0 ≤ vr) (h3 : vr ≤ 9) : Calls Tryz.prog 156 #[.agg #[.int .i64 nm, .int .i64 vr]] w fun e w' => e = .returned (.string ⟨(Pk.nameT nm vr).toArray⟩) ∧ Below w.heap.size w w' := by
  go_enter Tryz.func156, Tryz.ntmps156
  go_wp2_with (go_at_call 157; refine (spellNamed_any _ _ _ h0 h1 h2 h3).mono ?_; rintro e w' ⟨rfl, rfl⟩)
  go_ret
  exact ⟨rfl, (Below.refl _ _).alloc (Nat.le_refl _) _⟩

set_option maxHeartbeats 1000000 in
set_option maxRecDepth 100000 in
theorem needSpell_any (nm vr : Int) (w : World) (h0 : 1 ≤ nm) (h1 : nm ≤ 4) (h2 : 0 ≤ vr) (h3 : vr ≤ 9) : Calls Tryz.prog 159 #[.agg #[.int .i64 nm, .int .i64 vr]] w fun e w' => e = .returned (.string ⟨(Pk.nameT nm vr).toArray⟩) ∧ Below w.heap.size w w' := by
  go_enter Tryz.func159, Tryz.ntmps159
  go_wp2_with (go_at_call 157; refine (spellNamed_any _ _ _ h0 h1 h2 h3).mono ?_; rintro e w' ⟨rfl, rfl⟩)
  go_ret
  exact ⟨rfl, (Below.refl _ _).alloc (Nat.le_refl _) _⟩

/-- A place and what is in it. -/
def fileS (a b : Int) : List UInt8 := [Pk.b8 (48 + a), 58, Pk.b8 (48 + b)]

set_option maxHeartbeats 1000000 in
set_option maxRecDepth 100000 in
theorem fileSpell_any (a b : Int) (w : World) (h0 : 0 ≤ a) (h1 : a ≤ 9) (h2 : 0 ≤ b) (h3 : b ≤ 9) : Calls Tryz.prog 158 #[.agg #[.int .i64 a, .int .i64 b]] w fun e w' => e = .returned (.string ⟨(fileS a b).toArray⟩) ∧ Below w.heap.size w w' := by
  have HB : Hid (∀ (o : Obj) (q : Nat), Below w.heap.size w ((w.alloc o).drewN q)) := fun o q => below_drewN ((Below.refl _ _).alloc (Nat.le_refl _) o) q
  go_enter Tryz.func158, Tryz.ntmps158
  go_wp2_with fail
  go_quiet ((go_at_call 124; exact Calls.quiet_of_same (itoa_any _ _ (by assumption) (by assumption))))
  go_wp2
  go_ret
  exact ⟨ret_str (by apply ByteArray.ext; simp [fileS]), (unhide HB) _ _⟩
end Go.Proofs.YtjehpeojdcaklaaGreatDoor
