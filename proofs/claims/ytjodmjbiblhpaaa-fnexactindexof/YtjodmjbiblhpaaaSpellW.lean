/- What impl's words spell: a name and a number, or a place and what is in it; of numbers of one figure. -/
import Derived.Test.YtjodmjbiblhpaaaNamedW
namespace Go.Proofs.Ytjodmjbiblhpaaa
open Go.RowKit

attribute [local go_sem ↓] Go.wp_at_zero Go.wp_at_succ

set_option maxHeartbeats 1000000 in
set_option maxRecDepth 100000 in
theorem headSpell_any (nm vr : Int) (w : World) (h0 : 1 ≤ nm) (h1 : nm ≤ 4) (h2 : 0 ≤ vr) (h3 : vr ≤ 9) : Calls Try.prog 81 #[.agg #[.int .i64 nm, .int .i64 vr]] w fun e w' => e = .returned (.string ⟨(Pk.nameT nm vr).toArray⟩) ∧ Below w.heap.size w w' := by
  go_enter Try.func81, Try.ntmps81
  go_wp2_with (go_at_call 82; refine (spellNamed_any _ _ _ h0 h1 h2 h3).mono ?_; rintro e w' ⟨rfl, rfl⟩)
  go_ret
  exact ⟨rfl, (Below.refl _ _).alloc (Nat.le_refl _) _⟩

set_option maxHeartbeats 1000000 in
set_option maxRecDepth 100000 in
theorem needSpell_any (nm vr : Int) (w : World) (h0 : 1 ≤ nm) (h1 : nm ≤ 4) (h2 : 0 ≤ vr) (h3 : vr ≤ 9) : Calls Try.prog 98 #[.agg #[.int .i64 nm, .int .i64 vr]] w fun e w' => e = .returned (.string ⟨(Pk.nameT nm vr).toArray⟩) ∧ Below w.heap.size w w' := by
  go_enter Try.func98, Try.ntmps98
  go_wp2_with (go_at_call 82; refine (spellNamed_any _ _ _ h0 h1 h2 h3).mono ?_; rintro e w' ⟨rfl, rfl⟩)
  go_ret
  exact ⟨rfl, (Below.refl _ _).alloc (Nat.le_refl _) _⟩

/-- A place and what is in it. -/
def fileS (a b : Int) : List UInt8 := [Pk.b8 (48 + a), 58, Pk.b8 (48 + b)]

set_option maxHeartbeats 1000000 in
set_option maxRecDepth 100000 in
theorem fileSpell_any (a b : Int) (w : World) (h0 : 0 ≤ a) (h1 : a ≤ 9) (h2 : 0 ≤ b) (h3 : b ≤ 9) : Calls Try.prog 97 #[.agg #[.int .i64 a, .int .i64 b]] w fun e w' => e = .returned (.string ⟨(fileS a b).toArray⟩) ∧ Below w.heap.size w w' := by
  have HB : Hid (∀ (o : Obj) (q : Nat), Below w.heap.size w ((w.alloc o).drewN q)) := fun o q => below_drewN ((Below.refl _ _).alloc (Nat.le_refl _) o) q
  go_enter Try.func97, Try.ntmps97
  go_wp2_with fail
  go_quiet ((go_at_call 83; exact Calls.quiet_of_same (itoa_any _ _ (by assumption) (by assumption))))
  go_wp2
  go_ret
  exact ⟨ret_str (by apply ByteArray.ext; simp [fileS]), (unhide HB) _ _⟩
end Go.Proofs.Ytjodmjbiblhpaaa
