/- What spec's of returns: one of the texts. -/
import Derived.Test.YtnoghnkhfgiloaaDoorOpenW
namespace Go.Proofs.YtnoghnkhfgiloaaDoor
open Go.RowKit

set_option maxHeartbeats 1000000 in
/-- of: one of the texts. -/
theorem of_any {B : Nat} (w : World) (blk p b off n cap : Nat) (ss : Nat → ByteArray) (h : Rd B w blk p) (hp : p ≤ 1000000000) (hn : 1 ≤ n) (hn' : n ≤ 1000000) (_hcap : n ≤ cap)
    (hne : b ≠ blk) (hc : ∀ i, i < n → w.cell? ⟨b, off + i, none⟩ = some (.string (ss i))) :
    Calls Tryd.prog 32 #[.pointer (some ⟨blk, 0, none⟩), .slice (some ⟨b, off, none⟩) n cap] w fun e w' => ∃ i, i < n ∧ e = .returned (.string (ss i)) ∧ Rd B w' blk (p + 1) ∧ Kp w.heap.size blk w w' := by
  have hlt := cell_lt (hc 0 (by omega))
  go_enter Tryd.func32, Tryd.ntmps32
  go_wp2_with fail
  refine (pick_any w blk p n h hp (by omega) (by omega)).mono ?_
  rintro e w1 ⟨v, rfl, v0, v1, hr, hk⟩
  obtain ⟨i, rfl⟩ := Int.eq_ofNat_of_zero_le v0
  have hi : i < n := by omega
  have hci : w1.cell? ⟨b, off + i, none⟩ = some (.string (ss i)) := by rw [hk.cell hlt hne]; exact hc i hi
  clear hc
  go_wp2
  go_ret
  exact ⟨i, hi, rfl, hr, hk⟩
end Go.Proofs.YtnoghnkhfgiloaaDoor
