import Derived.Test.YtjehpeojdcaklaaGreatDoorMixD
import Derived.Test.YtjehpeojdcaklaaGreatDoorAnyDrawW
import Derived.Test.YtjehpeojdcaklaaGreatDoorPkgTextW
import Derived.Test.YtjehpeojdcaklaaGreatDoorReadMath
import Derived.Deep.RegionLaw
/- What spec's of returns: one of the texts. -/
namespace Go.Proofs.YtjehpeojdcaklaaGreatDoor
open Go.RowKit

set_option maxHeartbeats 1000000 in
/-- of: one of the texts. -/
theorem of_any {B : Nat} (w : World) (blk p b off n cap : Nat) (ss : Nat → ByteArray) (h : Rd B w blk p) (hp : p ≤ 1000000000) (hn : 1 ≤ n) (hn' : n ≤ 1000000) (_hcap : n ≤ cap)
    (hne : b ≠ blk) (hc : ∀ i, i < n → w.cell? ⟨b, off + i, none⟩ = some (.string (ss i))) :
    Calls Tryz.prog 45 #[.pointer (some ⟨blk, 0, none⟩), .slice (some ⟨b, off, none⟩) n cap] w fun e w' => ∃ i, i < n ∧ e = .returned (.string (ss i)) ∧ Rd B w' blk (p + 1) ∧ Kp w.heap.size blk w w' := by
  have hlt := cell_lt (hc 0 (by omega))
  go_enter Tryz.func45, Tryz.ntmps45
  go_wp2_with fail
  refine (pick_any w blk p n h hp (by omega) (by omega)).mono ?_
  rintro e w1 ⟨v, rfl, v0, v1, hr, hk⟩
  obtain ⟨i, rfl⟩ := Int.eq_ofNat_of_zero_le v0
  have hi : i < n := by omega
  have hci : w1.cell? ⟨b, off + i, none⟩ = some (.string (ss i)) := by rw [hk.cell hlt hne]; exact hc i hi
  clear hc
  go_wp2
  go_ret
  exact ⟨i, hi, rfl, hr, hk⟩
end Go.Proofs.YtjehpeojdcaklaaGreatDoor

/- What spec.DrawPkgRead returns: a text; nothing old is written. -/
namespace Go.Proofs.YtjehpeojdcaklaaGreatDoor
open Go.RowKit

theorem text_le16 (nm vr : Int) (fs ds : List (Int × Int)) : (Pk.text nm vr fs ds).length ≤ 30 := by
  cases h : Pk.pkgOk nm vr fs ds
  · rw [text_bad h]; simp
  · exact Pk.text_le30 h
theorem six (w : World) (a b c d e f : ByteArray) : ∀ i, i < 6 → (w.alloc (.cells #[.string a, .string b, .string c, .string d, .string e, .string f] 9)).cell? ⟨w.heap.size, 0 + i, none⟩ = some (.string (#[a, b, c, d, e, f].getD i ⟨#[]⟩)) := by
  intro i hi
  rw [World.cell?_alloc_new]
  match i, hi with
  | 0, _ => rfl
  | 1, _ => rfl
  | 2, _ => rfl
  | 3, _ => rfl
  | 4, _ => rfl
  | 5, _ => rfl
  | n + 6, h => omega
theorem sixD (w : World) (a b c d e f : ByteArray) (i : Nat) (hi : i < 6) : (w.alloc (.cells #[.string a, .string b, .string c, .string d, .string e, .string f] 9)).drew.cell? ⟨w.heap.size, 0 + i, none⟩ = some (.string (#[a, b, c, d, e, f].getD i ⟨#[]⟩)) := six w a b c d e f i hi
theorem six_len (i : Nat) (hi : i < 6) : (#[(⟨#[48]⟩ : ByteArray), ⟨#[32]⟩, ⟨#[58]⟩, ⟨#[98]⟩, ⟨#[32, 51, 58, 49]⟩, ⟨#[122]⟩].getD i ⟨#[]⟩).size ≤ 4 := by
  match i, hi with
  | 0, _ => decide
  | 1, _ => decide
  | 2, _ => decide
  | 3, _ => decide
  | 4, _ => decide
  | 5, _ => decide
  | n + 6, h => omega

end Go.Proofs.YtjehpeojdcaklaaGreatDoor
