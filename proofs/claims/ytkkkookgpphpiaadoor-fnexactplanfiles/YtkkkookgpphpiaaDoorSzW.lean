/- What the laws' szPkg returns: how much is left. -/
import Derived.Test.YtkkkookgpphpiaaDoorCopyW
import Derived.Deep.RegionHeld3
import Derived.Deep.DrawnRows
namespace Go.Proofs.YtkkkookgpphpiaaDoor
open Go.RowKit

attribute [local go_sem ↓] Go.wp_at_zero Go.wp_at_succ

set_option maxHeartbeats 1000000 in
theorem szFileS_any (w : World) (a : Option Addr) (n c : Nat) (left : Int) (h0 : 0 ≤ left) (h1 : left ≤ 1048576) (hn : n ≤ 9223372036854775807) :
    Calls Tryd.prog 42 #[.slice a n c, .int .i64 left] w fun e w' => ∃ r : Int, e = .returned (.int .i64 r) ∧ ((n : Int) ≤ left ∧ r = left - n ∨ left < (n : Int) ∧ r = -1) ∧ w' = w := by
  by_cases h : (n : Int) ≤ left
  · go_enter Tryd.func42, Tryd.ntmps42
    go_wp2
    go_ret
    exact ⟨left - n, rfl, Or.inl ⟨h, rfl⟩, rfl⟩
  · have h' : left - (n : Int) < 0 := by omega
    go_enter Tryd.func42, Tryd.ntmps42
    go_wp2
    go_ret
    exact ⟨-1, rfl, by omega, rfl⟩
set_option maxHeartbeats 1000000 in
theorem szDepS_any (w : World) (a : Option Addr) (n c : Nat) (left : Int) (h0 : 0 ≤ left) (h1 : left ≤ 1048576) (hn : n ≤ 9223372036854775807) :
    Calls Tryd.prog 43 #[.slice a n c, .int .i64 left] w fun e w' => ∃ r : Int, e = .returned (.int .i64 r) ∧ ((n : Int) ≤ left ∧ r = left - n ∨ left < (n : Int) ∧ r = -1) ∧ w' = w := by
  by_cases h : (n : Int) ≤ left
  · go_enter Tryd.func43, Tryd.ntmps43
    go_wp2
    go_ret
    exact ⟨left - n, rfl, Or.inl ⟨h, rfl⟩, rfl⟩
  · have h' : left - (n : Int) < 0 := by omega
    go_enter Tryd.func43, Tryd.ntmps43
    go_wp2
    go_ret
    exact ⟨-1, rfl, by omega, rfl⟩

set_option maxHeartbeats 1000000 in
/-- szPkg: what is left, or less than nothing where the rows are too long. -/
theorem szPkg_any (w : World) (nm vr : Int) (fa da : Option Addr) (n c m d : Nat) (left : Int) (h0 : 0 ≤ left) (h1 : left ≤ 1048576) (hn : n ≤ 9223372036854775807) (hm : m ≤ 9223372036854775807) :
    Calls Tryd.prog 23 #[.agg #[.int .i64 nm, .int .i64 vr, .slice fa n c, .slice da m d], .int .i64 left] w fun e w' => ∃ r : Int, e = .returned (.int .i64 r) ∧ ((n : Int) + m ≤ left ∧ r = left - n - m ∨ left < (n : Int) + m ∧ r = -1) ∧ Below w.heap.size w w' := by
  go_enter Tryd.func23, Tryd.ntmps23
  go_wp2_with fail
  refine (szFileS_any _ fa n c left h0 h1 hn).mono ?_
  rintro e w1 ⟨r, rfl, hr, hw1⟩
  have HB : Hid (Below w.heap.size w w1) := by rw [hw1]; exact (Below.refl _ _).alloc (Nat.le_refl _) _
  have b3 : w1.cell? ⟨w.heap.size, 3, none⟩ = some (.slice da m d) := by rw [hw1, World.cell?_alloc_new]; rfl
  clear hw1
  rcases hr with ⟨hr1, hr2⟩ | ⟨hr1, rfl⟩
  · have hr0 : 0 ≤ r := by omega
    have hr3 : r ≤ 1048576 := by omega
    have HR := hide hr2
    clear hr2
    go_wp2_with fail
    refine (szDepS_any _ da m d r hr0 hr3 hm).mono ?_
    rintro e w2 ⟨r2, rfl, hq, rfl⟩
    rcases hq with ⟨hq1, hq2⟩ | ⟨hq1, rfl⟩
    · have hq0 : 0 ≤ r2 := by omega
      have HQ := hide hq2
      clear hq2
      go_wp2
      go_ret
      exact ⟨r2, rfl, Or.inl ⟨by have := unhide HR; omega, by have := unhide HR; have := unhide HQ; omega⟩, unhide HB⟩
    · go_wp2
      go_ret
      exact ⟨-1, rfl, Or.inr ⟨by have := unhide HR; omega, rfl⟩, unhide HB⟩
  · go_wp2
    go_ret
    exact ⟨-1, rfl, Or.inr ⟨by omega, rfl⟩, unhide HB⟩
end Go.Proofs.YtkkkookgpphpiaaDoor
