/- The walk of laws.FnExactIndexText: it returns true at whatever index; nothing old is written. -/
import Derived.Test.YtgjhdiecdnmmgaaDoorEqMW
import Derived.Test.YtgjhdiecdnmmgaaDoorCopyMW
import Derived.Test.YtgjhdiecdnmmgaaDoorImplIdxTextW
import Derived.Test.YtgjhdiecdnmmgaaDoorOpenIndexW
namespace Go.Proofs.YtgjhdiecdnmmgaaDoor
open Go.RowKit

attribute [local go_sem ↓] Go.wp_at_zero Go.wp_at_succ

set_option maxHeartbeats 4000000 in
set_option maxRecDepth 100000 in
theorem exactIndexText_walk (w : World) (nm vr : Int) (fa : Option Addr) (n c : Nat) (hIn : MetasIn w fa n c) (hTab : Tab w) :
    Calls Tryd.prog 7 #[.agg #[.int .i64 nm, .int .i64 vr, .slice fa n c]] w fun e w' => e = .returned (.bool true) ∧ Below w.heap.size w w' := by
  obtain ⟨hn, Pf⟩ := hIn
  have H0 := hide (And.intro (heap_alloc_new w (.cells #[.int .i64 nm, .int .i64 vr, .slice fa n c] 37)) (below1 w (.cells #[.int .i64 nm, .int .i64 vr, .slice fa n c] 37)))
  have PF := hide Pf
  have HTB := hide hTab
  clear Pf hTab
  go_enter Tryd.func7, Tryd.ntmps7
  go_wp2_with fail
  refine (szIndex_any _ nm vr fa n c 1048576 (by omega) (by omega) hn).mono ?_
  generalize w.alloc _ = W0 at *
  rintro e w1 ⟨r, rfl, hr, hb1⟩
  obtain ⟨x0, hb0⟩ := unhide H0
  have HX1 := hide (blk_below x0 hb1 rfl)
  have HW1 := hide (hb0.trans (hb1.mono hb0.size))
  clear H0 x0 hb0 hb1
  rcases hr with ⟨hr1, hr2⟩ | ⟨hr1, rfl⟩
  · have hr0 : 0 ≤ r := by omega
    obtain ⟨fs, hfl, pf⟩ := (unhide PF) (by omega)
    have hfs : fs.length ≤ 1048576 := by omega
    have P0 := hide pf
    have k0 := cellOf (unhide HX1) 0
    have k1 := cellOf (unhide HX1) 1
    have k2 := cellOf (unhide HX1) 2
    clear hr1 hr2 hfl pf PF W0
    go_wp2_with fail
    refine (toIndex_any _ nm vr _ fs ((unhide P0).later (unhide HW1)) hfs).mono ?_
    rintro e w2 ⟨g, _, rfl, p1, hb2⟩
    have HX2 := hide (blk_below (unhide HX1) hb2 rfl)
    have HW2 := hide ((unhide HW1).trans (hb2.mono (unhide HW1).size))
    have A1 := hide p1
    clear HX1 HW1 hb2 p1 k0 k1 k2
    go_wp2_with fail
    refine (indexText_any _ nm vr _ fs (unhide A1)).mono ?_
    rintro e w3 ⟨rfl, hb3⟩
    have HX3 := hide (blk_below (unhide HX2) hb3 rfl)
    have HW3 := hide ((unhide HW2).trans (hb3.mono (unhide HW2).size))
    have k0 := cellOf (unhide HX3) 0
    have k1 := cellOf (unhide HX3) 1
    have k2 := cellOf (unhide HX3) 2
    clear HX2 HW2 hb3 A1
    go_wp2_with fail
    refine (toIndex_any _ nm vr _ fs ((unhide P0).later (unhide HW3)) hfs).mono ?_
    rintro e w4 ⟨g', _, rfl, p1, hb4⟩
    have HX4 := hide (blk_below (unhide HX3) hb4 rfl)
    have HW4 := hide ((unhide HW3).trans (hb4.mono (unhide HW3).size))
    have A1 := hide p1
    clear HX3 HW3 hb4 p1 k0 k1 k2
    go_wp2_with fail
    have HN := hide (And.intro (heap_alloc_new w4 (.cells #[.int .i64 nm, .int .i64 vr, .slice (some ⟨g', 0, none⟩) fs.length fs.length] 25)) (below1 w4 (.cells #[.int .i64 nm, .int .i64 vr, .slice (some ⟨g', 0, none⟩) fs.length fs.length] 25)))
    refine (implIdxText_any _ nm vr _ fs ((unhide A1).later (unhide HN).2) ((unhide HTB).later ((unhide HW4).trans ((unhide HN).2.mono (unhide HW4).size)))).mono ?_
    generalize w4.alloc _ = W5 at *
    rintro e w6 ⟨rfl, hb6⟩
    have HY6 := hide (blk_below (unhide HN).1 hb6 rfl)
    have h46 : Below w4.heap.size w4 w6 := (unhide HN).2.trans (hb6.mono (unhide HN).2.size)
    have HX6 := hide (blk_below (unhide HX4) h46 rfl)
    have HW6 := hide ((unhide HW4).trans (h46.mono (unhide HW4).size))
    have A6 := hide ((unhide A1).later h46)
    have P6 := hide ((unhide P0).later (unhide HW6))
    obtain ⟨ok, hok0⟩ : ∃ s : ByteArray, s = ⟨(Ix.text nm vr fs).toArray⟩ := ⟨_, rfl⟩
    rw [← hok0]
    clear hok0
    have hxk := heapLt (unhide HY6)
    have hbk6 := heapLt (unhide HX6)
    have k0 := cellOf (unhide HX6) 0
    have k1 := cellOf (unhide HX6) 1
    have k2 := cellOf (unhide HX6) 2
    have y0 := cellOf (unhide HY6) 0
    have y1 := cellOf (unhide HY6) 1
    have y2 := cellOf (unhide HY6) 2
    clear HN A1 HX4 HW4 hb6 h46 P0 HY6 HX6
    clear W5
    generalize w4.heap.size = xb at *
    go_wp2_with fail
    go_region_held3 (fun w' => (w'.cell? ⟨w.heap.size, 0, none⟩ = some (.int .i64 nm) ∧ w'.cell? ⟨w.heap.size, 1, none⟩ = some (.int .i64 vr) ∧ w'.cell? ⟨w.heap.size, 2, none⟩ = some (.slice fa n c)) ∧ (w'.cell? ⟨xb, 0, none⟩ = some (.int .i64 nm) ∧ w'.cell? ⟨xb, 1, none⟩ = some (.int .i64 vr) ∧ w'.cell? ⟨xb, 2, none⟩ = some (.slice (some ⟨g', 0, none⟩) fs.length fs.length)))
      (first
        | (go_keep; done)
        | exact ⟨⟨(hb7.cell hbk6).trans k0, (hb7.cell hbk6).trans k1, (hb7.cell hbk6).trans k2⟩, ⟨(hb7.cell hxk).trans y0, (hb7.cell hxk).trans y1, (hb7.cell hxk).trans y2⟩⟩
        | exact ⟨⟨(hb8.cell (Nat.lt_of_lt_of_le hbk6 hb7.size)).trans ((hb7.cell hbk6).trans k0), (hb8.cell (Nat.lt_of_lt_of_le hbk6 hb7.size)).trans ((hb7.cell hbk6).trans k1), (hb8.cell (Nat.lt_of_lt_of_le hbk6 hb7.size)).trans ((hb7.cell hbk6).trans k2)⟩, ⟨(hb8.cell (Nat.lt_of_lt_of_le hxk hb7.size)).trans ((hb7.cell hxk).trans y0), (hb8.cell (Nat.lt_of_lt_of_le hxk hb7.size)).trans ((hb7.cell hxk).trans y1), (hb8.cell (Nat.lt_of_lt_of_le hxk hb7.size)).trans ((hb7.cell hxk).trans y2)⟩⟩
        | fail)
      (first
        | (go_at_call 18; refine (toIndex_any _ nm vr _ fs (by exact (unhide P6).later (below_drew _)) hfs).mono ?_; rintro e w7 ⟨g7, _, rfl, p1, hb7⟩)
        | (go_at_call 19; refine (eqIndex_any _ nm vr _ _ fs (by exact ((unhide A6).later (below_drew _)).later hb7) (by exact p1)).mono ?_; rintro e w8 ⟨rfl, hb8⟩))
    have HW8 : Hid (Below w.heap.size w w8) := ((unhide HW6).drew.trans (hb7.mono (unhide HW6).size)).trans (hb8.mono (Nat.le_trans (unhide HW6).size hb7.size))
    clear hb7 hb8 p1
    go_wp2
    go_ret
    exact ⟨rfl, unhide HW8⟩
  · clear HX1
    go_wp2
    go_ret
    exact ⟨rfl, unhide HW1⟩
end Go.Proofs.YtgjhdiecdnmmgaaDoor
