/- The walk of laws.FnExactPkgText: it returns true at whatever package; nothing old is written. -/
import Derived.Test.YtfhdcapkoahflauEqW
import Derived.Test.YtfhdcapkoahflauImplTextW
namespace Go.Proofs.Ytfhdcapkoahflau
open Go.RowKit

attribute [local go_sem ↓] Go.wp_at_zero Go.wp_at_succ

theorem below_drew (w : World) : Below w.heap.size w w.drew := (Below.refl _ _).drew

set_option maxHeartbeats 4000000 in
set_option maxRecDepth 100000 in
theorem exactPkgText_walk (w : World) (nm vr : Int) (fa da : Option Addr) (n c m d : Nat) (hn : n ≤ 9223372036854775807) (hm : m ≤ 9223372036854775807)
    (Pf : n ≤ 1048576 → ∃ fs : List (Int × Int), fs.length = n ∧ Prs w (.slice fa n c) fs) (Pd : m ≤ 1048576 → ∃ ds : List (Int × Int), ds.length = m ∧ Prs w (.slice da m d) ds) :
    Calls Try.prog 3 #[.agg #[.int .i64 nm, .int .i64 vr, .slice fa n c, .slice da m d]] w fun e w' => e = .returned (.bool true) ∧ Below w.heap.size w w' := by
  obtain ⟨z0, x0, x1, x2, x3⟩ := box4 w (.int .i64 nm) (.int .i64 vr) (.slice fa n c) (.slice da m d) 25
  have hb0 : Below w.heap.size w (w.alloc (.cells #[.int .i64 nm, .int .i64 vr, .slice fa n c, .slice da m d] 25)) := (Below.refl _ _).alloc (Nat.le_refl _) _
  have H0 := hide (And.intro z0 (And.intro x0 (And.intro x1 (And.intro x2 (And.intro x3 hb0)))))
  have PF := hide Pf
  have PD := hide Pd
  clear z0 x0 x1 x2 x3 hb0 Pf Pd
  go_enter Try.func3, Try.ntmps3
  go_wp2_with fail
  refine (szPkg_any _ nm vr fa da n c m d 1048576 (by omega) (by omega) hn hm).mono ?_
  generalize w.alloc _ = W0 at *
  rintro e w1 ⟨r, rfl, hr, hb1⟩
  obtain ⟨z0, x0, x1, x2, x3, hb0⟩ := unhide H0
  have hlt0 : w.heap.size < W0.heap.size := by omega
  rcases hr with ⟨hr1, hr2⟩ | ⟨hr1, rfl⟩
  · have hr0 : 0 ≤ r := by omega
    obtain ⟨fs, hfl, pf⟩ := (unhide PF) (by omega)
    obtain ⟨ds, hdl, pd⟩ := (unhide PD) (by omega)
    have hfs : fs.length ≤ 1048576 := by omega
    have hds : ds.length ≤ 1048576 := by omega
    have hw1 : Below w.heap.size w w1 := hb0.trans (hb1.mono (by omega))
    have k0 : w1.cell? ⟨w.heap.size, 0, none⟩ = _ := (hb1.cell hlt0).trans x0
    have k1 : w1.cell? ⟨w.heap.size, 1, none⟩ = _ := (hb1.cell hlt0).trans x1
    have k2 : w1.cell? ⟨w.heap.size, 2, none⟩ = _ := (hb1.cell hlt0).trans x2
    have k3 : w1.cell? ⟨w.heap.size, 3, none⟩ = _ := (hb1.cell hlt0).trans x3
    have hbk : w.heap.size < w1.heap.size := Nat.lt_of_lt_of_le hlt0 hb1.size
    have P1 : Hid (Prs w1 (.slice fa n c) fs) := pf.later hw1
    have P2 : Hid (Prs w1 (.slice da m d) ds) := pd.later hw1
    have HW1 := hide hw1
    clear H0 x0 x1 x2 x3 z0 hb0 hb1 hr1 hr2 hfl hdl pf pd hw1 PF PD hlt0
    clear W0
    go_wp2_with fail
    refine (toPkg_any _ nm vr _ _ fs ds (unhide P1) (unhide P2) hfs hds).mono ?_
    rintro e w2 ⟨fv, dv, rfl, p1, p2, hb2⟩
    have K := hide (And.intro ((hb2.cell hbk).trans k0) (And.intro ((hb2.cell hbk).trans k1) (And.intro ((hb2.cell hbk).trans k2) ((hb2.cell hbk).trans k3))))
    have hbk2 := Nat.lt_of_lt_of_le hbk hb2.size
    have Q1 : Hid (Prs w2 (.slice fa n c) fs) := (unhide P1).later hb2
    have Q2 : Hid (Prs w2 (.slice da m d) ds) := (unhide P2).later hb2
    have HW2 : Hid (Below w.heap.size w w2) := (unhide HW1).trans (hb2.mono (unhide HW1).size)
    have A1 : Hid (Prs _ _ _) := p1
    have A2 : Hid (Prs _ _ _) := p2
    clear P1 P2 HW1 hb2 k0 k1 k2 k3 p1 p2 hbk
    go_wp2_with fail
    refine (pkgText_any _ nm vr _ _ fs ds (unhide A1) (unhide A2)).mono ?_
    rintro e w3 ⟨rfl, hb3⟩
    obtain ⟨k0, k1, k2, k3⟩ := unhide K
    rw [← hb3.cell hbk2] at k0 k1 k2 k3
    have hbk3 := Nat.lt_of_lt_of_le hbk2 hb3.size
    have P1 : Hid (Prs w3 (.slice fa n c) fs) := (unhide Q1).later hb3
    have P2 : Hid (Prs w3 (.slice da m d) ds) := (unhide Q2).later hb3
    have HW3 : Hid (Below w.heap.size w w3) := (unhide HW2).trans (hb3.mono (unhide HW2).size)
    clear K A1 A2 Q1 Q2 HW2 hb3 hbk2
    go_wp2_with fail
    refine (toPkg_any _ nm vr _ _ fs ds (unhide P1) (unhide P2) hfs hds).mono ?_
    rintro e w4 ⟨fv', dv', rfl, p1, p2, hb4⟩
    have K4 := hide (And.intro ((hb4.cell hbk3).trans k0) (And.intro ((hb4.cell hbk3).trans k1) (And.intro ((hb4.cell hbk3).trans k2) ((hb4.cell hbk3).trans k3))))
    have hbk4 := Nat.lt_of_lt_of_le hbk3 hb4.size
    have Q1 : Hid (Prs w4 (.slice fa n c) fs) := (unhide P1).later hb4
    have Q2 : Hid (Prs w4 (.slice da m d) ds) := (unhide P2).later hb4
    have HW4 : Hid (Below w.heap.size w w4) := (unhide HW3).trans (hb4.mono (unhide HW3).size)
    have A1 : Hid (Prs w4 fv' fs) := p1
    have A2 : Hid (Prs w4 dv' ds) := p2
    obtain ⟨fa', fc', e1⟩ := p1.slice
    obtain ⟨da', dc', e2⟩ := p2.slice
    subst e1 e2
    clear P1 P2 HW3 hb4 k0 k1 k2 k3 p1 p2 hbk3
    go_wp2_with fail
    obtain ⟨z5, y0, y1, y2, y3⟩ := box4 w4 (.int .i64 nm) (.int .i64 vr) (.slice fa' fs.length fc') (.slice da' ds.length dc') 31
    have hb5 : Below w4.heap.size w4 (w4.alloc (.cells #[.int .i64 nm, .int .i64 vr, .slice fa' fs.length fc', .slice da' ds.length dc'] 31)) := (Below.refl _ _).alloc (Nat.le_refl _) _
    refine (implText_any _ nm vr _ _ fs ds ((unhide A1).later hb5) ((unhide A2).later hb5)).mono ?_
    generalize w4.alloc _ = W5 at *
    rintro e w6 ⟨rfl, hb6⟩
    have hlt5 : w4.heap.size < W5.heap.size := by omega
    have hb46 : Below w4.heap.size w4 w6 := hb5.trans (hb6.mono (by omega))
    obtain ⟨k0, k1, k2, k3⟩ := unhide K4
    rw [← hb46.cell hbk4] at k0 k1 k2 k3
    rw [← hb6.cell hlt5] at y0 y1 y2 y3
    have hxk : w4.heap.size < w6.heap.size := Nat.lt_of_lt_of_le hlt5 hb6.size
    have hbk6 : w.heap.size < w6.heap.size := Nat.lt_of_lt_of_le hbk4 hb46.size
    have P1 : Hid (Prs w6 (.slice fa n c) fs) := (unhide Q1).later hb46
    have P2 : Hid (Prs w6 (.slice da m d) ds) := (unhide Q2).later hb46
    have A3 : Hid (Prs w6 (.slice fa' fs.length fc') fs) := (unhide A1).later hb46
    have A4 : Hid (Prs w6 (.slice da' ds.length dc') ds) := (unhide A2).later hb46
    have HW6 : Hid (Below w.heap.size w w6) := (unhide HW4).trans (hb46.mono (unhide HW4).size)
    generalize (⟨(Pk.text nm vr fs ds).toArray⟩ : ByteArray) = ok at *
    clear K4 A1 A2 Q1 Q2 HW4 hb5 hb6 hb46 z5 hbk4 hlt5
    clear W5
    generalize w4.heap.size = xb at *
    go_wp2_with fail
    go_region_held3 (fun w' => (w'.cell? ⟨w.heap.size, 0, none⟩ = some (.int .i64 nm) ∧ w'.cell? ⟨w.heap.size, 1, none⟩ = some (.int .i64 vr) ∧ w'.cell? ⟨w.heap.size, 2, none⟩ = some (.slice fa n c) ∧ w'.cell? ⟨w.heap.size, 3, none⟩ = some (.slice da m d)) ∧ (w'.cell? ⟨xb, 0, none⟩ = some (.int .i64 nm) ∧ w'.cell? ⟨xb, 1, none⟩ = some (.int .i64 vr) ∧ w'.cell? ⟨xb, 2, none⟩ = some (.slice fa' fs.length fc') ∧ w'.cell? ⟨xb, 3, none⟩ = some (.slice da' ds.length dc')))
      (first
        | (go_keep; done)
        | exact ⟨⟨(hb7.cell hbk6).trans k0, (hb7.cell hbk6).trans k1, (hb7.cell hbk6).trans k2, (hb7.cell hbk6).trans k3⟩, ⟨(hb7.cell hxk).trans y0, (hb7.cell hxk).trans y1, (hb7.cell hxk).trans y2, (hb7.cell hxk).trans y3⟩⟩
        | exact ⟨⟨(hb8.cell (Nat.lt_of_lt_of_le hbk6 hb7.size)).trans ((hb7.cell hbk6).trans k0), (hb8.cell (Nat.lt_of_lt_of_le hbk6 hb7.size)).trans ((hb7.cell hbk6).trans k1), (hb8.cell (Nat.lt_of_lt_of_le hbk6 hb7.size)).trans ((hb7.cell hbk6).trans k2), (hb8.cell (Nat.lt_of_lt_of_le hbk6 hb7.size)).trans ((hb7.cell hbk6).trans k3)⟩, ⟨(hb8.cell (Nat.lt_of_lt_of_le hxk hb7.size)).trans ((hb7.cell hxk).trans y0), (hb8.cell (Nat.lt_of_lt_of_le hxk hb7.size)).trans ((hb7.cell hxk).trans y1), (hb8.cell (Nat.lt_of_lt_of_le hxk hb7.size)).trans ((hb7.cell hxk).trans y2), (hb8.cell (Nat.lt_of_lt_of_le hxk hb7.size)).trans ((hb7.cell hxk).trans y3)⟩⟩
        | fail)
      (first
        | (go_at_call 9; refine (toPkg_any _ nm vr _ _ fs ds (by exact (unhide P1).later (below_drew _)) (by exact (unhide P2).later (below_drew _)) hfs hds).mono ?_; rintro e w7 ⟨fv7, dv7, rfl, p1, p2, hb7⟩)
        | (go_at_call 11; refine (eqPkg_any _ nm vr _ _ _ _ fs ds (by exact ((unhide A3).later (below_drew _)).later hb7) (by exact ((unhide A4).later (below_drew _)).later hb7) (by exact p1) (by exact p2)).mono ?_; rintro e w8 ⟨rfl, hb8⟩))
    have HW8 : Hid (Below w.heap.size w w8) := ((unhide HW6).drew.trans (hb7.mono (unhide HW6).size)).trans (hb8.mono (Nat.le_trans (unhide HW6).size hb7.size))
    clear hb7 hb8 p1 p2
    go_wp2
    go_ret
    exact ⟨rfl, unhide HW8⟩
  · have HB1 : Hid (Below w.heap.size w w1) := hb0.trans (hb1.mono (by omega))
    clear H0 x0 x1 x2 x3 z0 hb0 hb1 hr1
    go_wp2
    go_ret
    exact ⟨rfl, unhide HB1⟩
end Go.Proofs.Ytfhdcapkoahflau
