/- What spec.DrawPkgText returns: a package in rows of its own; nothing old is written. -/
import Derived.Test.YtomnbbegpobaiaaGreatDoorAnyDrawW
import Derived.Test.YtomnbbegpobaiaaGreatDoorPkgTextW
import Derived.Test.YtomnbbegpobaiaaGreatDoorDrawW
namespace Go.Proofs.YtomnbbegpobaiaaGreatDoor
open Go.RowKit

/-- An answer laid into its box: what was elsewhere stays. -/
theorem boxed4 {w : World} {R : Nat} {a b c d x0 x1 x2 x3 : Value} {t : TypeId} (h : w.heap[R]? = some (.cells #[x0, x1, x2, x3] t (0, 0))) {w' : World} (hw : (((w.setCell ⟨R, 0, none⟩ a).setCell ⟨R, 1, none⟩ b).setCell ⟨R, 2, none⟩ c).setCell ⟨R, 3, none⟩ d = w') :
    (w'.cell? ⟨R, 0, none⟩ = some a ∧ w'.cell? ⟨R, 1, none⟩ = some b ∧ w'.cell? ⟨R, 2, none⟩ = some c ∧ w'.cell? ⟨R, 3, none⟩ = some d) ∧ (∀ k, k ≠ R → w'.heap[k]? = w.heap[k]?) ∧ w'.heap.size = w.heap.size := by
  have hR : w'.heap[R]? = some (.cells #[a, b, c, d] t (0, 0)) := by
    rw [← hw, heap_set (heap_set (heap_set (heap_set h)))]
    rfl
  exact ⟨⟨cell_of hR 0, cell_of hR 1, cell_of hR 2, cell_of hR 3⟩, fun k hk => by rw [← hw, Below.heap_setCell _ _ _ _ hk, Below.heap_setCell _ _ _ _ hk, Below.heap_setCell _ _ _ _ hk, Below.heap_setCell _ _ _ _ hk], by rw [← hw]; simp [World.setCell]⟩

set_option maxHeartbeats 2000000 in
set_option maxRecDepth 100000 in
theorem drawText_any (w : World) (a : Option Addr) (len cap : Nat) (h : Bytes w a len cap) :
    Calls Tryz.prog 7 #[.slice a len cap] w fun e w' => ∃ nm vr fv dv fs ds, e = .returned (.agg #[.int .i64 nm, .int .i64 vr, fv, dv]) ∧ fs.length ≤ 3 ∧ ds.length ≤ 3 ∧ Prs w' fv fs ∧ Prs w' dv ds ∧ Below w.heap.size w w' := by
  have hb0 : Below w.heap.size w (w.alloc (.cells #[.int .i64 0, .int .i64 0, .slice none 0 0, .slice none 0 0] 26)) := (Below.refl _ _).alloc (Nat.le_refl _) _
  have H0 := hide (And.intro hb0 (And.intro (sz1 w (.cells #[.int .i64 0, .int .i64 0, .slice none 0 0, .slice none 0 0] 26)) (And.intro (at_new w (.cells #[.int .i64 0, .int .i64 0, .slice none 0 0, .slice none 0 0] 26) w.heap.size rfl) (h.later hb0))))
  clear h hb0
  go_enter Tryz.func7, Tryz.ntmps7
  go_wp2_with fail
  refine (open_any _ a len cap (unhide H0).2.2.2).mono ?_
  generalize w.alloc _ = W0 at *
  rintro e w1 ⟨rfl, hr1, hb1⟩
  obtain ⟨hb0, z0, hR0, _⟩ := unhide H0
  have hz1 := hb1.size
  have hblk := hr1.lt
  have HR1 : Hid (Rd _ _ _ _) := hr1
  have HX := hide (And.intro hb0 (And.intro z0 (And.intro hR0 hb1)))
  clear hr1 H0 hb0 z0 hR0 hb1
  go_wp2_with fail
  refine (l71Any_any _ _ 0 (unhide HR1) hz1 (by omega)).mono ?_
  rintro e w2 ⟨nm, vr, fv, dv, fs, ds, p2, rfl, fl, dl, hp2, of1, od1, hr2, hk2⟩
  obtain ⟨hb0, z0, hR0, hb1⟩ := unhide HX
  have hR1 := hb1.block w.heap.size (by omega)
  rw [hR0] at hR1
  have hR2 := hk2.block w.heap.size (by omega) (by omega)
  rw [hR1] at hR2
  have hB2 : Below w.heap.size w w2 := (hb0.trans (hb1.mono (by omega))).trans ((hk2.mono (by omega)).below (by omega))
  obtain ⟨fa, fc, rfl⟩ := own_form of1
  obtain ⟨da, dc, rfl⟩ := own_form od1
  have r0 : w2.cell? ⟨w.heap.size, 0, none⟩ = _ := cell_of hR2 0
  have r1 : w2.cell? ⟨w.heap.size, 1, none⟩ = _ := cell_of hR2 1
  have r2 : w2.cell? ⟨w.heap.size, 2, none⟩ = _ := cell_of hR2 2
  have r3 : w2.cell? ⟨w.heap.size, 3, none⟩ = _ := cell_of hR2 3
  have s0 := frozen_of hR2 0
  have s1 := frozen_of hR2 1
  have s2 := frozen_of hR2 2
  have s3 := frozen_of hR2 3
  have hlt : w.heap.size < w1.heap.size := by omega
  have HR2 := hide hR2
  have HB2 := hide hB2
  have O1 := hide of1
  have O2 := hide od1
  clear HX hb0 z0 hR0 hb1 hR1 hR2 hB2 of1 od1 hr2 hk2 HR1
  go_wp2
  obtain ⟨W5, hW5⟩ : ∃ W5, (((w2.setCell ⟨w.heap.size, 0, none⟩ (.int .i64 nm)).setCell ⟨w.heap.size, 1, none⟩ (.int .i64 vr)).setCell ⟨w.heap.size, 2, none⟩ (.slice fa fs.length fc)).setCell ⟨w.heap.size, 3, none⟩ (.slice da ds.length dc) = W5 := ⟨_, rfl⟩
  obtain ⟨⟨q0, q1, q2, q3⟩, far, hsz⟩ := boxed4 (unhide HR2) hW5
  have hbe5 : Below w.heap.size w W5 := by
    rw [← hW5]
    exact ((((unhide HB2).setCell (Nat.le_refl _) _).setCell (Nat.le_refl _) _).setCell (Nat.le_refl _) _).setCell (Nat.le_refl _) _
  rw [hW5]
  exact bodyPost_ret (v := .agg #[.int .i64 nm, .int .i64 vr, .slice fa fs.length fc, .slice da ds.length dc]) (by simp [results, Tryz.results7, go_sem, q0, q1, q2, q3]) rfl
    ⟨nm, vr, _, _, fs, ds, rfl, fl, dl, Prs.own (own_keep (unhide O1) (fun k _ _ hB _ => far k (by omega))) (by omega), Prs.own (own_keep (unhide O2) (fun k _ _ hB _ => far k (by omega))) (by omega), hbe5⟩
end Go.Proofs.YtomnbbegpobaiaaGreatDoor
