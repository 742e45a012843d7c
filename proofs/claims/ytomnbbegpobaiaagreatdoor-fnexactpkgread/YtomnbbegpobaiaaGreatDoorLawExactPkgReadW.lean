/- The walk of laws.FnExactPkgRead: impl's answer is spec's, at every text; marks that are laid into it stay. -/
import Derived.Test.YtomnbbegpobaiaaGreatDoorSpecReadW
import Derived.Test.YtomnbbegpobaiaaGreatDoorMarkW
import Derived.Test.YtomnbbegpobaiaaGreatDoorEqW
import Derived.Test.YtomnbbegpobaiaaGreatDoorInjW
import Derived.Test.YtomnbbegpobaiaaGreatDoorSaysW
namespace Go.Proofs.YtomnbbegpobaiaaGreatDoor
open Go.RowKit

attribute [local go_sem ↓] Go.wp_at_zero Go.wp_at_succ

/-- The answer, its box and its rows; what was there ahead of it is as it was. -/
structure Ex (V w : World) (X : Nat) (nm vr : Int) (gv hv : Value) (n m : Nat) (fs ds : List (Int × Int)) : Prop where
  bl : Below V.heap.size V w
  hX : w.heap[X]? = some (.cells #[.int .i64 nm, .int .i64 vr, gv, hv] 26 (0, 0))
  hf : w.ownsRow V.heap.size 50 2 gv n (flat fs)
  hd : w.ownsRow V.heap.size 52 2 hv m (flat ds)
theorem Ex.later {V w w' : World} {X : Nat} {nm vr : Int} {gv hv : Value} {n m : Nat} {fs ds : List (Int × Int)} (h : Ex V w X nm vr gv hv n m fs ds) (hb : Below w.heap.size w w') : Ex V w' X nm vr gv hv n m fs ds :=
  ⟨h.bl.trans (hb.mono h.bl.size), by rw [hb.block X (heap_lt h.hX)]; exact h.hX, own2_later h.hf hb, own2_later h.hd hb⟩
theorem Ex.new {V w : World} {nm vr : Int} {gv hv : Value} {n m : Nat} {fs ds : List (Int × Int)} (hb : Below V.heap.size V w) (hf : w.ownsRow V.heap.size 50 2 gv n (flat fs)) (hd : w.ownsRow V.heap.size 52 2 hv m (flat ds)) : Ex V (w.alloc (.cells #[.int .i64 nm, .int .i64 vr, gv, hv] 26)) w.heap.size nm vr gv hv n m fs ds :=
  ⟨hb.alloc hb.size _, heap_alloc_new w _, hf.alloc _, hd.alloc _⟩
theorem Ex.mark {V w w' : World} {X : Nat} {nm vr : Int} {gv hv : Value} {n m : Nat} {fs ds fs' ds' : List (Int × Int)} (h : Ex V w X nm vr gv hv n m fs ds) (hf : w'.ownsRow V.heap.size 50 2 gv n (flat fs')) (hd : w'.ownsRow V.heap.size 52 2 hv m (flat ds')) (hb : Below V.heap.size w w')
    (hk : ∀ k, k < w.heap.size → some k ≠ gv.ownBlock → some k ≠ hv.ownBlock → w'.heap[k]? = w.heap[k]?) : Ex V w' X nm vr gv hv n m fs' ds' := by
  refine ⟨h.bl.trans hb, ?_, hf, hd⟩
  rw [hk X (heap_lt h.hX) (fun e => ?_) (fun e => ?_)]
  · exact h.hX
  · obtain ⟨c, hc⟩ := own2_block h.hf e.symm
    exact pkg_not_file h.hX hc
  · obtain ⟨c, hc⟩ := own2_block h.hd e.symm
    exact pkg_not_dep h.hX hc

set_option maxHeartbeats 8000000 in
set_option maxRecDepth 100000 in
theorem exactPkgRead_walk (s : ByteArray) (w : World) (ev : Addr) (g : Gl w ev) :
    Calls Tryz.prog 6 #[.string s] w fun e w' => e = .returned (.bool true) ∧ Below w.heap.size w w' := by
  have G := hide g
  clear g
  by_cases g0 : s.size ≤ 1048576
  · go_enter Tryz.func6, Tryz.ntmps6
    go_wp2_with fail
    refine (specRead_any s w).mono ?_
    intro e w1 h1
    obtain ⟨nm, vr, fs, ds, fv, dv, b, rfl, hsay, hf, hd, hb1⟩ := h1.out
    clear h1
    obtain ⟨hfl, hdl⟩ := hsay.len
    have q1 : Prs w1 fv fs := Prs.own hf (by omega)
    have q2 : Prs w1 dv ds := Prs.own hd (by omega)
    obtain ⟨fa, fc, rfl⟩ := own_form hf
    obtain ⟨da, dc, rfl⟩ := own_form hd
    have hB2 : Below w1.heap.size w1 (w1.alloc (.cells #[.int .i64 nm, .int .i64 vr, .slice fa fs.length fc, .slice da ds.length dc] 26)) := (Below.refl _ _).alloc (Nat.le_refl _) _
    have K2 : Hid (Below w.heap.size w _ ∧ Box _ w1.heap.size (.int .i64 nm) (.int .i64 vr) (.slice fa fs.length fc) (.slice da ds.length dc) ∧ Prs _ (.slice fa fs.length fc) fs ∧ Prs _ (.slice da ds.length dc) ds) := ⟨hb1.trans (hB2.mono hb1.size), Box.new w1 _ _ _ _ 26, q1.later hB2, q2.later hB2⟩
    have HSAY := hide hsay
    clear hf hd hb1 hB2 q1 q2 hsay
    go_wp2_with fail
    refine (implRead_any s _ ev ((unhide G).later (unhide K2).1)).mono ?_
    generalize w1.alloc _ = V2 at *
    generalize w1.heap.size = A at *
    intro e w3 h3
    obtain ⟨nm', vr', fs', ds', fv', dv', b', rfl, hsay', hf3, hd3, hb3⟩ := h3.out
    clear h3
    obtain ⟨rfl, rfl, rfl, rfl, rfl⟩ := (unhide HSAY).one hsay'
    obtain ⟨fa', fc', rfl⟩ := own_form hf3
    obtain ⟨da', dc', rfl⟩ := own_form hd3
    have K4 := hide (Ex.new (nm := nm) (vr := vr) hb3 hf3 hd3)
    clear hsay' hf3 hd3 hb3
    obtain ⟨_, a0, a1, a2, a3⟩ := (unhide K2).2.1.later (unhide K4).bl
    obtain ⟨⟨b0, b1, b2, b3⟩, _⟩ := box_cells (unhide K4).hX
    have hbb : (b != b) = false := by cases b <;> rfl
    go_wp2_with fail
    refine (eqPkg_any _ nm vr _ _ _ _ fs ds (Prs.own (unhide K4).hf (by omega)) (Prs.own (unhide K4).hd (by omega)) ((unhide K2).2.2.1.later (unhide K4).bl) ((unhide K2).2.2.2.later (unhide K4).bl)).mono ?_
    generalize w3.alloc _ = V4 at *
    generalize w3.heap.size = X at *
    rintro e w5 ⟨rfl, hb5⟩
    have K5 := hide ((unhide K4).later hb5)
    clear hb5 K4 a0 a1 a2 a3 b0 b1 b2 b3
    obtain ⟨⟨b0, b1, b2, b3⟩, _⟩ := box_cells (unhide K5).hX
    go_wp2_with fail
    refine (markPkg_any _ nm vr _ _ fs ds V2.heap.size (unhide K5).hf (unhide K5).hd (unhide K5).bl.size (by omega) (by omega)).mono ?_
    rintro e w6 ⟨rfl, hf6, hd6, hb6, hk6⟩
    have K6 := hide ((unhide K5).mark hf6 hd6 hb6 hk6)
    clear hf6 hd6 hb6 hk6 K5 b0 b1 b2 b3
    obtain ⟨⟨b0, b1, b2, b3⟩, _⟩ := box_cells (unhide K6).hX
    obtain ⟨m, hm⟩ : ∃ m : Int, 1 + 2 * (fs.length : Int) + 2 * (ds.length : Int) = m := ⟨_, rfl⟩
    have hm0 : 0 ≤ m := by omega
    have hmm : (m != m) = false := by simp
    have HM := hide hm
    rw [hm]
    clear hm
    go_wp2_with fail
    refine (heldPkg_any _ nm vr _ _ fs.length ds.length V2.heap.size (unhide K6).hf (unhide K6).hd (by omega) (by omega)).mono ?_
    rintro e w7 ⟨rfl, hb7⟩
    have K7 := hide ((unhide K6).later hb7)
    rw [unhide HM]
    clear hb7 K6 b0 b1 b2 b3
    go_wp2_with fail
    refine (implRead_any s _ ev ((unhide G).later ((unhide K2).1.trans ((unhide K7).bl.mono (unhide K2).1.size)))).mono ?_
    intro e w8 h8
    obtain ⟨nm', vr', fs', ds', fv', dv', b', rfl, hsay', hf8, hd8, hb8⟩ := h8.out
    clear h8
    obtain ⟨rfl, rfl, rfl, rfl, rfl⟩ := (unhide HSAY).one hsay'
    obtain ⟨fa2, fc2, rfl⟩ := own_form hf8
    obtain ⟨da2, dc2, rfl⟩ := own_form hd8
    have hB9 : Below w8.heap.size w8 (w8.alloc (.cells #[.int .i64 nm, .int .i64 vr, .slice fa2 fs.length fc2, .slice da2 ds.length dc2] 26)) := (Below.refl _ _).alloc (Nat.le_refl _) _
    have K9 := hide ((unhide K7).later (hb8.trans (hB9.mono hb8.size)))
    have P1 : Hid (Prs _ (.slice fa2 fs.length fc2) fs) := (Prs.own hf8 (by omega)).later hB9
    have P2 : Hid (Prs _ (.slice da2 ds.length dc2) ds) := (Prs.own hd8 (by omega)).later hB9
    have HC9 := hide (box_cells (heap_alloc_new w8 (.cells #[.int .i64 nm, .int .i64 vr, .slice fa2 fs.length fc2, .slice da2 ds.length dc2] 26)))
    clear hsay' hf8 hd8 hb8 hB9 K7
    obtain ⟨_, a0, a1, a2, a3⟩ := (unhide K2).2.1.later (unhide K9).bl
    go_wp2_with fail
    refine (eqPkg_any _ nm vr _ _ _ _ fs ds (unhide P1) (unhide P2) ((unhide K2).2.2.1.later (unhide K9).bl) ((unhide K2).2.2.2.later (unhide K9).bl)).mono ?_
    generalize w8.alloc _ = V9 at *
    rintro e w10 ⟨rfl, hb10⟩
    have K10 := hide ((unhide K9).later hb10)
    clear hb10 K9 P1 P2 HC9 a0 a1 a2 a3
    obtain ⟨⟨b0, b1, b2, b3⟩, _⟩ := box_cells (unhide K10).hX
    go_wp2_with fail
    refine (heldPkg_any _ nm vr _ _ fs.length ds.length V2.heap.size (unhide K10).hf (unhide K10).hd (by omega) (by omega)).mono ?_
    rintro e w11 ⟨rfl, hb11⟩
    have K11 := hide ((unhide K10).later hb11)
    rw [unhide HM]
    clear hb11 K10
    have HB : Hid (Below w.heap.size w w11) := (unhide K2).1.trans ((unhide K11).bl.mono (unhide K2).1.size)
    go_wp2
    go_ret
    exact ⟨rfl, unhide HB⟩
  · have g0' : decide ((1048576 : Int) < (s.size : Int)) = true := by simp; omega
    go_enter Tryz.func6, Tryz.ntmps6
    go_wp2
    go_ret
    exact ⟨rfl, Below.refl _ _⟩
end Go.Proofs.YtomnbbegpobaiaaGreatDoor
