import Derived.Test.YtjehpeojdcaklaaGreatDoorSpecHasW
import Derived.Test.YtjehpeojdcaklaaGreatDoorMarkW
import Derived.Test.YtjehpeojdcaklaaGreatDoorEqW
import Derived.Test.YtjehpeojdcaklaaGreatDoorMixE
import Derived.Test.YtjehpeojdcaklaaGreatDoorMarkRW
import Derived.Test.YtjehpeojdcaklaaGreatDoorOpenIndexW
/- The walk of FnExactIndexHas: it returns true and leaves what was there; for every index and every text. -/
namespace Go.Proofs.YtjehpeojdcaklaaGreatDoor
open Go.RowKit

attribute [local go_sem ↓] Go.wp_at_zero Go.wp_at_succ

set_option maxHeartbeats 8000000 in
set_option maxRecDepth 100000 in
theorem exactIndexHas_walk (w : World) (num til : Int) (fa : Option Addr) (n c : Nat) (s : ByteArray) (hIn : MetasIn w fa n c) (ev : Addr) (g : Gl w ev) :
    Calls Tryz.prog 7 #[.agg #[.int .i64 num, .int .i64 til, .slice fa n c], .string s] w fun e w' => e = .returned (.bool true) ∧ Below w.heap.size w w' := by
  obtain ⟨hn, Pf⟩ := hIn
  have BW := hide (below1 w (.cells #[.int .i64 num, .int .i64 til, .slice fa n c] 51))
  have HX := hide (heap_alloc_new w (.cells #[.int .i64 num, .int .i64 til, .slice fa n c] 51))
  have PF := hide Pf
  have G := hide (g.later (unhide BW))
  clear Pf g
  by_cases g0 : s.size ≤ 1048576
  rotate_left
  · have g0' : decide ((1048576 : Int) < (s.size : Int)) = true := by simp; omega
    go_enter Tryz.func7, Tryz.ntmps7
    go_wp2
    go_ret
    exact ⟨rfl, unhide BW⟩
  go_enter Tryz.func7, Tryz.ntmps7
  go_wp2_with fail
  refine (szIndex_any _ num til fa n c 1048576 (by omega) (by omega) hn).mono ?_
  generalize w.alloc _ = W0 at *
  rintro e w1 ⟨r, rfl, hr, b⟩
  replace BW := hide ((unhide BW).trans (b.mono (unhide BW).size))
  replace HX := hide ((b.block _ (heapLt (unhide HX))).trans (unhide HX))
  replace G := hide ((unhide G).later b)
  clear b
  clear W0
  rcases hr with ⟨hr1, hr2⟩ | ⟨hr1, rfl⟩
  rotate_left
  · go_wp2
    go_ret
    exact ⟨rfl, unhide BW⟩
  have hr0 : 0 ≤ r := by omega
  obtain ⟨ms, hml, pf⟩ := (unhide PF) (by omega)
  have hms : ms.length ≤ 1048576 := by omega
  have PI := hide (pf.later (unhide BW))
  clear hr1 hr2 hml pf PF
  obtain ⟨k0, k1, k2⟩ : _ ∧ _ ∧ _ := ⟨cellOf (unhide HX) 0, cellOf (unhide HX) 1, cellOf (unhide HX) 2⟩
  go_wp2_with fail
  refine (toIndex_any _ num til _ ms (unhide PI) hms).mono ?_
  rintro e w2 ⟨g1, _, rfl, p1, b⟩
  replace BW := hide ((unhide BW).trans (b.mono (unhide BW).size))
  replace HX := hide ((b.block _ (heapLt (unhide HX))).trans (unhide HX))
  replace G := hide ((unhide G).later b)
  replace PI := hide ((unhide PI).later b)
  clear b k0 k1 k2
  have A1 := hide p1
  clear p1
  go_wp2_with fail
  refine (specHas_any _ num til _ ms s (unhide A1)).mono ?_
  rintro e w3 ⟨fv, dv, rfl, hf, hd, b⟩
  replace BW := hide ((unhide BW).trans (b.mono (unhide BW).size))
  replace HX := hide ((b.block _ (heapLt (unhide HX))).trans (unhide HX))
  replace G := hide ((unhide G).later b)
  replace PI := hide ((unhide PI).later b)
  clear b A1
  have hln := Ix.hasD_len num til ms s.data.toList
  have CI := hide (fun (W : World) (v : Value) (h : Trs W v ms) (g : Gl W ev) => implHas_any W num til v ms s ev g h)
  unfold HasAns at CI
  generalize Ix.hasD num til ms s.data.toList = p at *
  generalize Ix.hasB num til ms s.data.toList = bb at *
  obtain ⟨nm, vr, fs, ds⟩ := p
  dsimp only at hf hd hln ⊢
  have hbb : (bb != bb) = false := by cases bb <;> rfl
  obtain ⟨pa, pc, rfl⟩ := own_form hf
  obtain ⟨qa, qc, rfl⟩ := own_form hd
  have b4 := below1 w3 (.cells #[.int .i64 nm, .int .i64 vr, .slice pa fs.length pc, .slice qa ds.length qc] 35)
  have WF := hide (And.intro ((Prs.own hf (by omega)).later b4) ((Prs.own hd (by omega)).later b4))
  have WX := hide (heap_alloc_new w3 (.cells #[.int .i64 nm, .int .i64 vr, .slice pa fs.length pc, .slice qa ds.length qc] 35))
  replace BW := hide ((unhide BW).trans (b4.mono (unhide BW).size))
  replace HX := hide ((b4.block _ (heapLt (unhide HX))).trans (unhide HX))
  replace G := hide ((unhide G).later b4)
  replace PI := hide ((unhide PI).later b4)
  clear b4 hf hd
  obtain ⟨k0, k1, k2⟩ : _ ∧ _ ∧ _ := ⟨cellOf (unhide HX) 0, cellOf (unhide HX) 1, cellOf (unhide HX) 2⟩
  go_wp2_with fail
  refine (toIndex_fill _ num til _ ms (unhide PI) hms).mono ?_
  generalize hA : w3.heap.size = A at *
  generalize w3.alloc _ = W3 at *
  clear hA
  clear w3
  have B3 := hide (Below.refl W3.heap.size W3)
  rintro e w4 ⟨g2, hg2, rfl, p1, b⟩
  replace B3 := hide ((unhide B3).trans (b.mono (unhide B3).size))
  have OX := hide (p1.own hg2 hms)
  have hY3 := (unhide B3).size
  clear b p1 k0 k1 k2
  have b5 := below1 w4 (.cells #[.int .i64 num, .int .i64 til, .slice (some ⟨g2, 0, none⟩) ms.length ms.length] 28)
  have HY := hide (heap_alloc_new w4 (.cells #[.int .i64 num, .int .i64 til, .slice (some ⟨g2, 0, none⟩) ms.length ms.length] 28))
  replace B3 := hide ((unhide B3).trans (b5.mono (unhide B3).size))
  replace OX := hide (own_later (unhide OX) b5)
  clear b5
  go_wp2_with fail
  refine (unhide CI _ _ (Trs.own (unhide OX) (by omega)) ((unhide G).later (unhide B3))).mono ?_
  generalize hY : w4.heap.size = Y at *
  generalize w4.alloc _ = V at *
  clear hY
  clear w4
  have BV := hide (Below.refl V.heap.size V)
  have hV3 := (unhide B3).size
  rintro e w6 ⟨gv, hv, rfl, hf, hd, b⟩
  replace B3 := hide ((unhide B3).trans (b.mono (unhide B3).size))
  replace OX := hide (own_later (unhide OX) b)
  replace HY := hide ((b.block _ (heapLt (unhide HY))).trans (unhide HY))
  replace BV := hide ((unhide BV).trans (b.mono (unhide BV).size))
  obtain ⟨fa', fc', rfl⟩ := own_form hf
  obtain ⟨da', dc', rfl⟩ := own_form hd
  clear b
  dsimp only at hf hd ⊢
  have b7 := below1 w6 (.cells #[.int .i64 nm, .int .i64 vr, .slice fa' fs.length fc', .slice da' ds.length dc'] 35)
  have HZ := hide (heap_alloc_new w6 (.cells #[.int .i64 nm, .int .i64 vr, .slice fa' fs.length fc', .slice da' ds.length dc'] 35))
  have OF := hide hf
  have OD := hide hd
  clear hf hd
  replace B3 := hide ((unhide B3).trans (b7.mono (unhide B3).size))
  replace OX := hide (own_later (unhide OX) b7)
  replace HY := hide ((b7.block _ (heapLt (unhide HY))).trans (unhide HY))
  replace BV := hide ((unhide BV).trans (b7.mono (unhide BV).size))
  replace OF := hide (own_later (unhide OF) b7)
  replace OD := hide (own_later (unhide OD) b7)
  clear b7
  have WN := hide ((Below.block (unhide B3) _ (heapLt (unhide WX))).trans (unhide WX))
  obtain ⟨p0, p1, p2, p3⟩ : _ ∧ _ ∧ _ ∧ _ := ⟨cellOf (unhide WN) 0, cellOf (unhide WN) 1, cellOf (unhide WN) 2, cellOf (unhide WN) 3⟩
  have CE := hide (eqPkg_any _ nm vr _ _ _ _ fs ds (Prs.own (unhide OF) (by omega)) (Prs.own (unhide OD) (by omega)) ((unhide WF).1.later (unhide B3)) ((unhide WF).2.later (unhide B3)))
  go_wp2_with fail
  refine (unhide CE).mono ?_
  clear CE
  generalize hZ : w6.heap.size = Z at *
  generalize w6.alloc _ = W6 at *
  clear hZ
  clear w6
  rintro e w7 ⟨rfl, b⟩
  replace B3 := hide ((unhide B3).trans (b.mono (unhide B3).size))
  replace OX := hide (own_later (unhide OX) b)
  replace HY := hide ((b.block _ (heapLt (unhide HY))).trans (unhide HY))
  replace BV := hide ((unhide BV).trans (b.mono (unhide BV).size))
  replace OF := hide (own_later (unhide OF) b)
  replace OD := hide (own_later (unhide OD) b)
  replace HZ := hide ((b.block _ (heapLt (unhide HZ))).trans (unhide HZ))
  clear b p0 p1 p2 p3 WN
  clear W6
  have HXN := hide ((Below.block (unhide B3) _ (heapLt (unhide HX))).trans (unhide HX))
  obtain ⟨k0, k1, k2⟩ : _ ∧ _ ∧ _ := ⟨cellOf (unhide HXN) 0, cellOf (unhide HXN) 1, cellOf (unhide HXN) 2⟩
  obtain ⟨y0, y1, y2⟩ : _ ∧ _ ∧ _ := ⟨cellOf (unhide HY) 0, cellOf (unhide HY) 1, cellOf (unhide HY) 2⟩
  have hxk := heapLt (unhide HXN)
  have hyk := heapLt (unhide HY)
  go_wp2_with fail
  go_region_held3 (fun w' => (w'.cell? ⟨w.heap.size, 0, none⟩ = some (.int .i64 num) ∧ w'.cell? ⟨w.heap.size, 1, none⟩ = some (.int .i64 til) ∧ w'.cell? ⟨w.heap.size, 2, none⟩ = some (.slice fa n c)) ∧ (w'.cell? ⟨Y, 0, none⟩ = some (.int .i64 num) ∧ w'.cell? ⟨Y, 1, none⟩ = some (.int .i64 til) ∧ w'.cell? ⟨Y, 2, none⟩ = some (.slice (some ⟨g2, 0, none⟩) ms.length ms.length)))
    (first
      | (go_keep; done)
      | exact ⟨⟨(hb7.cell hxk).trans k0, (hb7.cell hxk).trans k1, (hb7.cell hxk).trans k2⟩, ⟨(hb7.cell hyk).trans y0, (hb7.cell hyk).trans y1, (hb7.cell hyk).trans y2⟩⟩
      | exact ⟨⟨(hb8.cell (Nat.lt_of_lt_of_le hxk hb7.size)).trans ((hb7.cell hxk).trans k0), (hb8.cell (Nat.lt_of_lt_of_le hxk hb7.size)).trans ((hb7.cell hxk).trans k1), (hb8.cell (Nat.lt_of_lt_of_le hxk hb7.size)).trans ((hb7.cell hxk).trans k2)⟩, ⟨(hb8.cell (Nat.lt_of_lt_of_le hyk hb7.size)).trans ((hb7.cell hyk).trans y0), (hb8.cell (Nat.lt_of_lt_of_le hyk hb7.size)).trans ((hb7.cell hyk).trans y1), (hb8.cell (Nat.lt_of_lt_of_le hyk hb7.size)).trans ((hb7.cell hyk).trans y2)⟩⟩
      | fail)
    (first
      | (go_at_call 22; refine (toIndex_any _ num til _ ms (by exact ((unhide PI).later (unhide B3)).later (below_drew _)) hms).mono ?_; rintro e w8 ⟨g7, _, rfl, p1, hb7⟩)
      | (go_at_call 24; refine (eqIndex_any _ num til _ _ ms (by exact ((Trs.own (unhide OX) (by omega)).later (below_drew _)).later hb7) (by exact p1)).mono ?_; rintro e w9 ⟨rfl, hb8⟩))
  have b : Below w7.heap.size w7 w9 := ((below_drew w7).trans hb7).trans (hb8.mono hb7.size)
  clear hb7 hb8 p1 k0 k1 k2 y0 y1 y2 hxk hyk HXN
  replace B3 := hide ((unhide B3).trans (b.mono (unhide B3).size))
  replace OX := hide (own_later (unhide OX) b)
  replace HY := hide ((b.block _ (heapLt (unhide HY))).trans (unhide HY))
  replace BV := hide ((unhide BV).trans (b.mono (unhide BV).size))
  replace OF := hide (own_later (unhide OF) b)
  replace OD := hide (own_later (unhide OD) b)
  replace HZ := hide ((b.block _ (heapLt (unhide HZ))).trans (unhide HZ))
  clear b
  obtain ⟨y0, y1, y2⟩ : _ ∧ _ ∧ _ := ⟨cellOf (unhide HY) 0, cellOf (unhide HY) 1, cellOf (unhide HY) 2⟩
  have hs9 := (unhide B3).size
  have CM := hide (markIndex_any w9 num til (.slice (some ⟨g2, 0, none⟩) ms.length ms.length) ms _ 1 (unhide OX) (by omega) (by omega) (by omega))
  have NZ := hide (own_ne (unhide OX) (unhide HZ) (by decide))
  have NY := hide (own_ne (unhide OX) (unhide HY) (by decide))
  have NF := hide (fun k (hk : (Value.slice fa' fs.length fc').ownBlock = some k) => by obtain ⟨_, cur, hc⟩ := own_row (unhide OF) k hk; exact own_ne (unhide OX) hc (by decide))
  have ND := hide (fun k (hk : (Value.slice da' ds.length dc').ownBlock = some k) => by obtain ⟨_, cur, hc⟩ := own_row (unhide OD) k hk; exact own_ne (unhide OX) hc (by decide))
  have LO := hide (fun k hk => (own_row (unhide OX) k hk).1)
  go_wp2_with fail
  refine (unhide CM).mono ?_
  rintro e w10 ⟨rfl, _, fr⟩
  replace HZ := hide ((fr.block _ (heapLt (unhide HZ)) (unhide NZ)).trans (unhide HZ))
  replace OF := hide (fr.own (unhide OF) (fun k hk => unhide NF k hk))
  replace OD := hide (fr.own (unhide OD) (fun k hk => unhide ND k hk))
  replace B3 := hide ((unhide B3).trans (fr.below (unhide B3).size (fun k hk => unhide LO k hk)))
  have hk9 : ¬ ((1 : Int) + 3 * (ms.length : Int)) < 0 := by omega
  have hdk9 : decide ((1 : Int) + 3 * (ms.length : Int) < 0) = false := by simpa using hk9
  have hvs := Nat.le_trans (unhide BV).size fr.size
  clear CM NZ NY NF ND OX HY LO fr y0 y1 y2 BV
  have WN := hide ((Below.block (unhide B3) _ (heapLt (unhide WX))).trans (unhide WX))
  obtain ⟨z0, z1, z2, z3⟩ : _ ∧ _ ∧ _ ∧ _ := ⟨cellOf (unhide HZ) 0, cellOf (unhide HZ) 1, cellOf (unhide HZ) 2, cellOf (unhide HZ) 3⟩
  obtain ⟨p0, p1, p2, p3⟩ : _ ∧ _ ∧ _ ∧ _ := ⟨cellOf (unhide WN) 0, cellOf (unhide WN) 1, cellOf (unhide WN) 2, cellOf (unhide WN) 3⟩
  have CE := hide (eqPkg_any _ nm vr _ _ _ _ fs ds (Prs.own (unhide OF) (by omega)) (Prs.own (unhide OD) (by omega)) ((unhide WF).1.later (unhide B3)) ((unhide WF).2.later (unhide B3)))
  go_wp2_with fail
  refine (unhide CE).mono ?_
  clear CE
  rintro e w11 ⟨rfl, b⟩
  replace hvs := Nat.le_trans hvs b.size
  replace B3 := hide ((unhide B3).trans (b.mono (unhide B3).size))
  replace OF := hide (own_later (unhide OF) b)
  replace OD := hide (own_later (unhide OD) b)
  replace HZ := hide ((b.block _ (heapLt (unhide HZ))).trans (unhide HZ))
  clear b z0 z1 z2 z3 p0 p1 p2 p3 WN
  obtain ⟨z0, z1, z2, z3⟩ : _ ∧ _ ∧ _ ∧ _ := ⟨cellOf (unhide HZ) 0, cellOf (unhide HZ) 1, cellOf (unhide HZ) 2, cellOf (unhide HZ) 3⟩
  have hsV := (unhide B3).size
  have CM := hide (markPkg_any w11 nm vr _ _ fs ds V.heap.size (unhide OF) (unhide OD) hvs (by omega) (by omega))
  go_wp2_with fail
  refine (unhide CM).mono ?_
  clear CM
  rintro e w12 ⟨rfl, hf, hd, bv, far⟩
  replace HZ := hide ((far _ (heapLt (unhide HZ)) (fun e => own_ne (unhide OF) (unhide HZ) (by decide) e.symm) (fun e => own_ne (unhide OD) (unhide HZ) (by decide) e.symm)).trans (unhide HZ))
  replace OF := hide hf
  replace OD := hide hd
  replace B3 := hide ((unhide B3).trans (bv.mono hV3))
  obtain ⟨m, hm⟩ : ∃ m : Int, 1 + 2 * (fs.length : Int) + 2 * (ds.length : Int) = m := ⟨_, rfl⟩
  have hm0 : ¬ m < 0 := by omega
  have hmm : (m != m) = false := by simp
  have HM := hide hm
  rw [hm]
  clear hm hf hd bv far z0 z1 z2 z3 hsV
  obtain ⟨z0, z1, z2, z3⟩ : _ ∧ _ ∧ _ ∧ _ := ⟨cellOf (unhide HZ) 0, cellOf (unhide HZ) 1, cellOf (unhide HZ) 2, cellOf (unhide HZ) 3⟩
  go_wp2_with fail
  refine (heldPkg_any _ nm vr _ _ fs.length ds.length V.heap.size (unhide OF) (unhide OD) (by omega) (by omega)).mono ?_
  rintro e w13 ⟨rfl, b⟩
  rw [unhide HM]
  replace B3 := hide ((unhide B3).trans (b.mono (unhide B3).size))
  replace OF := hide (own_later (unhide OF) b)
  replace OD := hide (own_later (unhide OD) b)
  replace HZ := hide ((b.block _ (heapLt (unhide HZ))).trans (unhide HZ))
  clear b z0 z1 z2 z3
  have HXN := hide ((Below.block (unhide B3) _ (heapLt (unhide HX))).trans (unhide HX))
  obtain ⟨k0, k1, k2⟩ : _ ∧ _ ∧ _ := ⟨cellOf (unhide HXN) 0, cellOf (unhide HXN) 1, cellOf (unhide HXN) 2⟩
  go_wp2_with fail
  refine (toIndex_any _ num til _ ms ((unhide PI).later (unhide B3)) hms).mono ?_
  rintro e w14 ⟨g3, _, rfl, p1, b⟩
  replace B3 := hide ((unhide B3).trans (b.mono (unhide B3).size))
  replace OF := hide (own_later (unhide OF) b)
  replace OD := hide (own_later (unhide OD) b)
  replace HZ := hide ((b.block _ (heapLt (unhide HZ))).trans (unhide HZ))
  have A1 := hide p1
  clear p1 b k0 k1 k2 HXN
  go_wp2_with fail
  refine (unhide CI _ _ (unhide A1) ((unhide G).later (unhide B3))).mono ?_
  rintro e w15 ⟨gv, hv, rfl, hf, hd, b⟩
  replace B3 := hide ((unhide B3).trans (b.mono (unhide B3).size))
  replace OF := hide (own_later (unhide OF) b)
  replace OD := hide (own_later (unhide OD) b)
  replace HZ := hide ((b.block _ (heapLt (unhide HZ))).trans (unhide HZ))
  obtain ⟨fa2, fc2, rfl⟩ := own_form hf
  obtain ⟨da2, dc2, rfl⟩ := own_form hd
  clear b A1
  dsimp only at hf hd ⊢
  have b := below1 w15 (.cells #[.int .i64 nm, .int .i64 vr, .slice fa2 fs.length fc2, .slice da2 ds.length dc2] 35)
  have P12 := hide (And.intro ((Prs.own hf (by omega)).later b) ((Prs.own hd (by omega)).later b))
  clear hf hd
  replace B3 := hide ((unhide B3).trans (b.mono (unhide B3).size))
  replace OF := hide (own_later (unhide OF) b)
  replace OD := hide (own_later (unhide OD) b)
  replace HZ := hide ((b.block _ (heapLt (unhide HZ))).trans (unhide HZ))
  clear b
  have WN := hide ((Below.block (unhide B3) _ (heapLt (unhide WX))).trans (unhide WX))
  obtain ⟨p0, p1, p2, p3⟩ : _ ∧ _ ∧ _ ∧ _ := ⟨cellOf (unhide WN) 0, cellOf (unhide WN) 1, cellOf (unhide WN) 2, cellOf (unhide WN) 3⟩
  have CE := hide (eqPkg_any _ nm vr _ _ _ _ fs ds (unhide P12).1 (unhide P12).2 ((unhide WF).1.later (unhide B3)) ((unhide WF).2.later (unhide B3)))
  go_wp2_with fail
  refine (unhide CE).mono ?_
  clear CE P12
  generalize hQ : w15.heap.size = Q at *
  generalize w15.alloc _ = W15 at *
  clear hQ
  clear w15
  rintro e w16 ⟨rfl, b⟩
  replace B3 := hide ((unhide B3).trans (b.mono (unhide B3).size))
  replace OF := hide (own_later (unhide OF) b)
  replace OD := hide (own_later (unhide OD) b)
  replace HZ := hide ((b.block _ (heapLt (unhide HZ))).trans (unhide HZ))
  clear b p0 p1 p2 p3 WN
  clear W15
  obtain ⟨z0, z1, z2, z3⟩ : _ ∧ _ ∧ _ ∧ _ := ⟨cellOf (unhide HZ) 0, cellOf (unhide HZ) 1, cellOf (unhide HZ) 2, cellOf (unhide HZ) 3⟩
  go_wp2_with fail
  refine (heldPkg_any _ nm vr _ _ fs.length ds.length V.heap.size (unhide OF) (unhide OD) (by omega) (by omega)).mono ?_
  rintro e w17 ⟨rfl, b⟩
  rw [unhide HM]
  replace B3 := hide ((unhide B3).trans (b.mono (unhide B3).size))
  replace OF := hide (own_later (unhide OF) b)
  replace OD := hide (own_later (unhide OD) b)
  replace HZ := hide ((b.block _ (heapLt (unhide HZ))).trans (unhide HZ))
  clear b z0 z1 z2 z3
  have HB : Hid (Below w.heap.size w w17) := (unhide BW).trans ((unhide B3).mono (unhide BW).size)
  clear B3 HZ OF OD
  go_wp2
  go_ret
  exact ⟨rfl, unhide HB⟩
end Go.Proofs.YtjehpeojdcaklaaGreatDoor
