import Derived.Test.YtkhanndmbpemfaaGreatDoorMix27
/- impl.InstTo: a disk behind so many steps, the next one torn or not. -/
namespace Go.Proofs.YtkhanndmbpemfaaGreatDoor
open Go.RowKit Go.Maps

attribute [local go_sem ↓] Go.wp_at_zero Go.wp_at_succ

namespace Dk
def toA (d : D) (l : List S) (cut : Int) (torn : Bool) : D × Bool := if d.ok = true ∧ allOk l = true ∧ 0 ≤ cut then (till d l cut torn, true) else (D.none, false)
end Dk
/-- The open disk, its two tables, and the answer's box. -/
structure It (B R : Nat) (w : World) (O M1 M2 : Nat) (V V' : Int → Value) (D : Dk.D) (v2 v1 vf : Value) : Prop where
  op : OpD B w O D v2 v1 vf
  m1 : MapF w M1 4 V
  m2 : MapF w M2 4 V'
  lo : B ≤ O ∧ O < M1 ∧ M1 < M2
  vb : ∀ g, vf.ownBlock = some g → B ≤ g ∧ g < M1
  hR : w.heap[R]? = some (.cells #[.slice none 0 0, .slice none 0 0, .bool false, .slice none 0 0] 31 (0, 0))
  lR : R < B
theorem It.stays {B R : Nat} {w w' : World} {O M1 M2 : Nat} {V V' : Int → Value} {D D' : Dk.D} {v2 v1 vf u2 u1 : Value} (h : It B R w O M1 M2 V V' D v2 v1 vf) (st : Stays (fun x => x = O ∨ vf.ownBlock = some x) w w') (ho : OpD B w' O D' u2 u1 vf) : It B R w' O M1 M2 V V' D' u2 u1 vf := by
  obtain ⟨l1, l2, l3⟩ := h.lo
  have lR := h.lR
  have far : ∀ k, k < w.heap.size → k ≠ O → (∀ g, vf.ownBlock = some g → k ≠ g) → w'.heap[k]? = w.heap[k]? := fun k hk h1 h2 => st.block k hk (by rintro (e | e); exact h1 e; exact h2 k e rfl)
  refine ⟨ho, h.m1.keep (far _ h.m1.lt (by omega) (fun g hg => by have := (h.vb g hg).2; omega)), h.m2.keep (far _ h.m2.lt (by omega) (fun g hg => by have := (h.vb g hg).2; omega)), h.lo, h.vb, ?_, h.lR⟩
  rw [far R (heapLt h.hR) (by omega) (fun g hg => by have := (h.vb g hg).1; omega)]
  exact h.hR
theorem It.later {B R : Nat} {w w' : World} {O M1 M2 : Nat} {V V' : Int → Value} {D : Dk.D} {v2 v1 vf : Value} (h : It B R w O M1 M2 V V' D v2 v1 vf) (b : Below w.heap.size w w') : It B R w' O M1 M2 V V' D v2 v1 vf :=
  ⟨h.op.later b, h.m1.later b, h.m2.later b, h.lo, h.vb, (b.block _ (heapLt h.hR)).trans h.hR, h.lR⟩

set_option linter.unusedSimpArgs false in
set_option maxHeartbeats 8000000 in
set_option maxRecDepth 100000 in
theorem implInstTo_any {N : Nat → Prop} (w : World) (d : Dk.D) (v1 vf v2 v : Value) (l : List Dk.S) (cut : Int) (torn : Bool) (hd : DIn w d v1 vf v2) (hs : StsR N w v l) (hl : l.length ≤ 1000) (c0 : -9000000000000000000 ≤ cut) (c1 : cut ≤ 9000000000000000000) :
    Calls Tryz.prog 11 #[dkV v1 vf d.has v2, v, .int .i64 cut, .bool torn] w fun e w' => ∃ u, e = .returned u ∧ DkAns w.heap.size w' (Dk.toA d l cut torn) u ∧ Below w.heap.size w w' := by
  have CO := hide (fun (W : World) (x : DIn W d v1 vf v2) => implDiskOk_any W d v1 vf v2 x.p1 x.r1 x.pf x.p2 x.r2)
  have GD := hide (fun h => Dk.ok_get (d := d) h)
  have HA := hide (show (d.ok = false ∨ allOk l = false ∨ cut < 0) → Dk.toA d l cut torn = (Dk.D.none, false) from fun h => by
    unfold Dk.toA
    rw [if_neg]
    rintro ⟨h1, h2, h3⟩
    rcases h with h | h | h
    · rw [h1] at h; cases h
    · rw [h2] at h; cases h
    · omega)
  have HY := hide (show d.ok = true → allOk l = true → 0 ≤ cut → Dk.toA d l cut torn = (Dk.till d l cut torn, true) from fun h1 h2 h3 => by unfold Dk.toA; rw [if_pos ⟨h1, h2, h3⟩])
  have HAL := hide (fun h => allOk_mem (l := l) h)
  generalize hAA : Dk.toA d l cut torn = AA at *
  clear hAA
  generalize d.ok = dok at *
  generalize hal : allOk l = al at *
  have HALE := hide hal
  clear hal
  obtain ⟨a1, c1', af, cf, a2, c2', i1, i2, i3⟩ := hd.forms
  obtain ⟨sa, sc, i4, hsc⟩ := hs.slice
  obtain ⟨db, fl, has, jr⟩ := d
  dsimp only at i1 i2 i3
  subst i1 i2 i3 i4
  obtain ⟨b0, k0, k1⟩ := two_boxesD w (.cells #[.slice a1 db.length c1', .slice af fl.length cf, .bool has, .slice a2 jr.length c2'] 31) (.cells #[.slice none 0 0, .slice none 0 0, .bool false, .slice none 0 0] 31)
  have HB := hide k0
  have HR := hide k1
  have BW := hide b0
  have HD := hide (hd.later b0)
  have HS := hide (hs.later b0)
  have CA := hide (fun (W : World) (x : StsR N W (.slice sa l.length sc) l) => allSteps_any W _ l x)
  rw [unhide HALE] at CA
  clear hd hs b0 k0 k1 HALE
  dsimp only [dkV] at *
  go_enter Tryz.func11, Tryz.ntmps11
  go_wp2_with fail
  generalize World.alloc _ _ = W0 at *
  refine (unhide CO _ (unhide HD)).mono ?_
  rintro e w1 ⟨rfl, b⟩
  replace HB := hide ((b.block _ (heapLt (unhide HB))).trans (unhide HB))
  replace HR := hide ((b.block _ (heapLt (unhide HR))).trans (unhide HR))
  replace HD := hide ((unhide HD).later b)
  replace HS := hide ((unhide HS).later b)
  replace BW := hide ((unhide BW).trans (b.mono (unhide BW).size))
  clear b CO
  cases dok
  · have HE := hide (unhide HA (.inl (by trivial)))
    obtain ⟨⟨x0, y0⟩, ⟨x1, y1⟩, ⟨x2, y2⟩, x3, y3⟩ : (_ ∧ _) ∧ (_ ∧ _) ∧ (_ ∧ _) ∧ _ ∧ _ := ⟨⟨cellOf (unhide HR) 0, frozenOf (unhide HR) 0⟩, ⟨cellOf (unhide HR) 1, frozenOf (unhide HR) 1⟩, ⟨cellOf (unhide HR) 2, frozenOf (unhide HR) 2⟩, cellOf (unhide HR) 3, frozenOf (unhide HR) 3⟩
    clear HA HY
    go_wp2
    obtain ⟨⟨q0, q1, q2, q3⟩, hbel, hfar⟩ := fin4 (a := .slice none 0 0) (b := .slice none 0 0) (c := .bool false) (d := .slice none 0 0) (W := w) (unhide HR) (by omega) (unhide BW) rfl
    exact bodyPost_ret (v := .tuple #[.agg #[.slice none 0 0, .slice none 0 0, .bool false, .slice none 0 0], .bool false]) (by simp [results, Tryz.results11, go_sem, q0, q1, q2, q3]) rfl ⟨_, rfl, by rw [unhide HE]; exact ⟨_, _, _, [], [], rfl, ⟨PAns.nil _ _, World.ownsRow_nil _ _ _ _, PAns.nil _ _, fun g hg => by rcases hg with hg | ⟨e, he, _⟩; cases hg; cases he⟩, rfl, rfl⟩, hbel⟩
  by_cases hc0 : cut < 0
  · have HE := hide (unhide HA (.inr (.inr hc0)))
    obtain ⟨⟨x0, y0⟩, ⟨x1, y1⟩, ⟨x2, y2⟩, x3, y3⟩ : (_ ∧ _) ∧ (_ ∧ _) ∧ (_ ∧ _) ∧ _ ∧ _ := ⟨⟨cellOf (unhide HR) 0, frozenOf (unhide HR) 0⟩, ⟨cellOf (unhide HR) 1, frozenOf (unhide HR) 1⟩, ⟨cellOf (unhide HR) 2, frozenOf (unhide HR) 2⟩, cellOf (unhide HR) 3, frozenOf (unhide HR) 3⟩
    clear HA HY
    go_wp2
    obtain ⟨⟨q0, q1, q2, q3⟩, hbel, hfar⟩ := fin4 (a := .slice none 0 0) (b := .slice none 0 0) (c := .bool false) (d := .slice none 0 0) (W := w) (unhide HR) (by omega) (unhide BW) rfl
    exact bodyPost_ret (v := .tuple #[.agg #[.slice none 0 0, .slice none 0 0, .bool false, .slice none 0 0], .bool false]) (by simp [results, Tryz.results11, go_sem, q0, q1, q2, q3]) rfl ⟨_, rfl, by rw [unhide HE]; exact ⟨_, _, _, [], [], rfl, ⟨PAns.nil _ _, World.ownsRow_nil _ _ _ _, PAns.nil _ _, fun g hg => by rcases hg with hg | ⟨e, he, _⟩; cases hg; cases he⟩, rfl, rfl⟩, hbel⟩
  go_wp2_with fail
  refine (unhide CA _ (unhide HS)).mono ?_
  rintro e w2 ⟨rfl, b⟩
  replace HB := hide ((b.block _ (heapLt (unhide HB))).trans (unhide HB))
  replace HR := hide ((b.block _ (heapLt (unhide HR))).trans (unhide HR))
  replace HD := hide ((unhide HD).later b)
  replace HS := hide ((unhide HS).later b)
  replace BW := hide ((unhide BW).trans (b.mono (unhide BW).size))
  clear b CA
  cases al
  · have HE := hide (unhide HA (.inr (.inl (by trivial))))
    obtain ⟨⟨x0, y0⟩, ⟨x1, y1⟩, ⟨x2, y2⟩, x3, y3⟩ : (_ ∧ _) ∧ (_ ∧ _) ∧ (_ ∧ _) ∧ _ ∧ _ := ⟨⟨cellOf (unhide HR) 0, frozenOf (unhide HR) 0⟩, ⟨cellOf (unhide HR) 1, frozenOf (unhide HR) 1⟩, ⟨cellOf (unhide HR) 2, frozenOf (unhide HR) 2⟩, cellOf (unhide HR) 3, frozenOf (unhide HR) 3⟩
    clear HA HY
    go_wp2
    obtain ⟨⟨q0, q1, q2, q3⟩, hbel, hfar⟩ := fin4 (a := .slice none 0 0) (b := .slice none 0 0) (c := .bool false) (d := .slice none 0 0) (W := w) (unhide HR) (by omega) (unhide BW) rfl
    exact bodyPost_ret (v := .tuple #[.agg #[.slice none 0 0, .slice none 0 0, .bool false, .slice none 0 0], .bool false]) (by simp [results, Tryz.results11, go_sem, q0, q1, q2, q3]) rfl ⟨_, rfl, by rw [unhide HE]; exact ⟨_, _, _, [], [], rfl, ⟨PAns.nil _ _, World.ownsRow_nil _ _ _ _, PAns.nil _ _, fun g hg => by rcases hg with hg | ⟨e, he, _⟩; cases hg; cases he⟩, rfl, rfl⟩, hbel⟩
  obtain ⟨gf, g1, g2, _⟩ := unhide GD (by trivial)
  have hL6 : fl.length = 6 := (Dk.files_get gf).1
  have HLN := hide (And.intro (show db.length ≤ 1000 by have := Ix.pkgs_len (Ix.planOk_pkgs g1); omega) (And.intro (show jr.length ≤ 1000 by have := Ix.pkgs_len (Ix.planOk_pkgs g2); omega) (show fl.length ≤ 1000 by omega)))
  have HL6 := hide hL6
  have HALL := hide (unhide HAL (by trivial))
  have HE0 := hide (unhide HY (by trivial) (by trivial) (by omega))
  obtain ⟨dn, hdn, hdl, hdc, hdo⟩ : ∃ dn : Nat, min cut (l.length : Int) = (dn : Int) ∧ dn ≤ l.length ∧ (dn : Int) ≤ cut ∧ (dn = l.length ∨ cut ≤ dn) := by
    refine ⟨(min cut (l.length : Int)).toNat, ?_, ?_, ?_, ?_⟩ <;> omega
  have HDN := hide hdn
  have HDO := hide hdo
  clear gf g1 g2 hL6 HA HY HAL GD hdn hdo
  obtain ⟨d0, hd0⟩ : ∃ d0, d0 = (⟨db, fl, has, jr⟩ : Dk.D) := ⟨_, rfl⟩
  have HSN := hide ((unhide HS).bound)
  obtain ⟨x0, x1, x2, x3⟩ : _ ∧ _ ∧ _ ∧ _ := ⟨cellOf (unhide HB) 0, cellOf (unhide HB) 1, cellOf (unhide HB) 2, cellOf (unhide HB) 3⟩
  go_wp2_with fail
  rw [unhide HDN]
  refine (opened_any _ ⟨db, fl, has, jr⟩ _ _ _ (unhide HD).p1 (unhide HD).pf (unhide HD).p2 (unhide HLN).1 (unhide HLN).2.1 (unhide HLN).2.2).mono ?_
  rintro e w3 ⟨O, u2, u1, uf, e1, e2, rfl, hO, hm1, hm2, b⟩
  have HO : Hid (OpD w2.heap.size w3 O d0 u2 u1 uf) := by
    show OpD _ _ _ _ _ _ _
    rw [hd0]
    exact ⟨⟨e1, e2, hO, hm1, hm2⟩⟩
  have HE1 : Hid (AA = (Dk.till d0 l cut torn, true)) := by
    show _ = _
    rw [hd0]
    exact unhide HE0
  have HF6 : Hid (d0.fl.length = 6) := by
    show _ = _
    rw [hd0]
    exact unhide HL6
  have HLO := hide (And.intro hO.lo (heapLt hO.box))
  have HVB : Hid (∀ g, uf.ownBlock = some g → w2.heap.size ≤ g ∧ g < w3.heap.size) := fun g hg => hO.ans.pf.lt g hg
  have HLR : Hid (w.heap.size + 1 < w2.heap.size) := heapLt (unhide HR)
  replace HSN := hide ((unhide HSN).later b)
  replace HR := hide ((b.block _ (heapLt (unhide HR))).trans (unhide HR))
  replace BW := hide ((unhide BW).trans (b.mono (unhide BW).size))
  have HWB := hide (Nat.le_trans (unhide BW).size (Nat.le_refl _))
  have HW2 : Hid (w.heap.size ≤ w2.heap.size) := by have := unhide HLR; show _ ≤ _; omega
  clear x0 x1 x2 x3 hO hm1 hm2 b HD HS HB HE0 HL6 HLN hd0 HWB
  have hcf1 : ∀ w', (callFunc 34 #[.pointer (some ⟨O, 0, none⟩)]).run Tryz.prog w' = .ok (.enter 34 #[.pointer (some ⟨O, 0, none⟩)]) w' := by intro w'; kernel_rfl
  have hcf2 : ∀ w', (callFunc 35 #[.pointer (some ⟨O, 0, none⟩)]).run Tryz.prog w' = .ok (.enter 35 #[.pointer (some ⟨O, 0, none⟩)]) w' := by intro w'; kernel_rfl
  go_wp2_with fail
  refine (doing_any _ O).mono ?_
  rintro e w4 ⟨V, rfl, hM, ⟨V1, V2, V3, V4⟩, b⟩
  have HM1 := hide hM
  replace HO := hide ((unhide HO).later b)
  replace HSN := hide ((unhide HSN).later b)
  replace HR := hide ((b.block _ (heapLt (unhide HR))).trans (unhide HR))
  replace BW := hide ((unhide BW).trans (b.mono (unhide BW).size))
  clear b hM
  go_wp2_with fail
  refine (tearing_any _ O).mono ?_
  rintro e w5 ⟨T, rfl, hM, ⟨T1, T2, T3, T4⟩, b⟩
  have HT : Hid (It w2.heap.size (w.heap.size + 1) w5 O w3.heap.size w4.heap.size V T d0 u2 u1 uf) :=
    ⟨(unhide HO).later b, (unhide HM1).later b, hM, ⟨(unhide HLO).1, (unhide HLO).2, (unhide HM1).lt⟩, unhide HVB, (b.block _ (heapLt (unhide HR))).trans (unhide HR), unhide HLR⟩
  replace HSN := hide ((unhide HSN).later b)
  replace BW := hide ((unhide BW).trans (b.mono (unhide BW).size))
  clear b hM HO HM1 HLO HVB HR hcf1 hcf2
  have HVV := hide (And.intro V1 (And.intro V2 (And.intro V3 V4)))
  have HTT := hide (And.intro T1 (And.intro T2 (And.intro T3 T4)))
  clear V1 V2 V3 V4 T1 T2 T3 T4
  generalize w3.heap.size = M1 at *
  generalize w4.heap.size = M2 at *
  generalize w2.heap.size = BB at *
  clear w2 w3 w4
  have hs0 : (0 : Int) ≤ (dn : Int) := Int.natCast_nonneg _
  have hs1 : (dn : Int) ≤ (sc : Int) := by omega
  go_wp2_with fail
  go_loopw [44] (fun i w' => ∃ (k : Nat) (D : Dk.D) (y2 y1 : Value), k ≤ dn ∧ i = .int .i64 k ∧ D = Dk.run d0 (l.take k) ∧ It BB (w.heap.size + 1) w' O M1 M2 V T D y2 y1 uf ∧ StsR (fun b => N b ∧ b < BB) w' (.slice sa l.length sc) l ∧ Below w.heap.size w w') (fun i _ => dn - (intOf i).toNat)
  case atStart => exact ⟨0, d0, u2, u1, Nat.zero_le _, rfl, rfl, unhide HT, unhide HSN, unhide BW⟩
  case round =>
    clear HT HSN BW
    clear w5
    obtain ⟨k, D, y2, y1, hk, rfl, hD, hT, hS, hw⟩ := hrel
    have hfD : D.fl.length = 6 := by rw [hD, Dk.run_fl]; exact unhide HF6
    have HDR := hide hD
    have HT := hide hT
    have HSN := hide hS
    have BW := hide hw
    have HFD := hide hfD
    clear hD hT hS hw hfD
    by_cases hlt : k < dn
    · obtain ⟨s, hsk⟩ : ∃ s, l[k]? = some s := ⟨_, List.getElem?_eq_getElem (by omega)⟩
      have HSK := hide hsk
      have hsok := unhide HALL s (List.mem_of_getElem? hsk)
      obtain ⟨hkk, hpp, hxx, hps⟩ := Dk.S.ok_get hsok
      obtain ⟨bS, oS, pa, pc, hva, hsat, hpk, hroom, hbS, hNS⟩ := (unhide HSN).at hsk
      subst hva
      obtain ⟨c0, c1, c2, c3⟩ := hsat
      obtain ⟨sk, sp, sx, sps⟩ := s
      dsimp only at c0 c1 c2 c3 hkk hpp hxx hps hpk hroom
      have HPL := hide (show sps.length ≤ 1000 by have := Ix.pkgs_len (Ix.planOk_pkgs hps); omega)
      have HPB := hide (And.intro hpp.1 (show sp < (D.fl.length : Int) by have := unhide HFD; have := hpp.2; omega))
      have bX := below1 wr (.cells #[.int .i64 sk, .int .i64 sp, .int .i64 sx, .slice pa sps.length pc] 47)
      have HPK := hide (hpk.later bX)
      replace HT := hide ((unhide HT).later bX)
      replace HSN := hide ((unhide HSN).later bX)
      replace BW := hide ((unhide BW).trans (bX.mono (unhide BW).size))
      have HBZ : Hid (BB ≤ (wr.alloc (.cells #[.int .i64 sk, .int .i64 sp, .int .i64 sx, .slice pa sps.length pc] 47)).heap.size) := by
        obtain ⟨e1, e2, h0, _, _⟩ := (unhide HT).op.op
        have := h0.lo
        have := heapLt h0.box
        show _ ≤ _
        omega
      have hi0 : (0 : Int) ≤ (k : Int) := Int.natCast_nonneg _
      clear hsk hsok hpp hxx hps hpk hroom hbS hNS bX
      have hi1 : (k : Int) < (dn : Int) := by omega
      have hi2 : (k : Int) < (l.length : Int) := by omega
      have er : IntKind.i64.wrap ((k : Int) + 1) = (k : Int) + 1 := by simp [IntKind.wrap, IntKind.bits, IntKind.signed]; omega
      rcases hkk with rfl | rfl | rfl | rfl
      · have HRN := hide (Dk.run_take (d := d0) (unhide HSK))
        rw [← unhide HDR, Dk.step_jour _ _ rfl] at HRN
        have hcm : ∀ w', (callFunc 66 #[.pointer (some ⟨O, 0, none⟩), .agg #[.int .i64 1, .int .i64 sp, .int .i64 sx, .slice pa sps.length pc]]).run Tryz.prog w' = .ok (.enter 66 #[.pointer (some ⟨O, 0, none⟩), .agg #[.int .i64 1, .int .i64 sp, .int .i64 sx, .slice pa sps.length pc]]) w' := by intro w'; kernel_rfl
        have HMM := hide (unhide HT).m1
        go_wp2_with (at_lookup; refine wpList_lookF _ rfl _ _ _ rfl 66 Tryz.underlying64 (zeroF _) M1 4 V rfl (unhide HMM) 1 rfl (by omega) (by omega) ?_; rw [(unhide HVV).1])
        obtain ⟨e1, e2, hop0, hm1, hm2⟩ := (unhide HT).op.op
        refine (beginM_st _ O D.has y2 y1 uf e1 e2 D.fl _ sp sx pa pc sps hop0 (unhide HBZ) ((unhide HPK).weak (fun _ _ => trivial)) (unhide HPL)).mono ?_
        rintro e z5 ⟨vv, rfl, ⟨z2, els, hm, hop⟩, hst⟩
        have HTn : Hid (It BB (w.heap.size + 1) z5 O M1 M2 V T ⟨D.db, D.fl, true, sps⟩ z2 y1 uf) := (unhide HT).stays hst ⟨⟨e1, els, hop, hm1, hm⟩⟩
        replace HSN := hide ((unhide HSN).stays hst (fun b hb e => by
          have l1 := (unhide HT).lo.1
          rcases e with e | e
          · have := hb.2; omega
          · have := ((unhide HT).vb b e).1; have := hb.2; omega))
        have hbel := hst.toBelow (B := BB) (unhide HBZ) (fun k hk => by
          have l1 := (unhide HT).lo.1
          rcases hk with e | e
          · omega
          · exact ((unhide HT).vb k e).1)
        replace BW := hide ((unhide BW).trans (hbel.mono (unhide HW2)))
        clear HT
        have HT := HTn
        clear HTn hop0 hm1 hm2 hop hst hbel hcm HMM
        clear c0 c1 c2 c3
        go_wp2
        go_roundw
        case rel => exact ⟨k + 1, _, _, _, by omega, by go_num, (unhide HRN).symm, unhide HT, unhide HSN, unhide BW⟩
        case measure => simp [intOf]; omega
      · have HRN := hide (Dk.run_take (d := d0) (unhide HSK))
        rw [← unhide HDR, Dk.step_file _ _ rfl] at HRN
        have hcm : ∀ w', (callFunc 67 #[.pointer (some ⟨O, 0, none⟩), .agg #[.int .i64 2, .int .i64 sp, .int .i64 sx, .slice pa sps.length pc]]).run Tryz.prog w' = .ok (.enter 67 #[.pointer (some ⟨O, 0, none⟩), .agg #[.int .i64 2, .int .i64 sp, .int .i64 sx, .slice pa sps.length pc]]) w' := by intro w'; kernel_rfl
        have HMM := hide (unhide HT).m1
        go_wp2_with (at_lookup; refine wpList_lookF _ rfl _ _ _ rfl 66 Tryz.underlying64 (zeroF _) M1 4 V rfl (unhide HMM) 2 rfl (by omega) (by omega) ?_; rw [(unhide HVV).2.1])
        obtain ⟨e1, e2, hop0, hm1, hm2⟩ := (unhide HT).op.op
        refine (writeM_st _ O D.has y2 y1 uf e1 e2 D.fl _ sp sx pa pc sps hop0 (unhide HBZ) (unhide HPB).1 (unhide HPB).2).mono ?_
        rintro e z5 ⟨vv, rfl, hop, hst⟩
        have HTn : Hid (It BB (w.heap.size + 1) z5 O M1 M2 V T ⟨D.db, D.fl.set sp.toNat sx, D.has, D.jr⟩ y2 y1 uf) := (unhide HT).stays hst ⟨⟨e1, e2, hop, hm1, hm2⟩⟩
        replace HSN := hide ((unhide HSN).stays hst (fun b hb e => by
          have l1 := (unhide HT).lo.1
          rcases e with e | e
          · have := hb.2; omega
          · have := ((unhide HT).vb b e).1; have := hb.2; omega))
        have hbel := hst.toBelow (B := BB) (unhide HBZ) (fun k hk => by
          have l1 := (unhide HT).lo.1
          rcases hk with e | e
          · omega
          · exact ((unhide HT).vb k e).1)
        replace BW := hide ((unhide BW).trans (hbel.mono (unhide HW2)))
        clear HT
        have HT := HTn
        clear HTn hop0 hm1 hm2 hop hst hbel hcm HMM
        clear c0 c1 c2 c3
        go_wp2
        go_roundw
        case rel => exact ⟨k + 1, _, _, _, by omega, by go_num, (unhide HRN).symm, unhide HT, unhide HSN, unhide BW⟩
        case measure => simp [intOf]; omega
      · have HRN := hide (Dk.run_take (d := d0) (unhide HSK))
        rw [← unhide HDR, Dk.step_db _ _ rfl] at HRN
        have hcm : ∀ w', (callFunc 68 #[.pointer (some ⟨O, 0, none⟩), .agg #[.int .i64 3, .int .i64 sp, .int .i64 sx, .slice pa sps.length pc]]).run Tryz.prog w' = .ok (.enter 68 #[.pointer (some ⟨O, 0, none⟩), .agg #[.int .i64 3, .int .i64 sp, .int .i64 sx, .slice pa sps.length pc]]) w' := by intro w'; kernel_rfl
        have HMM := hide (unhide HT).m1
        go_wp2_with (at_lookup; refine wpList_lookF _ rfl _ _ _ rfl 66 Tryz.underlying64 (zeroF _) M1 4 V rfl (unhide HMM) 3 rfl (by omega) (by omega) ?_; rw [(unhide HVV).2.2.1])
        obtain ⟨e1, e2, hop0, hm1, hm2⟩ := (unhide HT).op.op
        refine (putInM_st _ O D.has y2 y1 uf e1 e2 D.fl _ sp sx pa pc sps hop0 (unhide HBZ) ((unhide HPK).weak (fun _ _ => trivial)) (unhide HPL)).mono ?_
        rintro e z5 ⟨vv, rfl, ⟨z1, els, hm, hop⟩, hst⟩
        have HTn : Hid (It BB (w.heap.size + 1) z5 O M1 M2 V T ⟨sps, D.fl, D.has, D.jr⟩ y2 z1 uf) := (unhide HT).stays hst ⟨⟨els, e2, hop, hm, hm2⟩⟩
        replace HSN := hide ((unhide HSN).stays hst (fun b hb e => by
          have l1 := (unhide HT).lo.1
          rcases e with e | e
          · have := hb.2; omega
          · have := ((unhide HT).vb b e).1; have := hb.2; omega))
        have hbel := hst.toBelow (B := BB) (unhide HBZ) (fun k hk => by
          have l1 := (unhide HT).lo.1
          rcases hk with e | e
          · omega
          · exact ((unhide HT).vb k e).1)
        replace BW := hide ((unhide BW).trans (hbel.mono (unhide HW2)))
        clear HT
        have HT := HTn
        clear HTn hop0 hm1 hm2 hop hst hbel hcm HMM
        clear c0 c1 c2 c3
        go_wp2
        go_roundw
        case rel => exact ⟨k + 1, _, _, _, by omega, by go_num, (unhide HRN).symm, unhide HT, unhide HSN, unhide BW⟩
        case measure => simp [intOf]; omega
      · have HRN := hide (Dk.run_take (d := d0) (unhide HSK))
        rw [← unhide HDR, Dk.step_done _ _ rfl] at HRN
        have hcm : ∀ w', (callFunc 69 #[.pointer (some ⟨O, 0, none⟩), .agg #[.int .i64 4, .int .i64 sp, .int .i64 sx, .slice pa sps.length pc]]).run Tryz.prog w' = .ok (.enter 69 #[.pointer (some ⟨O, 0, none⟩), .agg #[.int .i64 4, .int .i64 sp, .int .i64 sx, .slice pa sps.length pc]]) w' := by intro w'; kernel_rfl
        have HMM := hide (unhide HT).m1
        go_wp2_with (at_lookup; refine wpList_lookF _ rfl _ _ _ rfl 66 Tryz.underlying64 (zeroF _) M1 4 V rfl (unhide HMM) 4 rfl (by omega) (by omega) ?_; rw [(unhide HVV).2.2.2])
        obtain ⟨e1, e2, hop0, hm1, hm2⟩ := (unhide HT).op.op
        refine (endM_st _ O D.has y2 y1 uf e1 e2 D.fl _ sp sx pa pc sps hop0 (unhide HBZ) ).mono ?_
        rintro e z5 ⟨vv, rfl, hop, hst⟩
        have HTn : Hid (It BB (w.heap.size + 1) z5 O M1 M2 V T ⟨D.db, D.fl, false, []⟩ (.slice none 0 0) y1 uf) := (unhide HT).stays hst ⟨⟨e1, [], hop, hm1, rfl⟩⟩
        replace HSN := hide ((unhide HSN).stays hst (fun b hb e => by
          have l1 := (unhide HT).lo.1
          rcases e with e | e
          · have := hb.2; omega
          · have := ((unhide HT).vb b e).1; have := hb.2; omega))
        have hbel := hst.toBelow (B := BB) (unhide HBZ) (fun k hk => by
          have l1 := (unhide HT).lo.1
          rcases hk with e | e
          · omega
          · exact ((unhide HT).vb k e).1)
        replace BW := hide ((unhide BW).trans (hbel.mono (unhide HW2)))
        clear HT
        have HT := HTn
        clear HTn hop0 hm1 hm2 hop hst hbel hcm HMM
        clear c0 c1 c2 c3
        go_wp2
        go_roundw
        case rel => exact ⟨k + 1, _, _, _, by omega, by go_num, (unhide HRN).symm, unhide HT, unhide HSN, unhide BW⟩
        case measure => simp [intOf]; omega
    · obtain rfl : k = dn := by omega
      have HRN := hide (Dk.till_take (d := d0) (l := l) (k := k) (cut := cut) (by omega) (.inl hdc) (unhide HDO))
      rw [← unhide HDR] at HRN
      clear hlt
      cases torn
      · have HE : Hid (AA = (D, true)) := by
          show _ = _
          rw [unhide HE1]
          unfold Dk.till
          rw [if_neg (by simp), unhide HRN]
        obtain ⟨e1, e2, hop, hm1, hm2⟩ := (unhide HT).op.op
        obtain ⟨db', fl', has', jr'⟩ := D
        dsimp only at hop hm1 hm2
        have HR := hide (unhide HT).hR
        have HLR := hide (unhide HT).lR
        have HOP := hide hop
        have HZ : Hid (BB ≤ wr.heap.size) := by
          have := hop.lo
          have := heapLt hop.box
          show _ ≤ _
          omega
        have HM1 := hide hm1
        have HM2 := hide hm2
        clear hop hm1 hm2 HT HSN
        go_wp2_with fail
        refine (closed_any _ _ _ _ _ _ _ _ _ (unhide HOP) (unhide HZ)).mono ?_
        rintro e w6 ⟨rfl, hA, b⟩
        obtain ⟨f1, g1, i1⟩ := own_formS hA.p1.own
        obtain ⟨ff, gf, iff'⟩ := own_formS hA.pf
        obtain ⟨f2, g2, i2⟩ := own_formS hA.p2.own
        subst i1 iff' i2
        dsimp only [dkV] at *
        replace HR := hide ((b.block _ (by have := unhide HLR; omega)).trans (unhide HR))
        replace BW := hide ((unhide BW).trans (b.mono (unhide HW2)))
        have HA := hide hA
        clear b hA HOP
        obtain ⟨⟨x0, y0⟩, ⟨x1, y1⟩, ⟨x2, y2⟩, x3, y3⟩ : (_ ∧ _) ∧ (_ ∧ _) ∧ (_ ∧ _) ∧ _ ∧ _ := ⟨⟨cellOf (unhide HR) 0, frozenOf (unhide HR) 0⟩, ⟨cellOf (unhide HR) 1, frozenOf (unhide HR) 1⟩, ⟨cellOf (unhide HR) 2, frozenOf (unhide HR) 2⟩, cellOf (unhide HR) 3, frozenOf (unhide HR) 3⟩
        go_wp2
        obtain ⟨⟨q0, q1, q2, q3⟩, hans, hbel⟩ := endB (w := w) (e1 := e1) (e2 := e2) (unhide HR) (by omega) (unhide BW) (unhide HLR) (unhide HW2) (unhide HA) (unhide HE) (unhide HM1) (unhide HM2) rfl rfl
        exact bodyPost_ret (v := .tuple #[.agg #[.slice f1 e1.length g1, .slice ff fl'.length gf, .bool has', .slice f2 e2.length g2], .bool true]) (by simp [results, Tryz.results11, go_sem, q0, q1, q2, q3]) rfl ⟨_, rfl, hans, hbel⟩
      by_cases hdl2 : k < l.length
      rotate_left
      · have HE : Hid (AA = (D, true)) := by
          show _ = _
          rw [unhide HE1]
          unfold Dk.till
          rw [if_neg (by omega), unhide HRN]
        have hge : ¬ (k : Int) < (l.length : Int) := by omega
        obtain ⟨e1, e2, hop, hm1, hm2⟩ := (unhide HT).op.op
        obtain ⟨db', fl', has', jr'⟩ := D
        dsimp only at hop hm1 hm2
        have HR := hide (unhide HT).hR
        have HLR := hide (unhide HT).lR
        have HOP := hide hop
        have HZ : Hid (BB ≤ wr.heap.size) := by
          have := hop.lo
          have := heapLt hop.box
          show _ ≤ _
          omega
        have HM1 := hide hm1
        have HM2 := hide hm2
        clear hop hm1 hm2 HT HSN
        go_wp2_with fail
        refine (closed_any _ _ _ _ _ _ _ _ _ (unhide HOP) (unhide HZ)).mono ?_
        rintro e w6 ⟨rfl, hA, b⟩
        obtain ⟨f1, g1, i1⟩ := own_formS hA.p1.own
        obtain ⟨ff, gf, iff'⟩ := own_formS hA.pf
        obtain ⟨f2, g2, i2⟩ := own_formS hA.p2.own
        subst i1 iff' i2
        dsimp only [dkV] at *
        replace HR := hide ((b.block _ (by have := unhide HLR; omega)).trans (unhide HR))
        replace BW := hide ((unhide BW).trans (b.mono (unhide HW2)))
        have HA := hide hA
        clear b hA HOP
        obtain ⟨⟨x0, y0⟩, ⟨x1, y1⟩, ⟨x2, y2⟩, x3, y3⟩ : (_ ∧ _) ∧ (_ ∧ _) ∧ (_ ∧ _) ∧ _ ∧ _ := ⟨⟨cellOf (unhide HR) 0, frozenOf (unhide HR) 0⟩, ⟨cellOf (unhide HR) 1, frozenOf (unhide HR) 1⟩, ⟨cellOf (unhide HR) 2, frozenOf (unhide HR) 2⟩, cellOf (unhide HR) 3, frozenOf (unhide HR) 3⟩
        go_wp2
        obtain ⟨⟨q0, q1, q2, q3⟩, hans, hbel⟩ := endB (w := w) (e1 := e1) (e2 := e2) (unhide HR) (by omega) (unhide BW) (unhide HLR) (unhide HW2) (unhide HA) (unhide HE) (unhide HM1) (unhide HM2) rfl rfl
        exact bodyPost_ret (v := .tuple #[.agg #[.slice f1 e1.length g1, .slice ff fl'.length gf, .bool has', .slice f2 e2.length g2], .bool true]) (by simp [results, Tryz.results11, go_sem, q0, q1, q2, q3]) rfl ⟨_, rfl, hans, hbel⟩
      obtain ⟨s, hsk⟩ : ∃ s, l[k]? = some s := ⟨_, List.getElem?_eq_getElem (by omega)⟩
      have HSK := hide hsk
      have hsok := unhide HALL s (List.mem_of_getElem? hsk)
      obtain ⟨hkk, hpp, hxx, hps⟩ := Dk.S.ok_get hsok
      obtain ⟨bS, oS, pa, pc, hva, hsat, hpk, hroom, hbS, hNS⟩ := (unhide HSN).at hsk
      subst hva
      obtain ⟨c0, c1, c2, c3⟩ := hsat
      obtain ⟨sk, sp, sx, sps⟩ := s
      dsimp only at c0 c1 c2 c3 hkk hpp hxx hps hpk hroom
      have HPL := hide (show sps.length ≤ 1000 by have := Ix.pkgs_len (Ix.planOk_pkgs hps); omega)
      have HPB := hide (And.intro hpp.1 (show sp < (D.fl.length : Int) by have := unhide HFD; have := hpp.2; omega))
      have bX := below1 wr (.cells #[.int .i64 sk, .int .i64 sp, .int .i64 sx, .slice pa sps.length pc] 47)
      have HPK := hide (hpk.later bX)
      replace HT := hide ((unhide HT).later bX)
      replace HSN := hide ((unhide HSN).later bX)
      replace BW := hide ((unhide BW).trans (bX.mono (unhide BW).size))
      have HBZ : Hid (BB ≤ (wr.alloc (.cells #[.int .i64 sk, .int .i64 sp, .int .i64 sx, .slice pa sps.length pc] 47)).heap.size) := by
        obtain ⟨e1, e2, h0, _, _⟩ := (unhide HT).op.op
        have := h0.lo
        have := heapLt h0.box
        show _ ≤ _
        omega
      have hi0 : (0 : Int) ≤ (k : Int) := Int.natCast_nonneg _
      clear hsk hsok hpp hxx hps hpk hroom hbS hNS bX
      have hi2 : (k : Int) < (l.length : Int) := by omega
      have HE2 : Hid (AA = (D.torn ⟨sk, sp, sx, sps⟩, true)) := by
        have hkc : (k : Int) = cut := by have := unhide HDO; omega
        show _ = _
        rw [unhide HE1]
        unfold Dk.till
        rw [if_pos ⟨rfl, by omega, by omega⟩, ← unhide HRN, List.getD_eq_getElem?_getD, ← hkc, Int.toNat_natCast, unhide HSK]
        rfl
      rcases hkk with rfl | rfl | rfl | rfl
      · have hcm : ∀ w', (callFunc 70 #[.pointer (some ⟨O, 0, none⟩), .agg #[.int .i64 1, .int .i64 sp, .int .i64 sx, .slice pa sps.length pc]]).run Tryz.prog w' = .ok (.enter 70 #[.pointer (some ⟨O, 0, none⟩), .agg #[.int .i64 1, .int .i64 sp, .int .i64 sx, .slice pa sps.length pc]]) w' := by intro w'; kernel_rfl
        have HMM := hide (unhide HT).m2
        go_wp2_with (at_lookup; refine wpList_lookF _ rfl _ _ _ rfl 66 Tryz.underlying64 (zeroF _) M2 4 T rfl (unhide HMM) 1 rfl (by omega) (by omega) ?_; rw [(unhide HTT).1])
        obtain ⟨e1, e2, hop0, hm1, hm2⟩ := (unhide HT).op.op
        refine (stayM_st _ O D.has y2 y1 uf e1 e2 D.fl _ sp sx pa pc sps hop0 (unhide HBZ) ).mono ?_
        rintro e z5 ⟨vv, rfl, hop, hst⟩
        have HTn : Hid (It BB (w.heap.size + 1) z5 O M1 M2 V T D y2 y1 uf) := (unhide HT).stays hst ⟨⟨e1, e2, hop, hm1, hm2⟩⟩
        replace HSN := hide ((unhide HSN).stays hst (fun b hb e => by
          have l1 := (unhide HT).lo.1
          rcases e with e | e
          · have := hb.2; omega
          · have := ((unhide HT).vb b e).1; have := hb.2; omega))
        have hbel := hst.toBelow (B := BB) (unhide HBZ) (fun k hk => by
          have l1 := (unhide HT).lo.1
          rcases hk with e | e
          · omega
          · exact ((unhide HT).vb k e).1)
        replace BW := hide ((unhide BW).trans (hbel.mono (unhide HW2)))
        clear HT
        have HT := HTn
        clear HTn hop0 hm1 hm2 hop hst hbel hcm HMM
        clear c0 c1 c2 c3
        obtain ⟨D4, hD4⟩ : ∃ D4 : Dk.D, D4 = D := ⟨_, rfl⟩
        have HE : Hid (AA = (D4, true)) := by
          show _ = _
          rw [hD4]
          exact unhide HE2
        rw [← hD4] at HT
        clear hD4 HE2 HRN HDR HFD HPB
        clear D
        generalize D4 = D at *
        obtain ⟨e1, e2, hop, hm1, hm2⟩ := (unhide HT).op.op
        obtain ⟨db', fl', has', jr'⟩ := D
        dsimp only at hop hm1 hm2
        have HR := hide (unhide HT).hR
        have HLR := hide (unhide HT).lR
        have HOP := hide hop
        have HZ : Hid (BB ≤ z5.heap.size) := by
          have := hop.lo
          have := heapLt hop.box
          show _ ≤ _
          omega
        have HM1 := hide hm1
        have HM2 := hide hm2
        clear hop hm1 hm2 HT HSN
        go_wp2_with fail
        refine (closed_any _ _ _ _ _ _ _ _ _ (unhide HOP) (unhide HZ)).mono ?_
        rintro e w6 ⟨rfl, hA, b⟩
        obtain ⟨f1, g1, i1⟩ := own_formS hA.p1.own
        obtain ⟨ff, gf, iff'⟩ := own_formS hA.pf
        obtain ⟨f2, g2, i2⟩ := own_formS hA.p2.own
        subst i1 iff' i2
        dsimp only [dkV] at *
        replace HR := hide ((b.block _ (by have := unhide HLR; omega)).trans (unhide HR))
        replace BW := hide ((unhide BW).trans (b.mono (unhide HW2)))
        have HA := hide hA
        clear b hA HOP
        obtain ⟨⟨x0, y0⟩, ⟨x1, y1⟩, ⟨x2, y2⟩, x3, y3⟩ : (_ ∧ _) ∧ (_ ∧ _) ∧ (_ ∧ _) ∧ _ ∧ _ := ⟨⟨cellOf (unhide HR) 0, frozenOf (unhide HR) 0⟩, ⟨cellOf (unhide HR) 1, frozenOf (unhide HR) 1⟩, ⟨cellOf (unhide HR) 2, frozenOf (unhide HR) 2⟩, cellOf (unhide HR) 3, frozenOf (unhide HR) 3⟩
        go_wp2
        obtain ⟨⟨q0, q1, q2, q3⟩, hans, hbel⟩ := endB (w := w) (e1 := e1) (e2 := e2) (unhide HR) (by omega) (unhide BW) (unhide HLR) (unhide HW2) (unhide HA) (unhide HE) (unhide HM1) (unhide HM2) rfl rfl
        exact bodyPost_ret (v := .tuple #[.agg #[.slice f1 e1.length g1, .slice ff fl'.length gf, .bool has', .slice f2 e2.length g2], .bool true]) (by simp [results, Tryz.results11, go_sem, q0, q1, q2, q3]) rfl ⟨_, rfl, hans, hbel⟩
      · have hcm : ∀ w', (callFunc 71 #[.pointer (some ⟨O, 0, none⟩), .agg #[.int .i64 2, .int .i64 sp, .int .i64 sx, .slice pa sps.length pc]]).run Tryz.prog w' = .ok (.enter 71 #[.pointer (some ⟨O, 0, none⟩), .agg #[.int .i64 2, .int .i64 sp, .int .i64 sx, .slice pa sps.length pc]]) w' := by intro w'; kernel_rfl
        have HMM := hide (unhide HT).m2
        go_wp2_with (at_lookup; refine wpList_lookF _ rfl _ _ _ rfl 66 Tryz.underlying64 (zeroF _) M2 4 T rfl (unhide HMM) 2 rfl (by omega) (by omega) ?_; rw [(unhide HTT).2.1])
        obtain ⟨e1, e2, hop0, hm1, hm2⟩ := (unhide HT).op.op
        refine (smearM_st _ O D.has y2 y1 uf e1 e2 D.fl _ sp sx pa pc sps hop0 (unhide HBZ) (unhide HPB).1 (unhide HPB).2).mono ?_
        rintro e z5 ⟨vv, rfl, hop, hst⟩
        have HTn : Hid (It BB (w.heap.size + 1) z5 O M1 M2 V T ⟨D.db, D.fl.set sp.toNat (-2), D.has, D.jr⟩ y2 y1 uf) := (unhide HT).stays hst ⟨⟨e1, e2, hop, hm1, hm2⟩⟩
        replace HSN := hide ((unhide HSN).stays hst (fun b hb e => by
          have l1 := (unhide HT).lo.1
          rcases e with e | e
          · have := hb.2; omega
          · have := ((unhide HT).vb b e).1; have := hb.2; omega))
        have hbel := hst.toBelow (B := BB) (unhide HBZ) (fun k hk => by
          have l1 := (unhide HT).lo.1
          rcases hk with e | e
          · omega
          · exact ((unhide HT).vb k e).1)
        replace BW := hide ((unhide BW).trans (hbel.mono (unhide HW2)))
        clear HT
        have HT := HTn
        clear HTn hop0 hm1 hm2 hop hst hbel hcm HMM
        clear c0 c1 c2 c3
        obtain ⟨D4, hD4⟩ : ∃ D4 : Dk.D, D4 = ⟨D.db, D.fl.set sp.toNat (-2), D.has, D.jr⟩ := ⟨_, rfl⟩
        have HE : Hid (AA = (D4, true)) := by
          show _ = _
          rw [hD4]
          exact unhide HE2
        rw [← hD4] at HT
        clear hD4 HE2 HRN HDR HFD HPB
        clear D
        generalize D4 = D at *
        obtain ⟨e1, e2, hop, hm1, hm2⟩ := (unhide HT).op.op
        obtain ⟨db', fl', has', jr'⟩ := D
        dsimp only at hop hm1 hm2
        have HR := hide (unhide HT).hR
        have HLR := hide (unhide HT).lR
        have HOP := hide hop
        have HZ : Hid (BB ≤ z5.heap.size) := by
          have := hop.lo
          have := heapLt hop.box
          show _ ≤ _
          omega
        have HM1 := hide hm1
        have HM2 := hide hm2
        clear hop hm1 hm2 HT HSN
        go_wp2_with fail
        refine (closed_any _ _ _ _ _ _ _ _ _ (unhide HOP) (unhide HZ)).mono ?_
        rintro e w6 ⟨rfl, hA, b⟩
        obtain ⟨f1, g1, i1⟩ := own_formS hA.p1.own
        obtain ⟨ff, gf, iff'⟩ := own_formS hA.pf
        obtain ⟨f2, g2, i2⟩ := own_formS hA.p2.own
        subst i1 iff' i2
        dsimp only [dkV] at *
        replace HR := hide ((b.block _ (by have := unhide HLR; omega)).trans (unhide HR))
        replace BW := hide ((unhide BW).trans (b.mono (unhide HW2)))
        have HA := hide hA
        clear b hA HOP
        obtain ⟨⟨x0, y0⟩, ⟨x1, y1⟩, ⟨x2, y2⟩, x3, y3⟩ : (_ ∧ _) ∧ (_ ∧ _) ∧ (_ ∧ _) ∧ _ ∧ _ := ⟨⟨cellOf (unhide HR) 0, frozenOf (unhide HR) 0⟩, ⟨cellOf (unhide HR) 1, frozenOf (unhide HR) 1⟩, ⟨cellOf (unhide HR) 2, frozenOf (unhide HR) 2⟩, cellOf (unhide HR) 3, frozenOf (unhide HR) 3⟩
        go_wp2
        obtain ⟨⟨q0, q1, q2, q3⟩, hans, hbel⟩ := endB (w := w) (e1 := e1) (e2 := e2) (unhide HR) (by omega) (unhide BW) (unhide HLR) (unhide HW2) (unhide HA) (unhide HE) (unhide HM1) (unhide HM2) rfl rfl
        exact bodyPost_ret (v := .tuple #[.agg #[.slice f1 e1.length g1, .slice ff fl'.length gf, .bool has', .slice f2 e2.length g2], .bool true]) (by simp [results, Tryz.results11, go_sem, q0, q1, q2, q3]) rfl ⟨_, rfl, hans, hbel⟩
      · have hcm : ∀ w', (callFunc 72 #[.pointer (some ⟨O, 0, none⟩), .agg #[.int .i64 3, .int .i64 sp, .int .i64 sx, .slice pa sps.length pc]]).run Tryz.prog w' = .ok (.enter 72 #[.pointer (some ⟨O, 0, none⟩), .agg #[.int .i64 3, .int .i64 sp, .int .i64 sx, .slice pa sps.length pc]]) w' := by intro w'; kernel_rfl
        have HMM := hide (unhide HT).m2
        go_wp2_with (at_lookup; refine wpList_lookF _ rfl _ _ _ rfl 66 Tryz.underlying64 (zeroF _) M2 4 T rfl (unhide HMM) 3 rfl (by omega) (by omega) ?_; rw [(unhide HTT).2.2.1])
        obtain ⟨e1, e2, hop0, hm1, hm2⟩ := (unhide HT).op.op
        refine (takeOutM_st _ O D.has y2 y1 uf e1 e2 D.fl _ sp sx pa pc sps hop0 (unhide HBZ) ).mono ?_
        rintro e z5 ⟨vv, rfl, hop, hst⟩
        have HTn : Hid (It BB (w.heap.size + 1) z5 O M1 M2 V T ⟨[], D.fl, D.has, D.jr⟩ y2 (.slice none 0 0) uf) := (unhide HT).stays hst ⟨⟨[], e2, hop, rfl, hm2⟩⟩
        replace HSN := hide ((unhide HSN).stays hst (fun b hb e => by
          have l1 := (unhide HT).lo.1
          rcases e with e | e
          · have := hb.2; omega
          · have := ((unhide HT).vb b e).1; have := hb.2; omega))
        have hbel := hst.toBelow (B := BB) (unhide HBZ) (fun k hk => by
          have l1 := (unhide HT).lo.1
          rcases hk with e | e
          · omega
          · exact ((unhide HT).vb k e).1)
        replace BW := hide ((unhide BW).trans (hbel.mono (unhide HW2)))
        clear HT
        have HT := HTn
        clear HTn hop0 hm1 hm2 hop hst hbel hcm HMM
        clear c0 c1 c2 c3
        obtain ⟨D4, hD4⟩ : ∃ D4 : Dk.D, D4 = ⟨[], D.fl, D.has, D.jr⟩ := ⟨_, rfl⟩
        have HE : Hid (AA = (D4, true)) := by
          show _ = _
          rw [hD4]
          exact unhide HE2
        rw [← hD4] at HT
        clear hD4 HE2 HRN HDR HFD HPB
        clear D
        generalize D4 = D at *
        obtain ⟨y9, hy9⟩ : ∃ y9, y9 = Value.slice none 0 0 := ⟨_, rfl⟩
        rw [← hy9] at HT
        clear hy9
        obtain ⟨e1, e2, hop, hm1, hm2⟩ := (unhide HT).op.op
        obtain ⟨db', fl', has', jr'⟩ := D
        dsimp only at hop hm1 hm2
        have HR := hide (unhide HT).hR
        have HLR := hide (unhide HT).lR
        have HOP := hide hop
        have HZ : Hid (BB ≤ z5.heap.size) := by
          have := hop.lo
          have := heapLt hop.box
          show _ ≤ _
          omega
        have HM1 := hide hm1
        have HM2 := hide hm2
        clear hop hm1 hm2 HT HSN
        go_wp2_with fail
        refine (closed_any _ _ _ _ _ _ _ _ _ (unhide HOP) (unhide HZ)).mono ?_
        rintro e w6 ⟨rfl, hA, b⟩
        obtain ⟨f1, g1, i1⟩ := own_formS hA.p1.own
        obtain ⟨ff, gf, iff'⟩ := own_formS hA.pf
        obtain ⟨f2, g2, i2⟩ := own_formS hA.p2.own
        subst i1 iff' i2
        dsimp only [dkV] at *
        replace HR := hide ((b.block _ (by have := unhide HLR; omega)).trans (unhide HR))
        replace BW := hide ((unhide BW).trans (b.mono (unhide HW2)))
        have HA := hide hA
        clear b hA HOP
        obtain ⟨⟨x0, y0⟩, ⟨x1, y1⟩, ⟨x2, y2⟩, x3, y3⟩ : (_ ∧ _) ∧ (_ ∧ _) ∧ (_ ∧ _) ∧ _ ∧ _ := ⟨⟨cellOf (unhide HR) 0, frozenOf (unhide HR) 0⟩, ⟨cellOf (unhide HR) 1, frozenOf (unhide HR) 1⟩, ⟨cellOf (unhide HR) 2, frozenOf (unhide HR) 2⟩, cellOf (unhide HR) 3, frozenOf (unhide HR) 3⟩
        go_wp2
        obtain ⟨⟨q0, q1, q2, q3⟩, hans, hbel⟩ := endB (w := w) (e1 := e1) (e2 := e2) (unhide HR) (by omega) (unhide BW) (unhide HLR) (unhide HW2) (unhide HA) (unhide HE) (unhide HM1) (unhide HM2) rfl rfl
        exact bodyPost_ret (v := .tuple #[.agg #[.slice f1 e1.length g1, .slice ff fl'.length gf, .bool has', .slice f2 e2.length g2], .bool true]) (by simp [results, Tryz.results11, go_sem, q0, q1, q2, q3]) rfl ⟨_, rfl, hans, hbel⟩
      · have hcm : ∀ w', (callFunc 70 #[.pointer (some ⟨O, 0, none⟩), .agg #[.int .i64 4, .int .i64 sp, .int .i64 sx, .slice pa sps.length pc]]).run Tryz.prog w' = .ok (.enter 70 #[.pointer (some ⟨O, 0, none⟩), .agg #[.int .i64 4, .int .i64 sp, .int .i64 sx, .slice pa sps.length pc]]) w' := by intro w'; kernel_rfl
        have HMM := hide (unhide HT).m2
        go_wp2_with (at_lookup; refine wpList_lookF _ rfl _ _ _ rfl 66 Tryz.underlying64 (zeroF _) M2 4 T rfl (unhide HMM) 4 rfl (by omega) (by omega) ?_; rw [(unhide HTT).2.2.2])
        obtain ⟨e1, e2, hop0, hm1, hm2⟩ := (unhide HT).op.op
        refine (stayM_st _ O D.has y2 y1 uf e1 e2 D.fl _ sp sx pa pc sps hop0 (unhide HBZ) ).mono ?_
        rintro e z5 ⟨vv, rfl, hop, hst⟩
        have HTn : Hid (It BB (w.heap.size + 1) z5 O M1 M2 V T D y2 y1 uf) := (unhide HT).stays hst ⟨⟨e1, e2, hop, hm1, hm2⟩⟩
        replace HSN := hide ((unhide HSN).stays hst (fun b hb e => by
          have l1 := (unhide HT).lo.1
          rcases e with e | e
          · have := hb.2; omega
          · have := ((unhide HT).vb b e).1; have := hb.2; omega))
        have hbel := hst.toBelow (B := BB) (unhide HBZ) (fun k hk => by
          have l1 := (unhide HT).lo.1
          rcases hk with e | e
          · omega
          · exact ((unhide HT).vb k e).1)
        replace BW := hide ((unhide BW).trans (hbel.mono (unhide HW2)))
        clear HT
        have HT := HTn
        clear HTn hop0 hm1 hm2 hop hst hbel hcm HMM
        clear c0 c1 c2 c3
        obtain ⟨D4, hD4⟩ : ∃ D4 : Dk.D, D4 = D := ⟨_, rfl⟩
        have HE : Hid (AA = (D4, true)) := by
          show _ = _
          rw [hD4]
          exact unhide HE2
        rw [← hD4] at HT
        clear hD4 HE2 HRN HDR HFD HPB
        clear D
        generalize D4 = D at *
        obtain ⟨e1, e2, hop, hm1, hm2⟩ := (unhide HT).op.op
        obtain ⟨db', fl', has', jr'⟩ := D
        dsimp only at hop hm1 hm2
        have HR := hide (unhide HT).hR
        have HLR := hide (unhide HT).lR
        have HOP := hide hop
        have HZ : Hid (BB ≤ z5.heap.size) := by
          have := hop.lo
          have := heapLt hop.box
          show _ ≤ _
          omega
        have HM1 := hide hm1
        have HM2 := hide hm2
        clear hop hm1 hm2 HT HSN
        go_wp2_with fail
        refine (closed_any _ _ _ _ _ _ _ _ _ (unhide HOP) (unhide HZ)).mono ?_
        rintro e w6 ⟨rfl, hA, b⟩
        obtain ⟨f1, g1, i1⟩ := own_formS hA.p1.own
        obtain ⟨ff, gf, iff'⟩ := own_formS hA.pf
        obtain ⟨f2, g2, i2⟩ := own_formS hA.p2.own
        subst i1 iff' i2
        dsimp only [dkV] at *
        replace HR := hide ((b.block _ (by have := unhide HLR; omega)).trans (unhide HR))
        replace BW := hide ((unhide BW).trans (b.mono (unhide HW2)))
        have HA := hide hA
        clear b hA HOP
        obtain ⟨⟨x0, y0⟩, ⟨x1, y1⟩, ⟨x2, y2⟩, x3, y3⟩ : (_ ∧ _) ∧ (_ ∧ _) ∧ (_ ∧ _) ∧ _ ∧ _ := ⟨⟨cellOf (unhide HR) 0, frozenOf (unhide HR) 0⟩, ⟨cellOf (unhide HR) 1, frozenOf (unhide HR) 1⟩, ⟨cellOf (unhide HR) 2, frozenOf (unhide HR) 2⟩, cellOf (unhide HR) 3, frozenOf (unhide HR) 3⟩
        go_wp2
        obtain ⟨⟨q0, q1, q2, q3⟩, hans, hbel⟩ := endB (w := w) (e1 := e1) (e2 := e2) (unhide HR) (by omega) (unhide BW) (unhide HLR) (unhide HW2) (unhide HA) (unhide HE) (unhide HM1) (unhide HM2) rfl rfl
        exact bodyPost_ret (v := .tuple #[.agg #[.slice f1 e1.length g1, .slice ff fl'.length gf, .bool has', .slice f2 e2.length g2], .bool true]) (by simp [results, Tryz.results11, go_sem, q0, q1, q2, q3]) rfl ⟨_, rfl, hans, hbel⟩
end Go.Proofs.YtkhanndmbpemfaaGreatDoor
