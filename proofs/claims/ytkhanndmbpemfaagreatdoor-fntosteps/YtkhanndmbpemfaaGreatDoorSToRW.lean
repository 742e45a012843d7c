import Derived.Test.YtkhanndmbpemfaaGreatDoorSStepsW
import Derived.Test.YtkhanndmbpemfaaGreatDoorSDoRW
import Derived.Test.YtkhanndmbpemfaaGreatDoorMix1
/- spec.l22To: a disk behind so many steps, the next one torn or not; of a disk of which the files alone are in a row of its own. -/
namespace Go.Proofs.YtkhanndmbpemfaaGreatDoor
open Go.RowKit

attribute [local go_sem ↓] Go.wp_at_zero Go.wp_at_succ

/-- A disk in the first box, its files in the row uf; the second box lies still as it was laid. -/
structure Tq (N : Nat → Prop) (B : Nat) (w0 w : World) (uf : Value) (D : Dk.D) (v1 v2 : Value) : Prop where
  hO : w.heap[w0.heap.size]? = some (.cells #[v1, uf, .bool D.has, v2] 31 (0, 0))
  hR : w.heap[w0.heap.size + 1]? = some (.cells #[.slice none 0 0, .slice none 0 0, .bool false, .slice none 0 0] 31 (0, 0))
  ans : DRd (fun b => N b ∧ b ≠ w0.heap.size ∧ b ≠ w0.heap.size + 1) B w v1 uf v2 D.db D.fl D.jr
  st : Stays (fun x => uf.ownBlock = some x) w0 w
theorem Tq.later {N : Nat → Prop} {B : Nat} {w0 w w' : World} {uf v1 v2 : Value} {D : Dk.D} (h : Tq N B w0 w uf D v1 v2) (b : Below w.heap.size w w') : Tq N B w0 w' uf D v1 v2 :=
  ⟨(b.block _ (heapLt h.hO)).trans h.hO, (b.block _ (heapLt h.hR)).trans h.hR, h.ans.later b, h.st.below b⟩
theorem Tq.store {N : Nat → Prop} {B : Nat} {w0 w6 w' : World} {uf q1 q2 r0 r1 r2 r3 : Value} {D : Dk.D}
    (hO : w6.heap[w0.heap.size]? = some (.cells #[r0, r1, r2, r3] 31 (0, 0)))
    (hR : w6.heap[w0.heap.size + 1]? = some (.cells #[.slice none 0 0, .slice none 0 0, .bool false, .slice none 0 0] 31 (0, 0)))
    (hA : DRd (fun b => N b ∧ b ≠ w0.heap.size ∧ b ≠ w0.heap.size + 1) B w6 q1 uf q2 D.db D.fl D.jr) (st : Stays (fun x => uf.ownBlock = some x) w0 w6)
    (hw : w' = (((w6.setCell ⟨w0.heap.size, 0, none⟩ q1).setCell ⟨w0.heap.size, 1, none⟩ uf).setCell ⟨w0.heap.size, 2, none⟩ (.bool D.has)).setCell ⟨w0.heap.size, 3, none⟩ q2) : Tq N B w0 w' uf D q1 q2 := by
  obtain ⟨_, hans, hst⟩ := endR (has := D.has) hO (Nat.le_refl _) st (fun b hb => hb.2.1) hA hw
  have hne : w0.heap.size + 1 ≠ w0.heap.size := by omega
  refine ⟨?_, ?_, hans, hst⟩
  · rw [hw, heapSet (heapSet (heapSet (heapSet hO)))]; rfl
  · rw [hw, Below.heap_setCell _ _ _ _ hne, Below.heap_setCell _ _ _ _ hne, Below.heap_setCell _ _ _ _ hne, Below.heap_setCell _ _ _ _ hne]; exact hR
theorem Sts.at {N : Nat → Prop} {w : World} {a : Option Addr} {n c i : Nat} {l : List Dk.S} {s : Dk.S} (h : Sts N w (.slice a n c) l) (hi : l[i]? = some s) : ∃ b off pa pc, a = some ⟨b, off, none⟩ ∧ SAt w b (off + i * 4) s (.slice pa s.ps.length pc) ∧ Pks N w (.slice pa s.ps.length pc) s.ps ∧ b < w.heap.size ∧ N b := by
  obtain ⟨a', cap, e, hl, hr⟩ := h
  injection e with e1 e2 e3
  subst e1 e3
  obtain ⟨b, off, ha, hbs, hN, hc⟩ := hr (by
    have := (List.getElem?_eq_some_iff.1 hi).1
    omega)
  obtain ⟨pv, h1, h2⟩ := hc i s hi
  obtain ⟨pa, pc, hp⟩ := h2.slice
  subst hp
  exact ⟨b, off, pa, pc, ha, h1, h2, hbs, hN⟩
theorem Dk.till_take {d : Dk.D} {l : List Dk.S} {k : Nat} {cut : Int} (hk : k ≤ l.length) (h1 : (k : Int) ≤ cut ∨ k = 0) (h2 : k = l.length ∨ cut ≤ k) : Dk.run d (l.take k) = Dk.run d (l.take cut.toNat) := by
  by_cases e : k = cut.toNat
  · rw [e]
  · have hk2 : k = l.length := by omega
    rw [hk2, List.take_length, List.take_of_length_le (by omega)]

set_option linter.unusedSimpArgs false in
set_option maxHeartbeats 8000000 in
set_option maxRecDepth 100000 in
theorem l22To_rd {N : Nat → Prop} {B : Nat} (w : World) (has : Bool) (u1 uf u2 : Value) (db jr : List Ix.Pg) (fl : List Int) (v : Value) (l : List Dk.S) (cut : Int) (torn : Bool) (h : DRd N B w u1 uf u2 db fl jr) (hB : B ≤ w.heap.size) (hNF : ∀ b, N b → uf.ownBlock ≠ some b) (hNS : ∀ b, w.heap.size ≤ b → N b) (hs : Sts (fun b => uf.ownBlock ≠ some b) w v l) (hl : l.length ≤ 1000) (hc : ∀ s ∈ l, Dk.canDo fl.length s ∧ smallP s.ps) (c0 : -9000000000000000000 ≤ cut) (c1 : cut ≤ 9000000000000000000) :
    Calls Tryz.prog 27 #[dkV u1 uf has u2, v, .int .i64 cut, .bool torn] w fun e w' => ∃ x, e = .returned x ∧ DkRd N B w' (Dk.till ⟨db, fl, has, jr⟩ l cut torn) uf x ∧ Stays (fun x => uf.ownBlock = some x) w w' := by
  obtain ⟨a1, c1', i1⟩ := h.p1.slice
  obtain ⟨af, cf, iff'⟩ := own_formS h.pf
  obtain ⟨a2, c2', i2⟩ := h.p2.slice
  obtain ⟨va, vc, hv⟩ := hs.slice
  subst i1 iff' i2 hv
  obtain ⟨D0, hD0⟩ : ∃ D0, D0 = (⟨db, fl, has, jr⟩ : Dk.D) := ⟨_, rfl⟩
  rw [← hD0]
  have hfl0 : D0.fl.length = fl.length := by rw [hD0]
  dsimp only [dkV]
  obtain ⟨b0, k0, k1⟩ := two_boxesD w (.cells #[.slice a1 db.length c1', .slice af fl.length cf, .bool has, .slice a2 jr.length c2'] 31) (.cells #[.slice none 0 0, .slice none 0 0, .bool false, .slice none 0 0] 31)
  have hq : ∀ {v : Value} {l : List Ix.Pg}, Pks N w v l → Pks (fun b => N b ∧ b ≠ w.heap.size ∧ b ≠ w.heap.size + 1) w v l := fun hv => hv.bound.weak (fun b hb => ⟨hb.1, by have := hb.2; omega, by have := hb.2; omega⟩)
  have HNF : Hid (∀ b, (N b ∧ b ≠ w.heap.size ∧ b ≠ w.heap.size + 1) → (Value.slice af fl.length cf).ownBlock ≠ some b) := fun b hb => hNF b hb.1
  have HNS := hide hNS
  have HT0 : Hid (Tq N B w ((w.alloc (.cells #[.slice a1 db.length c1', .slice af fl.length cf, .bool has, .slice a2 jr.length c2'] 31)).alloc (.cells #[.slice none 0 0, .slice none 0 0, .bool false, .slice none 0 0] 31)) (.slice af fl.length cf) D0 (.slice a1 db.length c1') (.slice a2 jr.length c2')) := by
    show Tq _ _ _ _ _ _ _ _
    rw [hD0]
    exact ⟨k0, k1, DRd.later ⟨hq h.p1, h.r1, h.pf, hq h.p2, h.r2⟩ b0, (Stays.refl _ w).below b0⟩
  have HS := hide hs
  have HC := hide hc
  have HF0 := hide hfl0
  have HBW := hide hB
  clear h hs hc b0 k0 k1 hD0 hfl0 hB hq hNF hNS
  generalize fl.length = nf at *
  go_enter Tryz.func27, Tryz.ntmps27
  go_wp2_with fail
  go_loopw [9] (fun i w' => ∃ (k : Nat) (D : Dk.D) (v1 v2 : Value), k ≤ l.length ∧ ((k : Int) ≤ cut ∨ k = 0) ∧ i = .int .i64 k ∧ D = Dk.run D0 (l.take k) ∧ Tq N B w w' (.slice af nf cf) D v1 v2) (fun i _ => l.length - (intOf i).toNat)
  case atStart => exact ⟨0, D0, _, _, Nat.zero_le _, .inr rfl, rfl, rfl, unhide HT0⟩
  case round =>
    clear HT0
    obtain ⟨k, D, v1, v2, hk, hkc, rfl, hD, hT⟩ := hrel
    have HD := hide hD
    have HT := hide hT
    have HKC := hide hkc
    have hfD : D.fl.length = nf := by rw [hD, Dk.run_fl]; exact unhide HF0
    have HFD := hide hfD
    clear hD hT hfD hkc
    obtain ⟨f1, g1, i1⟩ := (unhide HT).ans.p1.slice
    obtain ⟨f2, g2, i2⟩ := (unhide HT).ans.p2.slice
    subst i1 i2
    by_cases hgo : k < l.length ∧ (k : Int) < cut
    · obtain ⟨hlt, hcut⟩ := hgo
      obtain ⟨s, hsk⟩ : ∃ s, l[k]? = some s := ⟨_, List.getElem?_eq_getElem hlt⟩
      have hrun := Dk.run_take (d := D0) hsk
      rw [← unhide HD] at hrun
      have HRUN := hide hrun
      obtain ⟨⟨hcd1, hcd2, hcd3, hcd4⟩, hcs⟩ := unhide HC s (List.mem_of_getElem? hsk)
      have HCD := hide (And.intro hcd1 (And.intro hcd2 (And.intro hcd3 hcs)))
      obtain ⟨bS, oS, pa, pc, hva, hsat, hpk, hbS, hNS⟩ := ((unhide HS).stays (unhide HT).st (fun b hb hb2 => hb hb2)).at hsk
      subst hva
      obtain ⟨sk, sp, sx, sps⟩ := s
      obtain ⟨db', fl', has', jr'⟩ := D
      dsimp only at hcd1 hcd2 hcd3 hcd4 hcs
      have hbd := below_drew wr
      have HT2 := hide ((unhide HT).later hbd)
      have HPK := hide (hpk.later hbd)
      have hSA := hsat.keep (hbd.block _ hbS)
      obtain ⟨s0, s1, s2, s3⟩ := hsat
      obtain ⟨t0, t1, t2, t3⟩ := hSA
      have hO := (unhide HT2).hO
      have hSS : (wr.drew.cell? ⟨w.heap.size, 0, none⟩ = some (.slice f1 db'.length g1) ∧ wr.drew.cell? ⟨w.heap.size, 1, none⟩ = some (.slice af nf cf) ∧ wr.drew.cell? ⟨w.heap.size, 2, none⟩ = some (.bool has') ∧ wr.drew.cell? ⟨w.heap.size, 3, none⟩ = some (.slice f2 jr'.length g2)) ∧ (wr.drew.cell? ⟨bS, oS + k * 4, none⟩ = some (.int .i64 sk) ∧ wr.drew.cell? ⟨bS, oS + k * 4 + 1, none⟩ = some (.int .i64 sp) ∧ wr.drew.cell? ⟨bS, oS + k * 4 + 2, none⟩ = some (.int .i64 sx) ∧ wr.drew.cell? ⟨bS, oS + k * 4 + 3, none⟩ = some (.slice pa sps.length pc)) := ⟨⟨cellOf hO 0, cellOf hO 1, cellOf hO 2, cellOf hO 3⟩, t0, t1, t2, t3⟩
      have hi0 : (0 : Int) ≤ (k : Int) := Int.natCast_nonneg _
      have hi1 : (k : Int) < (l.length : Int) := by omega
      have er : IntKind.i64.wrap ((k : Int) + 1) = (k : Int) + 1 := by simp [IntKind.wrap, IntKind.bits, IntKind.signed]; omega
      clear HT hpk hO hbd hsk hrun hcd1 hcd2 hcd3 hcd4 hcs
      go_wp2_with fail
      refine wl_region (S := fun w' => (w'.cell? ⟨w.heap.size, 0, none⟩ = some (.slice f1 db'.length g1) ∧ w'.cell? ⟨w.heap.size, 1, none⟩ = some (.slice af nf cf) ∧ w'.cell? ⟨w.heap.size, 2, none⟩ = some (.bool has') ∧ w'.cell? ⟨w.heap.size, 3, none⟩ = some (.slice f2 jr'.length g2)) ∧ (w'.cell? ⟨bS, oS + k * 4, none⟩ = some (.int .i64 sk) ∧ w'.cell? ⟨bS, oS + k * 4 + 1, none⟩ = some (.int .i64 sp) ∧ w'.cell? ⟨bS, oS + k * 4 + 2, none⟩ = some (.int .i64 sx) ∧ w'.cell? ⟨bS, oS + k * 4 + 3, none⟩ = some (.slice pa sps.length pc))) (s := 6) (by kernel_rfl) hSS (fun hHeld => ?_)
      clear hSS
      refine wl_take (i := 0) (d := some 21) rfl rfl (by kernel_rfl) (by kernel_rfl) (by kernel_rfl) (by kernel_rfl) (by kernel_rfl) (fun _ _ _ h => h) (by rfl) (v := ?_) ?_ (by assumption) ?_
      rotate_left
      · (intro w hSw; (try dsimp only at hSw); go_simp <;> with_reducible rfl)
      simp only [Act.put, List.setIfInBounds_toArray, List.set_cons_zero, List.set_cons_succ]
      refine wl_take (i := 1) (d := some 22) rfl rfl (by kernel_rfl) (by kernel_rfl) (by kernel_rfl) (by kernel_rfl) (by kernel_rfl) (fun _ _ _ h => h) (by rfl) (fun w _ => run_move rfl rfl w) (by assumption) ?_
      simp only [Act.put, List.setIfInBounds_toArray, List.set_cons_zero, List.set_cons_succ, List.getElem_toArray, List.getElem_cons_zero, List.getElem_cons_succ]
      refine wl_take (i := 2) (d := some 23) rfl rfl (by kernel_rfl) (by kernel_rfl) (by kernel_rfl) (by kernel_rfl) (by kernel_rfl) (fun _ _ _ h => h) (by rfl) (fun w _ => run_move rfl rfl w) (by assumption) ?_
      simp only [Act.put, List.setIfInBounds_toArray, List.set_cons_zero, List.set_cons_succ, List.getElem_toArray, List.getElem_cons_zero, List.getElem_cons_succ]
      refine wl_take (i := 3) (d := some 24) rfl rfl (by kernel_rfl) (by kernel_rfl) (by kernel_rfl) (by kernel_rfl) (by kernel_rfl) (fun _ _ _ h => h) (by rfl) (v := ?_) ?_ (by assumption) ?_
      rotate_left
      · (intro w hSw; (try dsimp only at hSw); go_simp <;> with_reducible rfl)
      simp only [Act.put, List.setIfInBounds_toArray, List.set_cons_zero, List.set_cons_succ]
      refine wl_take (i := 4) (d := some 25) rfl rfl (by kernel_rfl) (by kernel_rfl) (by kernel_rfl) (by kernel_rfl) (by kernel_rfl) (fun _ _ _ h => h) (by rfl) (v := ?_) ?_ (by assumption) ?_
      rotate_left
      · (intro w hSw; (try dsimp only at hSw); go_simp <;> with_reducible rfl)
      simp only [Act.put, List.setIfInBounds_toArray, List.set_cons_zero, List.set_cons_succ]
      refine wl_one (i := 5) (by kernel_rfl) rfl (by rfl) (fun K hK => ?_)
      go_simp
      have hB2 : B ≤ wr.drew.heap.size := Nat.le_trans (unhide HBW) (unhide HT2).st.size
      refine (l21Do_rd (B := B) wr.drew has' _ _ _ db' jr' fl' sk sp sx pa pc sps (unhide HT2).ans hB2 (unhide HNF) (fun b hb => ⟨unhide HNS b (by have := (unhide HT2).st.size; omega), by have := heapLt (unhide HT2).hR; omega, by have := heapLt (unhide HT2).hR; omega⟩) ((unhide HPK).weak (fun _ _ => trivial)) (unhide HCD).2.2.2 (unhide HCD).1 (unhide HCD).2.1 (by rw [unhide HFD]; exact (unhide HCD).2.2.1)).mono ?_
      rintro e w6 ⟨x, rfl, hret, hst6⟩
      rw [← unhide HRUN] at hret
      have hO6 := (hst6.block _ (heapLt (unhide HT2).hO) (own_ne (unhide HT2).ans.pf (unhide HT2).hO (by decide))).trans (unhide HT2).hO
      have hR6 := (hst6.block _ (heapLt (unhide HT2).hR) (own_ne (unhide HT2).ans.pf (unhide HT2).hR (by decide))).trans (unhide HT2).hR
      have hs6 := (unhide HT2).st.trans hst6
      have hrl : Hid ((Dk.run D0 (l.take (k + 1))).fl.length = nf) := by show _ = _; rw [Dk.run_fl]; exact unhide HF0
      generalize hD2 : Dk.run D0 (l.take (k + 1)) = D2 at *
      have HD2 := hide hD2
      obtain ⟨q1, q2, rfl, hans⟩ := hret
      obtain ⟨p1, g3, i1⟩ := hans.p1.slice
      obtain ⟨p2, g4, i2⟩ := hans.p2.slice
      subst i1 i2
      dsimp only [dkV]
      have HT6 := hide (fun w' hw => Tq.store (w' := w') (D := D2) hO6 hR6 hans hs6 hw)
      obtain ⟨⟨z0, j0⟩, ⟨z1, j1⟩, ⟨z2, j2⟩, z3, j3⟩ : (_ ∧ _) ∧ (_ ∧ _) ∧ (_ ∧ _) ∧ _ ∧ _ := ⟨⟨cellOf hO6 0, frozenOf hO6 0⟩, ⟨cellOf hO6 1, frozenOf hO6 1⟩, ⟨cellOf hO6 2, frozenOf hO6 2⟩, cellOf hO6 3, frozenOf hO6 3⟩
      have hS6 : (w6.cell? ⟨w.heap.size, 0, none⟩ = some (.slice f1 db'.length g1) ∧ w6.cell? ⟨w.heap.size, 1, none⟩ = some (.slice af nf cf) ∧ w6.cell? ⟨w.heap.size, 2, none⟩ = some (.bool has') ∧ w6.cell? ⟨w.heap.size, 3, none⟩ = some (.slice f2 jr'.length g2)) ∧ (w6.cell? ⟨bS, oS + k * 4, none⟩ = some (.int .i64 sk) ∧ w6.cell? ⟨bS, oS + k * 4 + 1, none⟩ = some (.int .i64 sp) ∧ w6.cell? ⟨bS, oS + k * 4 + 2, none⟩ = some (.int .i64 sx) ∧ w6.cell? ⟨bS, oS + k * 4 + 3, none⟩ = some (.slice pa sps.length pc)) := by
        have e : ∀ o, w6.cell? ⟨bS, o, none⟩ = wr.drew.cell? ⟨bS, o, none⟩ := fun o => World.cell?_of_block (hst6.block bS hbS (fun e => hNS e))
        exact ⟨⟨z0, z1, z2, z3⟩, by rw [e]; exact t0, by rw [e]; exact t1, by rw [e]; exact t2, by rw [e]; exact t3⟩
      clear hst6 hO6 hR6 hs6 hD2 hans hB2 HT2 HPK HRUN hHeld t0 t1 t2 t3
      go_wp2_with fail
      refine hK.out _ _ (fun _ => (by assumption)) ?_
      clear hK K
      try simp only [Act.put, List.setIfInBounds_toArray, List.set_cons_zero, List.set_cons_succ]
      refine wl_one (i := 6) (by kernel_rfl) rfl (by rfl) (fun K hK => ?_)
      go_simp
      have HT7 := hide (unhide HT6 _ rfl)
      generalize World.setCell _ _ _ = W7 at *
      refine hK.out _ _ (fun h => absurd rfl h) ?_
      clear hK K
      refine wl_done (by kernel_rfl) ?_
      clear z0 z1 z2 z3 j0 j1 j2 j3 hS6 HT6
      go_wp2
      go_roundw
      case rel => exact ⟨k + 1, D2, _, _, by omega, .inl (by omega), by go_num, (unhide HD2).symm, unhide HT7⟩
      case measure => simp [intOf]; omega
    · have hrun := Dk.till_take (d := D0) hk (unhide HKC) (by omega)
      rw [← unhide HD] at hrun
      have HRUN := hide hrun
      clear hrun
      by_cases hlt : k < l.length
      · have hcut : ¬ (k : Int) < cut := fun h => hgo ⟨hlt, h⟩
        have hi1 : (k : Int) < (l.length : Int) := by omega
        clear hgo
        cases torn
        · have HE : Hid (Dk.till D0 l cut false = D) := by
            show _ = _
            unfold Dk.till
            rw [if_neg (by simp), unhide HRUN]
          have hO6 := (unhide HT).hO
          have hR6 := (unhide HT).hR
          obtain ⟨z0, z1, z2, z3⟩ : _ ∧ _ ∧ _ ∧ _ := ⟨cellOf hO6 0, cellOf hO6 1, cellOf hO6 2, cellOf hO6 3⟩
          obtain ⟨⟨r0, j0⟩, ⟨r1, j1⟩, ⟨r2, j2⟩, r3, j3⟩ : (_ ∧ _) ∧ (_ ∧ _) ∧ (_ ∧ _) ∧ _ ∧ _ := ⟨⟨cellOf hR6 0, frozenOf hR6 0⟩, ⟨cellOf hR6 1, frozenOf hR6 1⟩, ⟨cellOf hR6 2, frozenOf hR6 2⟩, cellOf hR6 3, frozenOf hR6 3⟩
          clear hO6 hR6
          go_wp2
          obtain ⟨⟨q0, q1, q2, q3⟩, hans, hbel⟩ := endR (N := fun b => N b ∧ b ≠ w.heap.size ∧ b ≠ w.heap.size + 1) (has := D.has) (unhide HT).hR (by omega) (unhide HT).st (fun b hb => hb.2.2) (unhide HT).ans rfl
          exact bodyPost_ret (v := .agg #[.slice f1 D.db.length g1, .slice af nf cf, .bool D.has, .slice f2 D.jr.length g2]) (by simp [results, Tryz.results27, go_sem, q0, q1, q2, q3]) rfl ⟨_, rfl, by rw [unhide HE]; exact ⟨_, _, rfl, hans.weak (fun b hb => hb.1)⟩, hbel⟩
        · have ewl : IntKind.i64.wrap ((l.length : Int) - 1) = (l.length : Int) - 1 := by simp [IntKind.wrap, IntKind.bits, IntKind.signed]; omega
          have hln : (l.length : Int) ≤ 1000 := by omega
          cases hin : Pk.inB cut 0 ((l.length : Int) - 1)
          · have HE : Hid (Dk.till D0 l cut true = D) := by
              show _ = _
              unfold Dk.till
              rw [if_neg (fun h => by rw [Pk.inB_true.2 ⟨h.2.1, by omega⟩] at hin; cases hin), unhide HRUN]
            go_wp2_with fail
            refine (in_any cut 0 _ wr).mono ?_
            rintro e w6 ⟨rfl, rfl⟩
            rw [hin]
            clear hin
            have hO6 := (unhide HT).hO
            have hR6 := (unhide HT).hR
            obtain ⟨z0, z1, z2, z3⟩ : _ ∧ _ ∧ _ ∧ _ := ⟨cellOf hO6 0, cellOf hO6 1, cellOf hO6 2, cellOf hO6 3⟩
            obtain ⟨⟨r0, j0⟩, ⟨r1, j1⟩, ⟨r2, j2⟩, r3, j3⟩ : (_ ∧ _) ∧ (_ ∧ _) ∧ (_ ∧ _) ∧ _ ∧ _ := ⟨⟨cellOf hR6 0, frozenOf hR6 0⟩, ⟨cellOf hR6 1, frozenOf hR6 1⟩, ⟨cellOf hR6 2, frozenOf hR6 2⟩, cellOf hR6 3, frozenOf hR6 3⟩
            clear hO6 hR6
            go_wp2
            obtain ⟨⟨q0, q1, q2, q3⟩, hans, hbel⟩ := endR (N := fun b => N b ∧ b ≠ w.heap.size ∧ b ≠ w.heap.size + 1) (has := D.has) (unhide HT).hR (by omega) (unhide HT).st (fun b hb => hb.2.2) (unhide HT).ans rfl
            exact bodyPost_ret (v := .agg #[.slice f1 D.db.length g1, .slice af nf cf, .bool D.has, .slice f2 D.jr.length g2]) (by simp [results, Tryz.results27, go_sem, q0, q1, q2, q3]) rfl ⟨_, rfl, by rw [unhide HE]; exact ⟨_, _, rfl, hans.weak (fun b hb => hb.1)⟩, hbel⟩
          · obtain ⟨hcu0, hcu1⟩ := Pk.inB_true.1 hin
            obtain ⟨s, hsk⟩ : ∃ s, l[cut.toNat]? = some s := ⟨_, List.getElem?_eq_getElem (by omega)⟩
            have HE : Hid (Dk.till D0 l cut true = D.torn s) := by
              show _ = _
              unfold Dk.till
              rw [if_pos ⟨rfl, hcu0, by omega⟩, unhide HRUN, List.getD_eq_getElem?_getD, hsk]
              rfl
            go_wp2_with fail
            refine (in_any cut 0 _ wr).mono ?_
            rintro e w6 ⟨rfl, rfl⟩
            rw [hin]
            clear hin
            obtain ⟨n, rfl⟩ := Int.eq_ofNat_of_zero_le hcu0
            rw [Int.toNat_natCast] at hsk
            obtain ⟨⟨hcd1, hcd2, hcd3, hcd4⟩, hcs⟩ := unhide HC s (List.mem_of_getElem? hsk)
            have HCD := hide (And.intro hcd1 (And.intro hcd2 (And.intro hcd3 hcs)))
            obtain ⟨bS, oS, pa, pc, hva, hsat, hpk, hbS, hNS⟩ := ((unhide HS).stays (unhide HT).st (fun b hb hb2 => hb hb2)).at hsk
            subst hva
            obtain ⟨sk, sp, sx, sps⟩ := s
            obtain ⟨db', fl', has', jr'⟩ := D
            dsimp only at hcd1 hcd2 hcd3 hcd4 hcs
            have hbd := below_drew w6
            have HT2 := hide ((unhide HT).later hbd)
            have HPK := hide (hpk.later hbd)
            obtain ⟨t0, t1, t2, t3⟩ := hsat.keep (hbd.block _ hbS)
            have hO := (unhide HT2).hO
            have hSS : (w6.drew.cell? ⟨w.heap.size, 0, none⟩ = some (.slice f1 db'.length g1) ∧ w6.drew.cell? ⟨w.heap.size, 1, none⟩ = some (.slice af nf cf) ∧ w6.drew.cell? ⟨w.heap.size, 2, none⟩ = some (.bool has') ∧ w6.drew.cell? ⟨w.heap.size, 3, none⟩ = some (.slice f2 jr'.length g2)) ∧ (w6.drew.cell? ⟨bS, oS + n * 4, none⟩ = some (.int .i64 sk) ∧ w6.drew.cell? ⟨bS, oS + n * 4 + 1, none⟩ = some (.int .i64 sp) ∧ w6.drew.cell? ⟨bS, oS + n * 4 + 2, none⟩ = some (.int .i64 sx) ∧ w6.drew.cell? ⟨bS, oS + n * 4 + 3, none⟩ = some (.slice pa sps.length pc)) := ⟨⟨cellOf hO 0, cellOf hO 1, cellOf hO 2, cellOf hO 3⟩, t0, t1, t2, t3⟩
            have hi0 : (0 : Int) ≤ (n : Int) := Int.natCast_nonneg _
            have hi1 : (n : Int) < (l.length : Int) := by omega
            clear HT hpk hO hbd hsk hcd1 hcd2 hcd3 hcd4 hcs
            go_wp2_with fail
            refine wl_region (S := fun w' => (w'.cell? ⟨w.heap.size, 0, none⟩ = some (.slice f1 db'.length g1) ∧ w'.cell? ⟨w.heap.size, 1, none⟩ = some (.slice af nf cf) ∧ w'.cell? ⟨w.heap.size, 2, none⟩ = some (.bool has') ∧ w'.cell? ⟨w.heap.size, 3, none⟩ = some (.slice f2 jr'.length g2)) ∧ (w'.cell? ⟨bS, oS + n * 4, none⟩ = some (.int .i64 sk) ∧ w'.cell? ⟨bS, oS + n * 4 + 1, none⟩ = some (.int .i64 sp) ∧ w'.cell? ⟨bS, oS + n * 4 + 2, none⟩ = some (.int .i64 sx) ∧ w'.cell? ⟨bS, oS + n * 4 + 3, none⟩ = some (.slice pa sps.length pc))) (s := 6) (by kernel_rfl) hSS (fun hHeld => ?_)
            clear hSS
            refine wl_take (i := 0) (d := some 35) rfl rfl (by kernel_rfl) (by kernel_rfl) (by kernel_rfl) (by kernel_rfl) (by kernel_rfl) (fun _ _ _ h => h) (by rfl) (v := ?_) ?_ (by assumption) ?_
            rotate_left
            · (intro w hSw; (try dsimp only at hSw); go_simp <;> with_reducible rfl)
            simp only [Act.put, List.setIfInBounds_toArray, List.set_cons_zero, List.set_cons_succ]
            refine wl_take (i := 1) (d := some 36) rfl rfl (by kernel_rfl) (by kernel_rfl) (by kernel_rfl) (by kernel_rfl) (by kernel_rfl) (fun _ _ _ h => h) (by rfl) (fun w _ => run_move rfl rfl w) (by assumption) ?_
            simp only [Act.put, List.setIfInBounds_toArray, List.set_cons_zero, List.set_cons_succ, List.getElem_toArray, List.getElem_cons_zero, List.getElem_cons_succ]
            refine wl_take (i := 2) (d := some 37) rfl rfl (by kernel_rfl) (by kernel_rfl) (by kernel_rfl) (by kernel_rfl) (by kernel_rfl) (fun _ _ _ h => h) (by rfl) (fun w _ => run_move rfl rfl w) (by assumption) ?_
            simp only [Act.put, List.setIfInBounds_toArray, List.set_cons_zero, List.set_cons_succ, List.getElem_toArray, List.getElem_cons_zero, List.getElem_cons_succ]
            refine wl_take (i := 3) (d := some 38) rfl rfl (by kernel_rfl) (by kernel_rfl) (by kernel_rfl) (by kernel_rfl) (by kernel_rfl) (fun _ _ _ h => h) (by rfl) (v := ?_) ?_ (by assumption) ?_
            rotate_left
            · (intro w hSw; (try dsimp only at hSw); go_simp <;> with_reducible rfl)
            simp only [Act.put, List.setIfInBounds_toArray, List.set_cons_zero, List.set_cons_succ]
            refine wl_take (i := 4) (d := some 39) rfl rfl (by kernel_rfl) (by kernel_rfl) (by kernel_rfl) (by kernel_rfl) (by kernel_rfl) (fun _ _ _ h => h) (by rfl) (v := ?_) ?_ (by assumption) ?_
            rotate_left
            · (intro w hSw; (try dsimp only at hSw); go_simp <;> with_reducible rfl)
            simp only [Act.put, List.setIfInBounds_toArray, List.set_cons_zero, List.set_cons_succ]
            refine wl_one (i := 5) (by kernel_rfl) rfl (by rfl) (fun K hK => ?_)
            go_simp
            have hB2 : B ≤ w6.drew.heap.size := Nat.le_trans (unhide HBW) (unhide HT2).st.size
            refine (l21Tear_rd (B := B) w6.drew has' _ _ _ db' jr' fl' sk sp sx pa pc sps (unhide HT2).ans hB2 (unhide HNF) (fun b hb => ⟨unhide HNS b (by have := (unhide HT2).st.size; omega), by have := heapLt (unhide HT2).hR; omega, by have := heapLt (unhide HT2).hR; omega⟩) ((unhide HPK).weak (fun _ _ => trivial)) (unhide HCD).2.2.2 (unhide HCD).1 (unhide HCD).2.1 (by rw [unhide HFD]; exact (unhide HCD).2.2.1)).mono ?_
            rintro e w7 ⟨x, rfl, hret, hst6⟩
            have hO6 := (hst6.block _ (heapLt (unhide HT2).hO) (own_ne (unhide HT2).ans.pf (unhide HT2).hO (by decide))).trans (unhide HT2).hO
            have hR6 := (hst6.block _ (heapLt (unhide HT2).hR) (own_ne (unhide HT2).ans.pf (unhide HT2).hR (by decide))).trans (unhide HT2).hR
            have hs6 := (unhide HT2).st.trans hst6
            generalize hD2 : Dk.D.torn ⟨db', fl', has', jr'⟩ ⟨sk, sp, sx, sps⟩ = D2 at *
            obtain ⟨q1, q2, rfl, hans⟩ := hret
            obtain ⟨p1, g3, i1⟩ := hans.p1.slice
            obtain ⟨p2, g4, i2⟩ := hans.p2.slice
            subst i1 i2
            dsimp only [dkV]
            have HT6 := hide (fun w' hw => Tq.store (w' := w') (D := D2) hO6 hR6 hans hs6 hw)
            obtain ⟨⟨z0, j0⟩, ⟨z1, j1⟩, ⟨z2, j2⟩, z3, j3⟩ : (_ ∧ _) ∧ (_ ∧ _) ∧ (_ ∧ _) ∧ _ ∧ _ := ⟨⟨cellOf hO6 0, frozenOf hO6 0⟩, ⟨cellOf hO6 1, frozenOf hO6 1⟩, ⟨cellOf hO6 2, frozenOf hO6 2⟩, cellOf hO6 3, frozenOf hO6 3⟩
            have hS6 : (w7.cell? ⟨w.heap.size, 0, none⟩ = some (.slice f1 db'.length g1) ∧ w7.cell? ⟨w.heap.size, 1, none⟩ = some (.slice af nf cf) ∧ w7.cell? ⟨w.heap.size, 2, none⟩ = some (.bool has') ∧ w7.cell? ⟨w.heap.size, 3, none⟩ = some (.slice f2 jr'.length g2)) ∧ (w7.cell? ⟨bS, oS + n * 4, none⟩ = some (.int .i64 sk) ∧ w7.cell? ⟨bS, oS + n * 4 + 1, none⟩ = some (.int .i64 sp) ∧ w7.cell? ⟨bS, oS + n * 4 + 2, none⟩ = some (.int .i64 sx) ∧ w7.cell? ⟨bS, oS + n * 4 + 3, none⟩ = some (.slice pa sps.length pc)) := by
              have e : ∀ o, w7.cell? ⟨bS, o, none⟩ = w6.drew.cell? ⟨bS, o, none⟩ := fun o => World.cell?_of_block (hst6.block bS hbS (fun e => hNS e))
              exact ⟨⟨z0, z1, z2, z3⟩, by rw [e]; exact t0, by rw [e]; exact t1, by rw [e]; exact t2, by rw [e]; exact t3⟩
            clear hst6 hO6 hR6 hs6 hD2 hans hB2 HT2 HPK hHeld t0 t1 t2 t3
            go_wp2_with fail
            refine hK.out _ _ (fun _ => (by assumption)) ?_
            clear hK K
            try simp only [Act.put, List.setIfInBounds_toArray, List.set_cons_zero, List.set_cons_succ]
            refine wl_one (i := 6) (by kernel_rfl) rfl (by rfl) (fun K hK => ?_)
            go_simp
            have HT := hide (unhide HT6 _ rfl)
            generalize World.setCell _ _ _ = W7 at *
            refine hK.out _ _ (fun h => absurd rfl h) ?_
            clear hK K
            refine wl_done (by kernel_rfl) ?_
            clear z0 z1 z2 z3 j0 j1 j2 j3 hS6 HT6
            have hO6 := (unhide HT).hO
            have hR6 := (unhide HT).hR
            obtain ⟨z0, z1, z2, z3⟩ : _ ∧ _ ∧ _ ∧ _ := ⟨cellOf hO6 0, cellOf hO6 1, cellOf hO6 2, cellOf hO6 3⟩
            obtain ⟨⟨r0, j0⟩, ⟨r1, j1⟩, ⟨r2, j2⟩, r3, j3⟩ : (_ ∧ _) ∧ (_ ∧ _) ∧ (_ ∧ _) ∧ _ ∧ _ := ⟨⟨cellOf hR6 0, frozenOf hR6 0⟩, ⟨cellOf hR6 1, frozenOf hR6 1⟩, ⟨cellOf hR6 2, frozenOf hR6 2⟩, cellOf hR6 3, frozenOf hR6 3⟩
            clear hO6 hR6
            go_wp2
            obtain ⟨⟨q0, q1, q2, q3⟩, hans, hbel⟩ := endR (N := fun b => N b ∧ b ≠ w.heap.size ∧ b ≠ w.heap.size + 1) (has := D2.has) (unhide HT).hR (by omega) (unhide HT).st (fun b hb => hb.2.2) (unhide HT).ans rfl
            exact bodyPost_ret (v := .agg #[.slice p1 D2.db.length g3, .slice af nf cf, .bool D2.has, .slice p2 D2.jr.length g4]) (by simp [results, Tryz.results27, go_sem, q0, q1, q2, q3]) rfl ⟨_, rfl, by rw [unhide HE]; exact ⟨_, _, rfl, hans.weak (fun b hb => hb.1)⟩, hbel⟩
      · obtain rfl : k = l.length := by omega
        clear hgo
        cases torn
        · have HE : Hid (Dk.till D0 l cut false = D) := by
            show _ = _
            unfold Dk.till
            rw [if_neg (by simp), unhide HRUN]
          have hO6 := (unhide HT).hO
          have hR6 := (unhide HT).hR
          obtain ⟨z0, z1, z2, z3⟩ : _ ∧ _ ∧ _ ∧ _ := ⟨cellOf hO6 0, cellOf hO6 1, cellOf hO6 2, cellOf hO6 3⟩
          obtain ⟨⟨r0, j0⟩, ⟨r1, j1⟩, ⟨r2, j2⟩, r3, j3⟩ : (_ ∧ _) ∧ (_ ∧ _) ∧ (_ ∧ _) ∧ _ ∧ _ := ⟨⟨cellOf hR6 0, frozenOf hR6 0⟩, ⟨cellOf hR6 1, frozenOf hR6 1⟩, ⟨cellOf hR6 2, frozenOf hR6 2⟩, cellOf hR6 3, frozenOf hR6 3⟩
          clear hO6 hR6
          go_wp2
          obtain ⟨⟨q0, q1, q2, q3⟩, hans, hbel⟩ := endR (N := fun b => N b ∧ b ≠ w.heap.size ∧ b ≠ w.heap.size + 1) (has := D.has) (unhide HT).hR (by omega) (unhide HT).st (fun b hb => hb.2.2) (unhide HT).ans rfl
          exact bodyPost_ret (v := .agg #[.slice f1 D.db.length g1, .slice af nf cf, .bool D.has, .slice f2 D.jr.length g2]) (by simp [results, Tryz.results27, go_sem, q0, q1, q2, q3]) rfl ⟨_, rfl, by rw [unhide HE]; exact ⟨_, _, rfl, hans.weak (fun b hb => hb.1)⟩, hbel⟩
        · have ewl : IntKind.i64.wrap ((l.length : Int) - 1) = (l.length : Int) - 1 := by simp [IntKind.wrap, IntKind.bits, IntKind.signed]; omega
          have hln : (l.length : Int) ≤ 1000 := by omega
          cases hin : Pk.inB cut 0 ((l.length : Int) - 1)
          · have HE : Hid (Dk.till D0 l cut true = D) := by
              show _ = _
              unfold Dk.till
              rw [if_neg (fun h => by rw [Pk.inB_true.2 ⟨h.2.1, by omega⟩] at hin; cases hin), unhide HRUN]
            go_wp2_with fail
            refine (in_any cut 0 _ wr).mono ?_
            rintro e w6 ⟨rfl, rfl⟩
            rw [hin]
            clear hin
            have hO6 := (unhide HT).hO
            have hR6 := (unhide HT).hR
            obtain ⟨z0, z1, z2, z3⟩ : _ ∧ _ ∧ _ ∧ _ := ⟨cellOf hO6 0, cellOf hO6 1, cellOf hO6 2, cellOf hO6 3⟩
            obtain ⟨⟨r0, j0⟩, ⟨r1, j1⟩, ⟨r2, j2⟩, r3, j3⟩ : (_ ∧ _) ∧ (_ ∧ _) ∧ (_ ∧ _) ∧ _ ∧ _ := ⟨⟨cellOf hR6 0, frozenOf hR6 0⟩, ⟨cellOf hR6 1, frozenOf hR6 1⟩, ⟨cellOf hR6 2, frozenOf hR6 2⟩, cellOf hR6 3, frozenOf hR6 3⟩
            clear hO6 hR6
            go_wp2
            obtain ⟨⟨q0, q1, q2, q3⟩, hans, hbel⟩ := endR (N := fun b => N b ∧ b ≠ w.heap.size ∧ b ≠ w.heap.size + 1) (has := D.has) (unhide HT).hR (by omega) (unhide HT).st (fun b hb => hb.2.2) (unhide HT).ans rfl
            exact bodyPost_ret (v := .agg #[.slice f1 D.db.length g1, .slice af nf cf, .bool D.has, .slice f2 D.jr.length g2]) (by simp [results, Tryz.results27, go_sem, q0, q1, q2, q3]) rfl ⟨_, rfl, by rw [unhide HE]; exact ⟨_, _, rfl, hans.weak (fun b hb => hb.1)⟩, hbel⟩
          · obtain ⟨hcu0, hcu1⟩ := Pk.inB_true.1 hin
            obtain ⟨s, hsk⟩ : ∃ s, l[cut.toNat]? = some s := ⟨_, List.getElem?_eq_getElem (by omega)⟩
            have HE : Hid (Dk.till D0 l cut true = D.torn s) := by
              show _ = _
              unfold Dk.till
              rw [if_pos ⟨rfl, hcu0, by omega⟩, unhide HRUN, List.getD_eq_getElem?_getD, hsk]
              rfl
            go_wp2_with fail
            refine (in_any cut 0 _ wr).mono ?_
            rintro e w6 ⟨rfl, rfl⟩
            rw [hin]
            clear hin
            obtain ⟨n, rfl⟩ := Int.eq_ofNat_of_zero_le hcu0
            rw [Int.toNat_natCast] at hsk
            obtain ⟨⟨hcd1, hcd2, hcd3, hcd4⟩, hcs⟩ := unhide HC s (List.mem_of_getElem? hsk)
            have HCD := hide (And.intro hcd1 (And.intro hcd2 (And.intro hcd3 hcs)))
            obtain ⟨bS, oS, pa, pc, hva, hsat, hpk, hbS, hNS⟩ := ((unhide HS).stays (unhide HT).st (fun b hb hb2 => hb hb2)).at hsk
            subst hva
            obtain ⟨sk, sp, sx, sps⟩ := s
            obtain ⟨db', fl', has', jr'⟩ := D
            dsimp only at hcd1 hcd2 hcd3 hcd4 hcs
            have hbd := below_drew w6
            have HT2 := hide ((unhide HT).later hbd)
            have HPK := hide (hpk.later hbd)
            obtain ⟨t0, t1, t2, t3⟩ := hsat.keep (hbd.block _ hbS)
            have hO := (unhide HT2).hO
            have hSS : (w6.drew.cell? ⟨w.heap.size, 0, none⟩ = some (.slice f1 db'.length g1) ∧ w6.drew.cell? ⟨w.heap.size, 1, none⟩ = some (.slice af nf cf) ∧ w6.drew.cell? ⟨w.heap.size, 2, none⟩ = some (.bool has') ∧ w6.drew.cell? ⟨w.heap.size, 3, none⟩ = some (.slice f2 jr'.length g2)) ∧ (w6.drew.cell? ⟨bS, oS + n * 4, none⟩ = some (.int .i64 sk) ∧ w6.drew.cell? ⟨bS, oS + n * 4 + 1, none⟩ = some (.int .i64 sp) ∧ w6.drew.cell? ⟨bS, oS + n * 4 + 2, none⟩ = some (.int .i64 sx) ∧ w6.drew.cell? ⟨bS, oS + n * 4 + 3, none⟩ = some (.slice pa sps.length pc)) := ⟨⟨cellOf hO 0, cellOf hO 1, cellOf hO 2, cellOf hO 3⟩, t0, t1, t2, t3⟩
            have hi0 : (0 : Int) ≤ (n : Int) := Int.natCast_nonneg _
            have hi1 : (n : Int) < (l.length : Int) := by omega
            clear HT hpk hO hbd hsk hcd1 hcd2 hcd3 hcd4 hcs
            go_wp2_with fail
            refine wl_region (S := fun w' => (w'.cell? ⟨w.heap.size, 0, none⟩ = some (.slice f1 db'.length g1) ∧ w'.cell? ⟨w.heap.size, 1, none⟩ = some (.slice af nf cf) ∧ w'.cell? ⟨w.heap.size, 2, none⟩ = some (.bool has') ∧ w'.cell? ⟨w.heap.size, 3, none⟩ = some (.slice f2 jr'.length g2)) ∧ (w'.cell? ⟨bS, oS + n * 4, none⟩ = some (.int .i64 sk) ∧ w'.cell? ⟨bS, oS + n * 4 + 1, none⟩ = some (.int .i64 sp) ∧ w'.cell? ⟨bS, oS + n * 4 + 2, none⟩ = some (.int .i64 sx) ∧ w'.cell? ⟨bS, oS + n * 4 + 3, none⟩ = some (.slice pa sps.length pc))) (s := 6) (by kernel_rfl) hSS (fun hHeld => ?_)
            clear hSS
            refine wl_take (i := 0) (d := some 35) rfl rfl (by kernel_rfl) (by kernel_rfl) (by kernel_rfl) (by kernel_rfl) (by kernel_rfl) (fun _ _ _ h => h) (by rfl) (v := ?_) ?_ (by assumption) ?_
            rotate_left
            · (intro w hSw; (try dsimp only at hSw); go_simp <;> with_reducible rfl)
            simp only [Act.put, List.setIfInBounds_toArray, List.set_cons_zero, List.set_cons_succ]
            refine wl_take (i := 1) (d := some 36) rfl rfl (by kernel_rfl) (by kernel_rfl) (by kernel_rfl) (by kernel_rfl) (by kernel_rfl) (fun _ _ _ h => h) (by rfl) (fun w _ => run_move rfl rfl w) (by assumption) ?_
            simp only [Act.put, List.setIfInBounds_toArray, List.set_cons_zero, List.set_cons_succ, List.getElem_toArray, List.getElem_cons_zero, List.getElem_cons_succ]
            refine wl_take (i := 2) (d := some 37) rfl rfl (by kernel_rfl) (by kernel_rfl) (by kernel_rfl) (by kernel_rfl) (by kernel_rfl) (fun _ _ _ h => h) (by rfl) (fun w _ => run_move rfl rfl w) (by assumption) ?_
            simp only [Act.put, List.setIfInBounds_toArray, List.set_cons_zero, List.set_cons_succ, List.getElem_toArray, List.getElem_cons_zero, List.getElem_cons_succ]
            refine wl_take (i := 3) (d := some 38) rfl rfl (by kernel_rfl) (by kernel_rfl) (by kernel_rfl) (by kernel_rfl) (by kernel_rfl) (fun _ _ _ h => h) (by rfl) (v := ?_) ?_ (by assumption) ?_
            rotate_left
            · (intro w hSw; (try dsimp only at hSw); go_simp <;> with_reducible rfl)
            simp only [Act.put, List.setIfInBounds_toArray, List.set_cons_zero, List.set_cons_succ]
            refine wl_take (i := 4) (d := some 39) rfl rfl (by kernel_rfl) (by kernel_rfl) (by kernel_rfl) (by kernel_rfl) (by kernel_rfl) (fun _ _ _ h => h) (by rfl) (v := ?_) ?_ (by assumption) ?_
            rotate_left
            · (intro w hSw; (try dsimp only at hSw); go_simp <;> with_reducible rfl)
            simp only [Act.put, List.setIfInBounds_toArray, List.set_cons_zero, List.set_cons_succ]
            refine wl_one (i := 5) (by kernel_rfl) rfl (by rfl) (fun K hK => ?_)
            go_simp
            have hB2 : B ≤ w6.drew.heap.size := Nat.le_trans (unhide HBW) (unhide HT2).st.size
            refine (l21Tear_rd (B := B) w6.drew has' _ _ _ db' jr' fl' sk sp sx pa pc sps (unhide HT2).ans hB2 (unhide HNF) (fun b hb => ⟨unhide HNS b (by have := (unhide HT2).st.size; omega), by have := heapLt (unhide HT2).hR; omega, by have := heapLt (unhide HT2).hR; omega⟩) ((unhide HPK).weak (fun _ _ => trivial)) (unhide HCD).2.2.2 (unhide HCD).1 (unhide HCD).2.1 (by rw [unhide HFD]; exact (unhide HCD).2.2.1)).mono ?_
            rintro e w7 ⟨x, rfl, hret, hst6⟩
            have hO6 := (hst6.block _ (heapLt (unhide HT2).hO) (own_ne (unhide HT2).ans.pf (unhide HT2).hO (by decide))).trans (unhide HT2).hO
            have hR6 := (hst6.block _ (heapLt (unhide HT2).hR) (own_ne (unhide HT2).ans.pf (unhide HT2).hR (by decide))).trans (unhide HT2).hR
            have hs6 := (unhide HT2).st.trans hst6
            generalize hD2 : Dk.D.torn ⟨db', fl', has', jr'⟩ ⟨sk, sp, sx, sps⟩ = D2 at *
            obtain ⟨q1, q2, rfl, hans⟩ := hret
            obtain ⟨p1, g3, i1⟩ := hans.p1.slice
            obtain ⟨p2, g4, i2⟩ := hans.p2.slice
            subst i1 i2
            dsimp only [dkV]
            have HT6 := hide (fun w' hw => Tq.store (w' := w') (D := D2) hO6 hR6 hans hs6 hw)
            obtain ⟨⟨z0, j0⟩, ⟨z1, j1⟩, ⟨z2, j2⟩, z3, j3⟩ : (_ ∧ _) ∧ (_ ∧ _) ∧ (_ ∧ _) ∧ _ ∧ _ := ⟨⟨cellOf hO6 0, frozenOf hO6 0⟩, ⟨cellOf hO6 1, frozenOf hO6 1⟩, ⟨cellOf hO6 2, frozenOf hO6 2⟩, cellOf hO6 3, frozenOf hO6 3⟩
            have hS6 : (w7.cell? ⟨w.heap.size, 0, none⟩ = some (.slice f1 db'.length g1) ∧ w7.cell? ⟨w.heap.size, 1, none⟩ = some (.slice af nf cf) ∧ w7.cell? ⟨w.heap.size, 2, none⟩ = some (.bool has') ∧ w7.cell? ⟨w.heap.size, 3, none⟩ = some (.slice f2 jr'.length g2)) ∧ (w7.cell? ⟨bS, oS + n * 4, none⟩ = some (.int .i64 sk) ∧ w7.cell? ⟨bS, oS + n * 4 + 1, none⟩ = some (.int .i64 sp) ∧ w7.cell? ⟨bS, oS + n * 4 + 2, none⟩ = some (.int .i64 sx) ∧ w7.cell? ⟨bS, oS + n * 4 + 3, none⟩ = some (.slice pa sps.length pc)) := by
              have e : ∀ o, w7.cell? ⟨bS, o, none⟩ = w6.drew.cell? ⟨bS, o, none⟩ := fun o => World.cell?_of_block (hst6.block bS hbS (fun e => hNS e))
              exact ⟨⟨z0, z1, z2, z3⟩, by rw [e]; exact t0, by rw [e]; exact t1, by rw [e]; exact t2, by rw [e]; exact t3⟩
            clear hst6 hO6 hR6 hs6 hD2 hans hB2 HT2 HPK hHeld t0 t1 t2 t3
            go_wp2_with fail
            refine hK.out _ _ (fun _ => (by assumption)) ?_
            clear hK K
            try simp only [Act.put, List.setIfInBounds_toArray, List.set_cons_zero, List.set_cons_succ]
            refine wl_one (i := 6) (by kernel_rfl) rfl (by rfl) (fun K hK => ?_)
            go_simp
            have HT := hide (unhide HT6 _ rfl)
            generalize World.setCell _ _ _ = W7 at *
            refine hK.out _ _ (fun h => absurd rfl h) ?_
            clear hK K
            refine wl_done (by kernel_rfl) ?_
            clear z0 z1 z2 z3 j0 j1 j2 j3 hS6 HT6
            have hO6 := (unhide HT).hO
            have hR6 := (unhide HT).hR
            obtain ⟨z0, z1, z2, z3⟩ : _ ∧ _ ∧ _ ∧ _ := ⟨cellOf hO6 0, cellOf hO6 1, cellOf hO6 2, cellOf hO6 3⟩
            obtain ⟨⟨r0, j0⟩, ⟨r1, j1⟩, ⟨r2, j2⟩, r3, j3⟩ : (_ ∧ _) ∧ (_ ∧ _) ∧ (_ ∧ _) ∧ _ ∧ _ := ⟨⟨cellOf hR6 0, frozenOf hR6 0⟩, ⟨cellOf hR6 1, frozenOf hR6 1⟩, ⟨cellOf hR6 2, frozenOf hR6 2⟩, cellOf hR6 3, frozenOf hR6 3⟩
            clear hO6 hR6
            go_wp2
            obtain ⟨⟨q0, q1, q2, q3⟩, hans, hbel⟩ := endR (N := fun b => N b ∧ b ≠ w.heap.size ∧ b ≠ w.heap.size + 1) (has := D2.has) (unhide HT).hR (by omega) (unhide HT).st (fun b hb => hb.2.2) (unhide HT).ans rfl
            exact bodyPost_ret (v := .agg #[.slice p1 D2.db.length g3, .slice af nf cf, .bool D2.has, .slice p2 D2.jr.length g4]) (by simp [results, Tryz.results27, go_sem, q0, q1, q2, q3]) rfl ⟨_, rfl, by rw [unhide HE]; exact ⟨_, _, rfl, hans.weak (fun b hb => hb.1)⟩, hbel⟩
end Go.Proofs.YtkhanndmbpemfaaGreatDoor
