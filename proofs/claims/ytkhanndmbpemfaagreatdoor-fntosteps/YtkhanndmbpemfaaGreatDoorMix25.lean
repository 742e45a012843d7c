import Derived.Test.YtkhanndmbpemfaaGreatDoorMix31
import Derived.Test.YtkhanndmbpemfaaGreatDoorMix24
import Derived.Test.YtkhanndmbpemfaaGreatDoorMix22
import Derived.Test.YtkhanndmbpemfaaGreatDoorMix21
/- What spec's l71Plan, DrawPlanOk and DrawPlanFiles return: packages in memory of their own; those of l71Plan can be in together. -/
namespace Go.Proofs.YtkhanndmbpemfaaGreatDoor
open Go.RowKit

theorem Ix.forD_ok {st ha out : List Ix.Pg} {x : Int} (h : Ix.forD st ha x = some out) : Ix.planOk out = true := by
  unfold Ix.forD Ix.forO at h
  split at h
  · cases h
  · split at h
    · rename_i h1
      injection h with h
      rw [← h]
      exact h1
    · cases h
theorem Ix.planOk_each {l : List Ix.Pg} (h : Ix.planOk l = true) : ∀ p ∈ l, Ix.pOk p = true := (Ix.pkgsOk_pair.1 (Ix.planOk_pkgs h)).1
theorem Pks.kpB {w w' : World} {v : Value} {l : List Ix.Pg} {blk : Nat} (h : Pks (fun b => blk < b) w v l) (hk : Kp w.heap.size blk w w') : Pks (fun b => blk < b) w' v l :=
  h.keep hk.size (fun k hk1 hN => hk.block k hk1 (by omega))

set_option maxHeartbeats 4000000 in
set_option maxRecDepth 100000 in
theorem l71Plan_any {B : Nat} (w : World) (blk p : Nat) (sv : Value) (st : List Ix.Pg) (h : Rd B w blk p) (hB : B ≤ w.heap.size) (hp : p ≤ 800000000) (hs : Pks (fun b => blk < b) w sv st) (hst : ∀ q ∈ st, Ix.pOk q = true) :
    Calls Tryz.prog 80 #[.pointer (some ⟨blk, 0, none⟩), sv] w fun e w' => ∃ v els p', e = .returned v ∧ POx w.heap.size w' v els ∧ Ix.planOk (els.map (·.1)) = true ∧ p' ≤ p + 4 ∧ Rd B w' blk p' ∧ Kp w.heap.size blk w w' := by
  have hlt := h.lt
  have b0 := below1 w (.cells #[] 94)
  have HR0 := hide (h.later hB b0)
  have HK0 : Hid (Kp w.heap.size blk w (w.alloc (.cells #[] 94))) := Kp.of_below b0
  have HE0 := hide (POwn.empty w)
  have HS0 := hide (hs.later b0)
  have HST := hide hst
  have hz0 := sz1 w (.cells #[] 94)
  have HZ0 := hide hz0
  obtain ⟨sa, sc, hsv⟩ := hs.slice
  subst hsv
  clear h hs hst b0 hz0
  go_enter Tryz.func80, Tryz.ntmps80
  go_wp2_with fail
  refine (pick_any _ blk p 3 (unhide HR0) (by omega) (by omega) (by omega)).mono ?_
  generalize w.alloc _ = W0 at *
  rintro e w1 ⟨v1, rfl, v10, v11, hr1, hk1⟩
  have HR1 := hide hr1
  have HE1 := hide ((unhide HE0).kp hk1 hlt)
  have HK1 : Hid (Kp w.heap.size blk w w1) := (unhide HK0).trans hk1 (unhide HK0).size
  have HS1 := hide ((unhide HS0).kpB hk1)
  clear hr1 hk1 HR0 HK0 HE0 HS0 HZ0
  clear W0
  go_wp2_with fail
  go_loopw [5, 6] (fun o n w' => ∃ (els : List El) (j : Int) (q : Nat), n = .int .i64 j ∧ 0 ≤ j ∧ (q : Int) + j ≤ p + 3 ∧ Ix.planOk (els.map (·.1)) = true ∧ POx w.heap.size w' o els ∧ Pks (fun b => blk < b) w' (.slice sa st.length sc) st ∧ Rd B w' blk q ∧ Kp w.heap.size blk w w') (fun _ n _ => (intOf n).toNat)
  case atStart => exact ⟨[], v1, p + 1, rfl, v10, by omega, rfl, unhide HE1, unhide HS1, unhide HR1, unhide HK1⟩
  case round =>
    clear HE1 HS1 HR1 HK1 v10 v11
    clear w1
    obtain ⟨els, j, q, rfl, j0, hq, hok, ho, hs, hr, hk⟩ := hrel
    have HOK := hide hok
    have HO := hide ho
    have HS := hide hs
    have HR := hide hr
    have HK := hide hk
    have hsz := hk.size
    obtain ⟨oa, oc, hov⟩ := own_formS ho.own
    subst hov
    clear hok ho hs hr hk
    by_cases hj : 0 < j
    · have er : IntKind.i64.wrap (j - 1) = j - 1 := by simp [IntKind.wrap, IntKind.bits, IntKind.signed]; omega
      go_wp2_with fail
      refine (pick_any _ blk q 4 (unhide HR) (by omega) (by omega) (by omega)).mono ?_
      rintro e w2 ⟨v2, rfl, v20, v21, hr2, hk2⟩
      have e2 : IntKind.i64.wrap (1 + v2) = 1 + v2 := wrap_small v20 (by omega)
      have HR2 := hide hr2
      have HO2 := hide ((unhide HO).kp hk2 hlt)
      have HS2 := hide ((unhide HS).kpB hk2)
      have HK2 : Hid (Kp w.heap.size blk w w2) := (unhide HK).trans hk2 (unhide HK).size
      have hsz2 := (unhide HK2).size
      have hel := Ix.pkgs_len (Ix.planOk_pkgs (unhide HOK))
      rw [List.length_map] at hel
      have hP2 := (POwn.weak (unhide HO2) (M := fun b => blk < b) (fun b hb => by have := hb.1; omega)).pks (fun b hb => by omega) (by omega)
      have CF := hide (l13For_any w2 (.slice sa st.length sc) (.slice oa els.length oc) st (els.map (·.1)) (1 + v2) (unhide HS2) hP2 (unhide HST) (Ix.planOk_each (unhide HOK)) (by omega) (by omega))
      clear hr2 hk2 HR HO HS HK hP2
      have hfo := fun out => Ix.forD_ok (st := st) (ha := els.map (·.1)) (out := out) (x := 1 + v2)
      generalize Ix.forD st (els.map (·.1)) (1 + v2) = fd at *
      go_wp2_with fail
      refine (unhide CF).mono ?_
      rintro e w3 ⟨ov, els3, rfl, ho3, hmap, b3⟩
      have HR3 := hide ((unhide HR2).later (by omega) b3)
      have HS3 := hide ((unhide HS2).later b3)
      have HK3 : Hid (Kp w.heap.size blk w w3) := (unhide HK2).trans (Kp.of_below b3) (unhide HK2).size
      have HO3 := hide ((unhide HO2).later b3)
      have HP3 := hide (POx.base ho3 hsz2)
      obtain ⟨pa, pc, hov⟩ := own_formS ho3.own
      subst hov
      clear ho3 b3 CF HR2 HS2 HK2 HO2
      cases fd with
      | none =>
        dsimp only [Option.isSome]
        clear hmap hfo
        go_wp2
        go_roundw
        case rel => exact ⟨els, j - 1, q + 1, by go_num, by omega, by omega, unhide HOK, unhide HO3, unhide HS3, unhide HR3, unhide HK3⟩
        case measure => simp [intOf]; omega
      | some out =>
        dsimp only [Option.isSome]
        have hok3 : Ix.planOk (els3.map (·.1)) = true := by rw [hmap]; exact hfo out rfl
        have HOK3 := hide hok3
        clear hmap hfo hok3
        go_wp2
        go_roundw
        case rel => exact ⟨els3, j - 1, q + 1, by go_num, by omega, by omega, unhide HOK3, unhide HP3, unhide HS3, unhide HR3, unhide HK3⟩
        case measure => simp [intOf]; omega
    · obtain rfl : j = 0 := by omega
      go_wp2
      go_ret
      exact ⟨_, rfl, els, unhide HO, unhide HOK, q, by omega, unhide HR, unhide HK⟩
end Go.Proofs.YtkhanndmbpemfaaGreatDoor

/- The state of a function that draws a disk: the reader, the disk's box, its rows. -/
namespace Go.Proofs.YtkhanndmbpemfaaGreatDoor
open Go.RowKit

/-- Numbers that can be read, their block among N. -/
def InsN (N : Nat → Prop) (w : World) (v : Value) (l : List Int) : Prop :=
  ∃ a cap, v = .slice a l.length cap ∧ l.length ≤ cap ∧ l.length ≤ 1000 ∧ (0 < l.length → ∃ b off, a = some ⟨b, off, none⟩ ∧ b < w.heap.size ∧ N b ∧ ∀ i, i < l.length → w.cell? ⟨b, off + i, none⟩ = some (.int .i64 (Ky.nth l i)))
theorem InsN.keep {N : Nat → Prop} {w w' : World} {v : Value} {l : List Int} (h : InsN N w v l) (hs : w.heap.size ≤ w'.heap.size) (hk : ∀ k, k < w.heap.size → N k → w'.heap[k]? = w.heap[k]?) : InsN N w' v l := by
  obtain ⟨a, cap, hv, hc, hl, hr⟩ := h
  refine ⟨a, cap, hv, hc, hl, fun hp => ?_⟩
  obtain ⟨b, off, ha, hbs, hN, hcc⟩ := hr hp
  have e : ∀ o, w'.cell? ⟨b, o, none⟩ = w.cell? ⟨b, o, none⟩ := fun o => World.cell?_of_block (hk b hbs hN)
  exact ⟨b, off, ha, Nat.lt_of_lt_of_le hbs hs, hN, fun i hi => by rw [e]; exact hcc i hi⟩
theorem InsN.ins {N : Nat → Prop} {w : World} {v : Value} {l : List Int} (h : InsN N w v l) : Ins w v l := by
  obtain ⟨a, cap, hv, hc, hl, hr⟩ := h
  refine ⟨a, cap, hv, by omega, fun hp => ?_⟩
  obtain ⟨b, off, ha, hbs, hN, hcc⟩ := hr hp
  exact ⟨b, off, ha, hbs, hcc⟩
theorem InsN.weak {N M : Nat → Prop} {w : World} {v : Value} {l : List Int} (h : InsN N w v l) (hN : ∀ b, N b → M b) : InsN M w v l := by
  obtain ⟨a, cap, hv, hc, hl, hr⟩ := h
  refine ⟨a, cap, hv, hc, hl, fun hp => ?_⟩
  obtain ⟨b, off, ha, hbs, hn, hcc⟩ := hr hp
  exact ⟨b, off, ha, hbs, hN b hn, hcc⟩
theorem InsN.later {N : Nat → Prop} {w w' : World} {v : Value} {l : List Int} (h : InsN N w v l) (b : Below w.heap.size w w') : InsN N w' v l := h.keep b.size (fun k hk _ => b.block k hk)
theorem nth_at {l : List Int} {i : Nat} (hi : i < l.length) : (l.map (Value.int .i64))[i]? = some (.int .i64 (Ky.nth l i)) := by
  rw [List.getElem?_map, List.getElem?_eq_getElem hi]
  unfold Ky.nth
  rw [List.getD_eq_getElem?_getD, List.getElem?_eq_getElem hi]
  rfl
theorem OwI.insN {B : Nat} {w : World} {v : Value} {l : List Int} (h : OwI B w v l) (hl : l.length ≤ 1000) (hp : 0 < l.length) : InsN (fun b => B ≤ b ∧ v.ownBlock = some b) w v l := by
  rcases own_shape h with ⟨hv, hn⟩ | ⟨g, cap, hv, hb, hg⟩
  · omega
  · subst hv
    have hcap : l.length ≤ cap := by
      rcases h.2 with ⟨e, _⟩ | ⟨_, _, _, e, _, _, hcp, _⟩
      · cases e
      · injection e with _ _ e; omega
    exact ⟨_, _, rfl, hcap, hl, fun _ => ⟨g, 0, rfl, hg, ⟨hb, rfl⟩, fun i hi => own_cell h _ _ (by rw [Nat.zero_add]; exact nth_at hi)⟩⟩

/-- Blocks behind R, but for the files' and for X. -/
abbrev NX (R X : Nat) (uf : Value) (b : Nat) : Prop := R < b ∧ uf.ownBlock ≠ some b ∧ b ≠ X
/-- A disk that is drawn, in the box X; the answer's box lies still as it was laid. -/
structure Ds (B : Nat) (W : World) (blk : Nat) (w : World) (p X : Nat) (uf : Value) (D : Dk.D) (v1 v2 : Value) : Prop where
  dr : Dr B W blk w p
  hX : w.heap[X]? = some (.cells #[v1, uf, .bool D.has, v2] 31 (0, 0))
  hR : w.heap[W.heap.size]? = some (.cells #[.slice none 0 0, .slice none 0 0, .bool false, .slice none 0 0] 31 (0, 0))
  lX : W.heap.size < X
  p1 : Pks (NX W.heap.size X uf) w v1 D.db
  r1 : RoomV v1 D.db.length
  pf : InsN (fun b => W.heap.size < b ∧ b ≠ X) w uf D.fl
  own : D.fl.length = 6 → OwI (W.heap.size + 1) w uf D.fl
  p2 : Pks (NX W.heap.size X uf) w v2 D.jr
  r2 : RoomV v2 D.jr.length
section
variable {B : Nat} {W w w' w6 : World} {blk p p' X : Nat} {uf v1 v2 q1 q2 : Value} {D D' : Dk.D}
theorem Ds.kpd (h : Ds B W blk w p X uf D v1 v2) (hk : Kp w.heap.size blk w w') (hd : Dr B W blk w' p') : Ds B W blk w' p' X uf D v1 v2 := by
  have hlt := h.dr.lt
  have hlX := h.lX
  refine ⟨hd, ?_, ?_, h.lX, h.p1.keep hk.size (fun k hk1 hN => hk.block k hk1 (by have := hN.1; omega)), h.r1, h.pf.keep hk.size (fun k hk1 hN => hk.block k hk1 (by have := hN.1; omega)), fun hl => own_keepS (h.own hl) (fun g _ _ hb hg => hk.block g (heapLt hg) (by omega)), h.p2.keep hk.size (fun k hk1 hN => hk.block k hk1 (by have := hN.1; omega)), h.r2⟩
  · rw [hk.block X (heapLt h.hX) (by omega)]; exact h.hX
  · rw [hk.block _ (heapLt h.hR) (by omega)]; exact h.hR
theorem Ds.keep (h : Ds B W blk w p X uf D v1 v2) (hk : Kp w.heap.size blk w w') (hr : Rd B w' blk p') : Ds B W blk w' p' X uf D v1 v2 := h.kpd hk (h.dr.keep hk hr)
theorem Ds.later (h : Ds B W blk w p X uf D v1 v2) (b : Below w.heap.size w w') : Ds B W blk w' p X uf D v1 v2 := h.kpd (Kp.of_below b) (h.dr.later b)
theorem Ds.drd (h : Ds B W blk w p X uf D v1 v2) (hl : D.fl.length = 6) : DRd (NX W.heap.size X uf) (W.heap.size + 1) w v1 uf v2 D.db D.fl D.jr := ⟨h.p1, h.r1, h.own hl, h.p2, h.r2⟩
theorem Ds.cells (h : Ds B W blk w p X uf D v1 v2) : w.cell? ⟨X, 0, none⟩ = some v1 ∧ w.cell? ⟨X, 1, none⟩ = some uf ∧ w.cell? ⟨X, 2, none⟩ = some (.bool D.has) ∧ w.cell? ⟨X, 3, none⟩ = some v2 :=
  ⟨cellOf h.hX 0, cellOf h.hX 1, cellOf h.hX 2, cellOf h.hX 3⟩
theorem Ds.fr (h : Ds B W blk w p X uf D v1 v2) : w.frozen? ⟨X, 0, none⟩ = false ∧ w.frozen? ⟨X, 1, none⟩ = false ∧ w.frozen? ⟨X, 2, none⟩ = false ∧ w.frozen? ⟨X, 3, none⟩ = false :=
  ⟨frozenOf h.hX 0, frozenOf h.hX 1, frozenOf h.hX 2, frozenOf h.hX 3⟩
theorem Ds.cellsR (h : Ds B W blk w p X uf D v1 v2) : (w.cell? ⟨W.heap.size, 0, none⟩ = some (.slice none 0 0) ∧ w.cell? ⟨W.heap.size, 1, none⟩ = some (.slice none 0 0) ∧ w.cell? ⟨W.heap.size, 2, none⟩ = some (.bool false) ∧ w.cell? ⟨W.heap.size, 3, none⟩ = some (.slice none 0 0)) ∧ w.frozen? ⟨W.heap.size, 0, none⟩ = false ∧ w.frozen? ⟨W.heap.size, 1, none⟩ = false ∧ w.frozen? ⟨W.heap.size, 2, none⟩ = false ∧ w.frozen? ⟨W.heap.size, 3, none⟩ = false :=
  ⟨⟨cellOf h.hR 0, cellOf h.hR 1, cellOf h.hR 2, cellOf h.hR 3⟩, frozenOf h.hR 0, frozenOf h.hR 1, frozenOf h.hR 2, frozenOf h.hR 3⟩
theorem Dr.stays {N : Nat → Prop} (h : Dr B W blk w p) (st : Stays N w w') (hN : ∀ k, N k → W.heap.size ≤ k) : Dr B W blk w' p := by
  have hlt := h.lt
  have hlB := h.lB
  have hsz := h.kp.size
  have old : ∀ k, k < W.heap.size → w'.heap[k]? = w.heap[k]? := fun k hk => st.block k (by omega) (fun e => by have := hN k e; omega)
  exact ⟨h.rd.keep (fun k hk _ => old k (by omega)) (old blk hlt), h.lB, h.lt, ⟨st.os.trans h.kp.os, st.tape.trans h.kp.tape, st.output.trans h.kp.output, Nat.le_trans hsz st.size, fun k hk hne => (old k hk).trans (h.kp.block k hk hne)⟩⟩
theorem DRd.set4 {N : Nat → Prop} {Bf R : Nat} {u1 u2 r0 r1 r2 r3 : Value} {has : Bool} {db jr : List Ix.Pg} {fl : List Int} {vf : Value}
    (hR : w6.heap[R]? = some (.cells #[r0, r1, r2, r3] 31 (0, 0))) (hN : ∀ b, N b → b ≠ R) (hA : DRd N Bf w6 u1 vf u2 db fl jr)
    (hw : w' = (((w6.setCell ⟨R, 0, none⟩ u1).setCell ⟨R, 1, none⟩ vf).setCell ⟨R, 2, none⟩ (.bool has)).setCell ⟨R, 3, none⟩ u2) :
    w'.heap[R]? = some (.cells #[u1, vf, .bool has, u2] 31 (0, 0)) ∧ DRd N Bf w' u1 vf u2 db fl jr ∧ (∀ g, g ≠ R → w'.heap[g]? = w6.heap[g]?) := by
  have h1 := heapSet (o := 0) (v := u1) hR
  have h2 := heapSet (o := 1) (v := vf) h1
  have h3 := heapSet (o := 2) (v := .bool has) h2
  refine ⟨by rw [hw, heapSet h3]; rfl, ?_, fun g hg => by rw [hw, Below.heap_setCell _ _ _ _ hg, Below.heap_setCell _ _ _ _ hg, Below.heap_setCell _ _ _ _ hg, Below.heap_setCell _ _ _ _ hg]⟩
  rw [hw]
  exact (((hA.setD hN hR).setD hN h1).setD hN h2).setD hN h3
/-- The steps' work is stored into the disk's box. -/
theorem Ds.store (h : Ds B W blk w p X uf D v1 v2) (hl : D.fl.length = 6) (hA : DRd (NX W.heap.size X uf) (W.heap.size + 1) w6 q1 uf q2 D'.db D'.fl D'.jr) (hl' : D'.fl.length = 6) (st : Stays (fun x => uf.ownBlock = some x) w w6)
    (hw : w' = (((w6.setCell ⟨X, 0, none⟩ q1).setCell ⟨X, 1, none⟩ uf).setCell ⟨X, 2, none⟩ (.bool D'.has)).setCell ⟨X, 3, none⟩ q2) : Ds B W blk w' p X uf D' q1 q2 := by
  have hO := h.own hl
  have hX6 := (st.block X (heapLt h.hX) (own_ne hO h.hX (by decide))).trans h.hX
  have hR6 := (st.block _ (heapLt h.hR) (own_ne hO h.hR (by decide))).trans h.hR
  have hd6 := h.dr.stays st (fun k hk => by have := (own_row hO k hk).1; omega)
  have hlX := h.lX
  obtain ⟨hX', hans, hfar⟩ := DRd.set4 (has := D'.has) hX6 (fun b hb => hb.2.2) hA hw
  refine ⟨?_, hX', (hfar _ (by omega)).trans hR6, hlX, hans.p1, hans.r1, ?_, fun _ => hans.pf, hans.p2, hans.r2⟩
  · rw [hw]
    exact (((hd6.set (by omega)).set (by omega)).set (by omega)).set (by omega)
  · exact (hans.pf.insN (by omega) (by omega)).weak (fun b hb => ⟨by have := hb.1; omega, fun e => own_ne hans.pf hX' (by decide) (by rw [← e]; exact hb.2)⟩)
/-- A disk as it is drawn. -/
structure DOut (R : Nat) (w : World) (D : Dk.D) (v1 uf v2 : Value) : Prop where
  p1 : Pks (fun b => R < b ∧ uf.ownBlock ≠ some b) w v1 D.db
  r1 : RoomV v1 D.db.length
  pf : InsN (fun b => R < b) w uf D.fl
  own : D.fl.length = 6 → OwI (R + 1) w uf D.fl
  p2 : Pks (fun b => R < b ∧ uf.ownBlock ≠ some b) w v2 D.jr
  r2 : RoomV v2 D.jr.length
theorem Pks.set4 {N : Nat → Prop} {R : Nat} {v : Value} {l : List Ix.Pg} (h : Pks N w v l) (hs : w.heap.size ≤ w'.heap.size) (hfar : ∀ g, g ≠ R → w'.heap[g]? = w.heap[g]?) (hN : ∀ b, N b → b ≠ R) : Pks N w' v l :=
  h.keep hs (fun k _ hk => hfar k (hN k hk))
/-- The store into the answer's box. -/
theorem Ds.fin (h : Ds B W blk w p X uf D v1 v2)
    (hw : w' = (((w.setCell ⟨W.heap.size, 0, none⟩ v1).setCell ⟨W.heap.size, 1, none⟩ uf).setCell ⟨W.heap.size, 2, none⟩ (.bool D.has)).setCell ⟨W.heap.size, 3, none⟩ v2) :
    (w'.cell? ⟨W.heap.size, 0, none⟩ = some v1 ∧ w'.cell? ⟨W.heap.size, 1, none⟩ = some uf ∧ w'.cell? ⟨W.heap.size, 2, none⟩ = some (.bool D.has) ∧ w'.cell? ⟨W.heap.size, 3, none⟩ = some v2) ∧ DOut W.heap.size w' D v1 uf v2 ∧ Rd B w' blk p ∧ Kp W.heap.size blk W w' ∧ (∀ g, g ≠ W.heap.size → w'.heap[g]? = w.heap[g]?) ∧ w.heap.size ≤ w'.heap.size := by
  have h1 := heapSet (o := 0) (v := v1) h.hR
  have h2 := heapSet (o := 1) (v := uf) h1
  have h3 := heapSet (o := 2) (v := .bool D.has) h2
  have h' : w'.heap[W.heap.size]? = some (.cells #[v1, uf, .bool D.has, v2] 31 (0, 0)) := by rw [hw, heapSet h3]; rfl
  have hfar : ∀ g, g ≠ W.heap.size → w'.heap[g]? = w.heap[g]? := fun g hg => by rw [hw, Below.heap_setCell _ _ _ _ hg, Below.heap_setCell _ _ _ _ hg, Below.heap_setCell _ _ _ _ hg, Below.heap_setCell _ _ _ _ hg]
  have hs : w.heap.size ≤ w'.heap.size := by rw [hw]; simp [World.setCell]
  have hd : Dr B W blk w' p := by
    rw [hw]
    exact (((h.dr.set (Nat.le_refl _)).set (Nat.le_refl _)).set (Nat.le_refl _)).set (Nat.le_refl _)
  refine ⟨⟨cellOf h' 0, cellOf h' 1, cellOf h' 2, cellOf h' 3⟩, ⟨?_, h.r1, ?_, fun hl => own_keepS (h.own hl) (fun g _ _ hb _ => hfar g (by omega)), ?_, h.r2⟩, hd.rd, hd.kp, hfar, hs⟩
  · exact (h.p1.set4 hs hfar (fun b hb => by have := hb.1; omega)).weak (fun b hb => ⟨hb.1, hb.2.1⟩)
  · exact (h.pf.keep hs (fun k _ hk => hfar k (by have := hk.1; omega))).weak (fun b hb => hb.1)
  · exact (h.p2.set4 hs hfar (fun b hb => by have := hb.1; omega)).weak (fun b hb => ⟨hb.1, hb.2.1⟩)
theorem Dk.till_fl (d : Dk.D) (l : List Dk.S) (cut : Int) (torn : Bool) : (Dk.till d l cut torn).fl.length = d.fl.length := by
  unfold Dk.till
  split
  · unfold Dk.D.torn
    split
    · show (List.set _ _ _).length = _
      rw [List.length_set, Dk.run_fl]
    · split
      · exact Dk.run_fl _ _
      · exact Dk.run_fl _ _
  · exact Dk.run_fl _ _
theorem smallP.ofOk {ps : List Ix.Pg} (h : Ix.pkgsOk ps = true) : smallP ps := by
  have h1 := Ix.pkgs_len h
  have h2 := (Ix.pkgsOk_pair.1 h).1
  exact ⟨by omega, fun q hq => by obtain ⟨h3, h4⟩ := Ix.pOk_lens (h2 q hq); exact ⟨by omega, by omega⟩⟩
theorem Dk.steps_can' {fl : List Int} {ps : List Ix.Pg} (h : Ix.pkgsOk ps = true) : ∀ s ∈ Dk.steps fl ps, Dk.canDo 6 s ∧ smallP s.ps := fun s hs => by
  refine ⟨Dk.steps_can (by have := Ix.pkgs_len h; omega) s hs, ?_⟩
  rcases Dk.steps_mem hs with (rfl | rfl | rfl) | ⟨i, hi, rfl, _⟩
  · exact smallP.ofOk h
  · exact smallP.ofOk h
  · exact ⟨Nat.zero_le _, fun _ h => by cases h⟩
  · exact ⟨Nat.zero_le _, fun _ h => by cases h⟩
end
end Go.Proofs.YtkhanndmbpemfaaGreatDoor
