import Derived.Test.YtkhanndmbpemfaaGreatDoorDkDrawW
import Derived.Test.YtkhanndmbpemfaaGreatDoorMix22
/- The state of a function that goes on with a disk that was drawn: the reader, the disk's box, its rows. -/
namespace Go.Proofs.YtkhanndmbpemfaaGreatDoor
open Go.RowKit

theorem InsN.bound {N : Nat → Prop} {w : World} {v : Value} {l : List Int} (h : InsN N w v l) : InsN (fun b => N b ∧ b < w.heap.size) w v l := by
  obtain ⟨a, cap, hv, hc, hl, hr⟩ := h
  refine ⟨a, cap, hv, hc, hl, fun hp => ?_⟩
  obtain ⟨b, off, ha, hbs, hN, hcc⟩ := hr hp
  exact ⟨b, off, ha, hbs, ⟨hN, hbs⟩, hcc⟩
abbrev NY (R X : Nat) (uf : Value) (b : Nat) : Prop := R ≤ b ∧ uf.ownBlock ≠ some b ∧ b ≠ X
/-- A disk in the box X. -/
structure Dq (B : Nat) (W : World) (blk : Nat) (w : World) (p X : Nat) (uf : Value) (D : Dk.D) (v1 v2 : Value) : Prop where
  dr : Dr B W blk w p
  hX : w.heap[X]? = some (.cells #[v1, uf, .bool D.has, v2] 31 (0, 0))
  lX : W.heap.size ≤ X
  p1 : Pks (NY W.heap.size X uf) w v1 D.db
  r1 : RoomV v1 D.db.length
  pf : InsN (fun b => W.heap.size ≤ b ∧ b ≠ X) w uf D.fl
  own : D.fl.length = 6 → OwI W.heap.size w uf D.fl
  p2 : Pks (NY W.heap.size X uf) w v2 D.jr
  r2 : RoomV v2 D.jr.length
section
variable {B : Nat} {W w w' w6 : World} {blk p p' X : Nat} {uf v1 v2 q1 q2 : Value} {D D' : Dk.D}
theorem Dq.kpd (h : Dq B W blk w p X uf D v1 v2) (hk : Kp w.heap.size blk w w') (hd : Dr B W blk w' p') : Dq B W blk w' p' X uf D v1 v2 := by
  have hlt := h.dr.lt
  have hlX := h.lX
  refine ⟨hd, ?_, h.lX, h.p1.keep hk.size (fun k hk1 hN => hk.block k hk1 (by have := hN.1; omega)), h.r1, h.pf.keep hk.size (fun k hk1 hN => hk.block k hk1 (by have := hN.1; omega)), fun hl => own_keepS (h.own hl) (fun g _ _ hb hg => hk.block g (heapLt hg) (by omega)), h.p2.keep hk.size (fun k hk1 hN => hk.block k hk1 (by have := hN.1; omega)), h.r2⟩
  rw [hk.block X (heapLt h.hX) (by omega)]; exact h.hX
theorem Dq.keep (h : Dq B W blk w p X uf D v1 v2) (hk : Kp w.heap.size blk w w') (hr : Rd B w' blk p') : Dq B W blk w' p' X uf D v1 v2 := h.kpd hk (h.dr.keep hk hr)
theorem Dq.later (h : Dq B W blk w p X uf D v1 v2) (b : Below w.heap.size w w') : Dq B W blk w' p X uf D v1 v2 := h.kpd (Kp.of_below b) (h.dr.later b)
theorem Dq.drd (h : Dq B W blk w p X uf D v1 v2) (hl : D.fl.length = 6) : DRd (NY W.heap.size X uf) W.heap.size w v1 uf v2 D.db D.fl D.jr := ⟨h.p1, h.r1, h.own hl, h.p2, h.r2⟩
theorem Dq.cells (h : Dq B W blk w p X uf D v1 v2) : w.cell? ⟨X, 0, none⟩ = some v1 ∧ w.cell? ⟨X, 1, none⟩ = some uf ∧ w.cell? ⟨X, 2, none⟩ = some (.bool D.has) ∧ w.cell? ⟨X, 3, none⟩ = some v2 :=
  ⟨cellOf h.hX 0, cellOf h.hX 1, cellOf h.hX 2, cellOf h.hX 3⟩
theorem Dq.old {R : Nat} {ob : Obj} (h : Dq B W blk w p X uf D v1 v2) (hR : W.heap[R]? = some ob) (hne : R ≠ blk) : w.heap[R]? = some ob := (h.dr.kp.block R (heapLt hR) hne).trans hR
theorem Dq.uf6 (h : Dq B W blk w p X uf D v1 v2) (hl : D.fl.length = 6) : ∃ g cf, uf = .slice (some ⟨g, 0, none⟩) 6 cf := by
  obtain ⟨g, cf, e, _, _⟩ := (h.own hl).form (by omega)
  rw [hl] at e
  exact ⟨g, cf, e⟩
theorem Dq.sz6 (h : Dq B W blk w p X uf D v1 v2) (hl : D.fl.length = 6) : ∀ b, w.heap.size ≤ b → NY W.heap.size X uf b := fun b hb =>
  ⟨by have := h.dr.size; omega, fun e => by have := (h.own hl).lt b e; omega, by have := heapLt h.hX; omega⟩
theorem Dq.store (h : Dq B W blk w p X uf D v1 v2) (hl : D.fl.length = 6) (hA : DRd (NY W.heap.size X uf) W.heap.size w6 q1 uf q2 D'.db D'.fl D'.jr) (hl' : D'.fl.length = 6) (st : Stays (fun x => uf.ownBlock = some x) w w6)
    (hw : w' = (((w6.setCell ⟨X, 0, none⟩ q1).setCell ⟨X, 1, none⟩ uf).setCell ⟨X, 2, none⟩ (.bool D'.has)).setCell ⟨X, 3, none⟩ q2) : Dq B W blk w' p X uf D' q1 q2 := by
  have hO := h.own hl
  have hX6 := (st.block X (heapLt h.hX) (own_ne hO h.hX (by decide))).trans h.hX
  have hd6 := h.dr.stays st (fun k hk => by have := (own_row hO k hk).1; omega)
  have hlX := h.lX
  obtain ⟨hX', hans, hfar⟩ := DRd.set4 (has := D'.has) hX6 (fun b hb => hb.2.2) hA hw
  refine ⟨?_, hX', hlX, hans.p1, hans.r1, ?_, fun _ => hans.pf, hans.p2, hans.r2⟩
  · rw [hw]
    exact (((hd6.set (by omega)).set (by omega)).set (by omega)).set (by omega)
  · exact (hans.pf.insN (by omega) (by omega)).weak (fun b hb => ⟨by have := hb.1; omega, fun e => own_ne hans.pf hX' (by decide) (by rw [← e]; exact hb.2)⟩)
/-- A disk that was drawn is laid into a box. -/
theorem Dq.of (hd : Dr B W blk w p) (h : DOut W.heap.size w D v1 uf v2) : Dq B W blk (w.alloc (.cells #[v1, uf, .bool D.has, v2] 31)) p w.heap.size uf D v1 v2 := by
  have b := below1 w (.cells #[v1, uf, .bool D.has, v2] 31)
  exact ⟨hd.later b, heap_alloc_new _ _, hd.size, (h.p1.bound.later b).weak (fun x hx => ⟨by have := hx.1.1; omega, hx.1.2, by have := hx.2; omega⟩), h.r1, (h.pf.bound.later b).weak (fun x hx => ⟨by have := hx.1; omega, by have := hx.2; omega⟩), fun hl => own_base' (own_later (h.own hl) b) (Nat.le_succ _), (h.p2.bound.later b).weak (fun x hx => ⟨by have := hx.1.1; omega, hx.1.2, by have := hx.2; omega⟩), h.r2⟩
/-- A disk that can be read. -/
structure DIn (w : World) (D : Dk.D) (v1 uf v2 : Value) : Prop where
  p1 : Pks (fun _ => True) w v1 D.db
  r1 : RoomV v1 D.db.length
  pf : Ins w uf D.fl
  p2 : Pks (fun _ => True) w v2 D.jr
  r2 : RoomV v2 D.jr.length
theorem DIn.later (h : DIn w D v1 uf v2) (b : Below w.heap.size w w') : DIn w' D v1 uf v2 := ⟨h.p1.later b, h.r1, h.pf.later b, h.p2.later b, h.r2⟩
/-- The disk, read in a world where all but an elder block stay. -/
theorem Dq.reads {R : Nat} (h : Dq B W blk w p X uf D v1 v2) (hf : ∀ k, k ≠ R → w'.heap[k]? = w.heap[k]?) (hs : w.heap.size ≤ w'.heap.size) (hR : R < W.heap.size) : DIn w' D v1 uf v2 :=
  ⟨(h.p1.keep hs (fun k _ hk => hf k (by have := hk.1; omega))).weak (fun _ _ => trivial), h.r1, (h.pf.keep hs (fun k _ hk => hf k (by have := hk.1; omega))).ins, (h.p2.keep hs (fun k _ hk => hf k (by have := hk.1; omega))).weak (fun _ _ => trivial), h.r2⟩
theorem Dq.below {w0 : World} (h : Dq B W blk w p X uf D v1 v2) (hb : Below w0.heap.size w0 W) (hblk : w0.heap.size ≤ blk) : Below w0.heap.size w0 w := hb.trans ((h.dr.kp.mono hb.size).below hblk)
end
end Go.Proofs.YtkhanndmbpemfaaGreatDoor

/- spec.l71Step: a step that is drawn. -/
namespace Go.Proofs.YtkhanndmbpemfaaGreatDoor
open Go.RowKit

attribute [local go_sem ↓] Go.wp_at_zero Go.wp_at_succ

/-- A step that is drawn, in the box X; the answer's box lies still as it was laid. -/
structure Ss (B : Nat) (W : World) (blk : Nat) (w : World) (p X : Nat) (k t x : Int) (pv : Value) : Prop where
  dr : Dr B W blk w p
  hX : w.heap[X]? = some (.cells #[.int .i64 k, .int .i64 t, .int .i64 x, pv] 47 (0, 0))
  hR : w.heap[W.heap.size]? = some (.cells #[.int .i64 0, .int .i64 0, .int .i64 0, .slice none 0 0] 47 (0, 0))
  lX : W.heap.size < X
section
variable {B : Nat} {W w w' : World} {blk p p' X : Nat} {k t x y : Int} {pv qv : Value}
theorem Ss.keep (h : Ss B W blk w p X k t x pv) (hk : Kp w.heap.size blk w w') (hr : Rd B w' blk p') : Ss B W blk w' p' X k t x pv := by
  have hlt := h.dr.lt
  have hlX := h.lX
  refine ⟨h.dr.keep hk hr, ?_, ?_, h.lX⟩
  · rw [hk.block X (heapLt h.hX) (by omega)]; exact h.hX
  · rw [hk.block _ (heapLt h.hR) (by omega)]; exact h.hR
theorem Ss.cells (h : Ss B W blk w p X k t x pv) : (w.cell? ⟨X, 0, none⟩ = some (.int .i64 k) ∧ w.cell? ⟨X, 1, none⟩ = some (.int .i64 t) ∧ w.cell? ⟨X, 2, none⟩ = some (.int .i64 x) ∧ w.cell? ⟨X, 3, none⟩ = some pv) ∧ w.frozen? ⟨X, 0, none⟩ = false ∧ w.frozen? ⟨X, 1, none⟩ = false ∧ w.frozen? ⟨X, 2, none⟩ = false ∧ w.frozen? ⟨X, 3, none⟩ = false :=
  ⟨⟨cellOf h.hX 0, cellOf h.hX 1, cellOf h.hX 2, cellOf h.hX 3⟩, frozenOf h.hX 0, frozenOf h.hX 1, frozenOf h.hX 2, frozenOf h.hX 3⟩
theorem Ss.cellsR (h : Ss B W blk w p X k t x pv) : (w.cell? ⟨W.heap.size, 0, none⟩ = some (.int .i64 0) ∧ w.cell? ⟨W.heap.size, 1, none⟩ = some (.int .i64 0) ∧ w.cell? ⟨W.heap.size, 2, none⟩ = some (.int .i64 0) ∧ w.cell? ⟨W.heap.size, 3, none⟩ = some (.slice none 0 0)) ∧ w.frozen? ⟨W.heap.size, 0, none⟩ = false ∧ w.frozen? ⟨W.heap.size, 1, none⟩ = false ∧ w.frozen? ⟨W.heap.size, 2, none⟩ = false ∧ w.frozen? ⟨W.heap.size, 3, none⟩ = false :=
  ⟨⟨cellOf h.hR 0, cellOf h.hR 1, cellOf h.hR 2, cellOf h.hR 3⟩, frozenOf h.hR 0, frozenOf h.hR 1, frozenOf h.hR 2, frozenOf h.hR 3⟩
theorem Ss.neX (h : Ss B W blk w p X k t x pv) : W.heap.size ≠ X := by have := h.lX; omega
theorem Ss.set0 (h : Ss B W blk w p X k t x pv) : Ss B W blk (w.setCell ⟨X, 0, none⟩ (.int .i64 y)) p X y t x pv := ⟨h.dr.set (Nat.le_of_lt h.lX), heapSet h.hX, (Below.heap_setCell _ _ _ _ h.neX).trans h.hR, h.lX⟩
theorem Ss.set1 (h : Ss B W blk w p X k t x pv) : Ss B W blk (w.setCell ⟨X, 1, none⟩ (.int .i64 y)) p X k y x pv := ⟨h.dr.set (Nat.le_of_lt h.lX), heapSet h.hX, (Below.heap_setCell _ _ _ _ h.neX).trans h.hR, h.lX⟩
theorem Ss.set2 (h : Ss B W blk w p X k t x pv) : Ss B W blk (w.setCell ⟨X, 2, none⟩ (.int .i64 y)) p X k t y pv := ⟨h.dr.set (Nat.le_of_lt h.lX), heapSet h.hX, (Below.heap_setCell _ _ _ _ h.neX).trans h.hR, h.lX⟩
theorem Ss.set3 (h : Ss B W blk w p X k t x pv) : Ss B W blk (w.setCell ⟨X, 3, none⟩ qv) p X k t x qv := ⟨h.dr.set (Nat.le_of_lt h.lX), heapSet h.hX, (Below.heap_setCell _ _ _ _ h.neX).trans h.hR, h.lX⟩
theorem Ss.fin (h : Ss B W blk w p X k t x pv)
    (hw : w' = (((w.setCell ⟨W.heap.size, 0, none⟩ (.int .i64 k)).setCell ⟨W.heap.size, 1, none⟩ (.int .i64 t)).setCell ⟨W.heap.size, 2, none⟩ (.int .i64 x)).setCell ⟨W.heap.size, 3, none⟩ pv) :
    (w'.cell? ⟨W.heap.size, 0, none⟩ = some (.int .i64 k) ∧ w'.cell? ⟨W.heap.size, 1, none⟩ = some (.int .i64 t) ∧ w'.cell? ⟨W.heap.size, 2, none⟩ = some (.int .i64 x) ∧ w'.cell? ⟨W.heap.size, 3, none⟩ = some pv) ∧ Rd B w' blk p ∧ Kp W.heap.size blk W w' := by
  have h1 := heapSet (o := 0) (v := .int .i64 k) h.hR
  have h2 := heapSet (o := 1) (v := .int .i64 t) h1
  have h3 := heapSet (o := 2) (v := .int .i64 x) h2
  have h' : w'.heap[W.heap.size]? = some (.cells #[.int .i64 k, .int .i64 t, .int .i64 x, pv] 47 (0, 0)) := by rw [hw, heapSet h3]; rfl
  have hd : Dr B W blk w' p := by
    rw [hw]
    exact (((h.dr.set (Nat.le_refl _)).set (Nat.le_refl _)).set (Nat.le_refl _)).set (Nat.le_refl _)
  exact ⟨⟨cellOf h' 0, cellOf h' 1, cellOf h' 2, cellOf h' 3⟩, hd.rd, hd.kp⟩
end
theorem wrap_st {v : Int} (h0 : -100 ≤ v) (h1 : v ≤ 100) : IntKind.i64.wrap v = v := by simp [IntKind.wrap, IntKind.bits, IntKind.signed]; omega

set_option linter.unusedSimpArgs false in
set_option maxHeartbeats 8000000 in
set_option maxRecDepth 100000 in
theorem l71Step_any {B : Nat} (w : World) (blk p : Nat) (pa : Option Addr) (pc : Nat) (ps : List Ix.Pg) (h : Rd B w blk p) (hB : B ≤ w.heap.size) (hp : p ≤ 600000000) :
    Calls Tryz.prog 48 #[.pointer (some ⟨blk, 0, none⟩), .slice pa ps.length pc] w fun e w' => ∃ (s : Dk.S) (pv : Value) (p' : Nat), e = .returned (stV s.k s.p s.x pv) ∧ ((pv = .slice none 0 0 ∧ s.ps = []) ∨ (pv = .slice pa ps.length pc ∧ s.ps = ps)) ∧ p' ≤ p + 10 ∧ Rd B w' blk p' ∧ Kp w.heap.size blk w w' := by
  have b0 := below1 w (.cells #[.int .i64 0, .int .i64 0, .int .i64 0, .slice none 0 0] 47)
  have HR := hide (heap_alloc_new w (.cells #[.int .i64 0, .int .i64 0, .int .i64 0, .slice none 0 0] 47))
  have HD := hide ((Dr.start h hB).later b0)
  have hlt := h.lt
  clear h b0
  go_enter Tryz.func48, Tryz.ntmps48
  go_wp2_with fail
  refine (pick_any _ blk p 4 (unhide HD).rd (by omega) (by omega) (by omega)).mono ?_
  generalize w.alloc _ = W0 at *
  rintro e w1 ⟨v1, rfl, v10, v11, hr1, hk1⟩
  replace HR := hide ((unhide HD).box hk1 (Nat.le_refl _) (unhide HR))
  replace HD := hide ((unhide HD).keep hk1 hr1)
  clear hr1 hk1
  have hc4 : v1 = 0 ∨ v1 = 1 ∨ v1 = 2 ∨ v1 = 3 := by omega
  rcases hc4 with rfl | rfl | rfl | rfl
  · have bX := below1 w1 (.cells #[.int .i64 1, .int .i64 0, .int .i64 0, .slice none 0 0] 47)
    have HI : Hid (Ss B w blk (w1.alloc (.cells #[.int .i64 1, .int .i64 0, .int .i64 0, .slice none 0 0] 47)) (p + 1) w1.heap.size 1 0 0 (.slice none 0 0)) := ⟨(unhide HD).later bX, heap_alloc_new _ _, (bX.block _ (heapLt (unhide HR))).trans (unhide HR), heapLt (unhide HR)⟩
    clear bX HD HR
    go_upto_region 8 with fail
    generalize w1.heap.size = X at *
    generalize w1.alloc _ = w2 at *
    obtain ⟨⟨x0, x1, x2, x3⟩, y0, y1, y2, y3⟩ := (unhide HI).cells
    go_upto_region 9 with fail
    clear x0 x1 x2 x3 y0 y1 y2 y3
    have HIn := hide ((unhide HI).set3 (qv := .slice pa ps.length pc))
    clear HI
    have HI := HIn
    clear HIn
    generalize World.setCell _ _ _ = W3 at *
    go_wp2_with fail
    refine (pick_any _ blk (p + 1) 24 (by exact (unhide HI).dr.rd) (by omega) (by omega) (by omega)).mono ?_
    rintro e w9 ⟨v9, rfl, v90, v91, hr, hk⟩
    replace HI := hide ((unhide HI).keep hk hr)
    clear hr hk
    by_cases h0 : v9 = 0
    · subst h0
      go_wp2_with fail
      refine (pick_any _ blk (p + 1 + 1) 6 (by exact (unhide HI).dr.rd) (by omega) (by omega) (by omega)).mono ?_
      rintro e w8 ⟨v8, rfl, v80, v81, hr, hk⟩
      replace HI := hide ((unhide HI).keep hk hr)
      clear hr hk
      obtain ⟨⟨x0, x1, x2, x3⟩, y0, y1, y2, y3⟩ := (unhide HI).cells
      go_upto_region 16 with fail
      clear x0 x1 x2 x3 y0 y1 y2 y3
      have HIn := hide ((unhide HI).set0 (y := v8))
      clear HI
      have HI := HIn
      clear HIn
      generalize World.setCell _ _ _ = W8 at *
      obtain ⟨⟨x0, x1, x2, x3⟩, y0, y1, y2, y3⟩ := (unhide HI).cells
      obtain ⟨⟨r0, r1, r2, r3⟩, f0, f1, f2, f3⟩ := (unhide HI).cellsR
      go_wp2
      obtain ⟨⟨q0, q1, q2, q3⟩, hrd, hkp⟩ := (unhide HI).fin rfl
      exact bodyPost_ret (v := stV v8 0 0 (.slice pa ps.length pc)) (by simp [results, Tryz.results48, go_sem, q0, q1, q2, q3]) rfl (by first | exact ⟨⟨v8, 0, 0, ps⟩, _, rfl, .inr ⟨rfl, rfl⟩, _, by omega, hrd, hkp⟩ | exact ⟨⟨v8, 0, 0, ps⟩, _, _, rfl, .inr ⟨rfl, rfl⟩, by omega, hrd, hkp⟩)
    have h0' : (v9 == 0) = false := by simpa using h0
    by_cases h1 : v9 = 1
    · subst h1
      go_wp2_with fail
      refine (pick_any _ blk (p + 1 + 1) 7 (by exact (unhide HI).dr.rd) (by omega) (by omega) (by omega)).mono ?_
      rintro e w8 ⟨v8, rfl, v80, v81, hr, hk⟩
      replace HI := hide ((unhide HI).keep hk hr)
      clear hr hk
      obtain ⟨⟨x0, x1, x2, x3⟩, y0, y1, y2, y3⟩ := (unhide HI).cells
      go_upto_region 16 with fail
      clear x0 x1 x2 x3 y0 y1 y2 y3
      have HIn := hide ((unhide HI).set1 (y := v8))
      clear HI
      have HI := HIn
      clear HIn
      generalize World.setCell _ _ _ = W8 at *
      obtain ⟨⟨x0, x1, x2, x3⟩, y0, y1, y2, y3⟩ := (unhide HI).cells
      obtain ⟨⟨r0, r1, r2, r3⟩, f0, f1, f2, f3⟩ := (unhide HI).cellsR
      go_wp2
      obtain ⟨⟨q0, q1, q2, q3⟩, hrd, hkp⟩ := (unhide HI).fin rfl
      exact bodyPost_ret (v := stV 1 v8 0 (.slice pa ps.length pc)) (by simp [results, Tryz.results48, go_sem, q0, q1, q2, q3]) rfl (by first | exact ⟨⟨1, v8, 0, ps⟩, _, rfl, .inr ⟨rfl, rfl⟩, _, by omega, hrd, hkp⟩ | exact ⟨⟨1, v8, 0, ps⟩, _, _, rfl, .inr ⟨rfl, rfl⟩, by omega, hrd, hkp⟩)
    have h1' : (v9 == 1) = false := by simpa using h1
    by_cases h2 : v9 = 2
    · subst h2
      go_wp2_with fail
      refine (pick_any _ blk (p + 1 + 1) 14 (by exact (unhide HI).dr.rd) (by omega) (by omega) (by omega)).mono ?_
      rintro e w8 ⟨v8, rfl, v80, v81, hr, hk⟩
      replace HI := hide ((unhide HI).keep hk hr)
      clear hr hk
      have e8 : IntKind.i64.wrap (v8 - 3) = v8 - 3 := wrap_st (by omega) (by omega)
      obtain ⟨⟨x0, x1, x2, x3⟩, y0, y1, y2, y3⟩ := (unhide HI).cells
      go_upto_region 16 with fail
      clear x0 x1 x2 x3 y0 y1 y2 y3
      have HIn := hide ((unhide HI).set2 (y := (v8 - 3)))
      clear HI
      have HI := HIn
      clear HIn
      generalize World.setCell _ _ _ = W8 at *
      obtain ⟨⟨x0, x1, x2, x3⟩, y0, y1, y2, y3⟩ := (unhide HI).cells
      obtain ⟨⟨r0, r1, r2, r3⟩, f0, f1, f2, f3⟩ := (unhide HI).cellsR
      go_wp2
      obtain ⟨⟨q0, q1, q2, q3⟩, hrd, hkp⟩ := (unhide HI).fin rfl
      exact bodyPost_ret (v := stV 1 0 (v8 - 3) (.slice pa ps.length pc)) (by simp [results, Tryz.results48, go_sem, q0, q1, q2, q3]) rfl (by first | exact ⟨⟨1, 0, (v8 - 3), ps⟩, _, rfl, .inr ⟨rfl, rfl⟩, _, by omega, hrd, hkp⟩ | exact ⟨⟨1, 0, (v8 - 3), ps⟩, _, _, rfl, .inr ⟨rfl, rfl⟩, by omega, hrd, hkp⟩)
    have h2' : (v9 == 2) = false := by simpa using h2
    clear h0 h1 h2
    obtain ⟨⟨x0, x1, x2, x3⟩, y0, y1, y2, y3⟩ := (unhide HI).cells
    obtain ⟨⟨r0, r1, r2, r3⟩, f0, f1, f2, f3⟩ := (unhide HI).cellsR
    go_wp2
    obtain ⟨⟨q0, q1, q2, q3⟩, hrd, hkp⟩ := (unhide HI).fin rfl
    exact bodyPost_ret (v := stV 1 0 0 (.slice pa ps.length pc)) (by simp [results, Tryz.results48, go_sem, q0, q1, q2, q3]) rfl (by first | exact ⟨⟨1, 0, 0, ps⟩, _, rfl, .inr ⟨rfl, rfl⟩, _, by omega, hrd, hkp⟩ | exact ⟨⟨1, 0, 0, ps⟩, _, _, rfl, .inr ⟨rfl, rfl⟩, by omega, hrd, hkp⟩)
  · have bX := below1 w1 (.cells #[.int .i64 2, .int .i64 0, .int .i64 0, .slice none 0 0] 47)
    have HI : Hid (Ss B w blk (w1.alloc (.cells #[.int .i64 2, .int .i64 0, .int .i64 0, .slice none 0 0] 47)) (p + 1) w1.heap.size 2 0 0 (.slice none 0 0)) := ⟨(unhide HD).later bX, heap_alloc_new _ _, (bX.block _ (heapLt (unhide HR))).trans (unhide HR), heapLt (unhide HR)⟩
    clear bX HD HR
    go_wp2_with fail
    generalize w1.heap.size = X at *
    generalize w1.alloc _ = w2 at *
    refine (pick_any _ blk (p + 1) 6 (by exact (unhide HI).dr.rd) (by omega) (by omega) (by omega)).mono ?_
    rintro e w3 ⟨v2, rfl, v20, v21, hr, hk⟩
    replace HI := hide ((unhide HI).keep hk hr)
    clear hr hk
    obtain ⟨⟨x0, x1, x2, x3⟩, y0, y1, y2, y3⟩ := (unhide HI).cells
    go_wp2_with fail
    clear x0 x1 x2 x3 y0 y1 y2 y3
    have HIn := hide ((unhide HI).set1 (y := v2))
    clear HI
    have HI := HIn
    clear HIn
    generalize World.setCell _ _ _ = W3 at *
    refine (pick_any _ blk (p + 1 + 1) 11 (by exact (unhide HI).dr.rd) (by omega) (by omega) (by omega)).mono ?_
    rintro e w4 ⟨v3, rfl, v30, v31, hr, hk⟩
    replace HI := hide ((unhide HI).keep hk hr)
    clear hr hk
    have e3 : IntKind.i64.wrap (v3 - 1) = v3 - 1 := wrap_st (by omega) (by omega)
    obtain ⟨⟨x0, x1, x2, x3⟩, y0, y1, y2, y3⟩ := (unhide HI).cells
    go_upto_region 9 with fail
    clear x0 x1 x2 x3 y0 y1 y2 y3
    have HIn := hide ((unhide HI).set2 (y := (v3 - 1)))
    clear HI
    have HI := HIn
    clear HIn
    generalize World.setCell _ _ _ = W4 at *
    go_wp2_with fail
    refine (pick_any _ blk (p + 1 + 1 + 1) 24 (by exact (unhide HI).dr.rd) (by omega) (by omega) (by omega)).mono ?_
    rintro e w9 ⟨v9, rfl, v90, v91, hr, hk⟩
    replace HI := hide ((unhide HI).keep hk hr)
    clear hr hk
    by_cases h0 : v9 = 0
    · subst h0
      go_wp2_with fail
      refine (pick_any _ blk (p + 1 + 1 + 1 + 1) 6 (by exact (unhide HI).dr.rd) (by omega) (by omega) (by omega)).mono ?_
      rintro e w8 ⟨v8, rfl, v80, v81, hr, hk⟩
      replace HI := hide ((unhide HI).keep hk hr)
      clear hr hk
      obtain ⟨⟨x0, x1, x2, x3⟩, y0, y1, y2, y3⟩ := (unhide HI).cells
      go_upto_region 16 with fail
      clear x0 x1 x2 x3 y0 y1 y2 y3
      have HIn := hide ((unhide HI).set0 (y := v8))
      clear HI
      have HI := HIn
      clear HIn
      generalize World.setCell _ _ _ = W8 at *
      obtain ⟨⟨x0, x1, x2, x3⟩, y0, y1, y2, y3⟩ := (unhide HI).cells
      obtain ⟨⟨r0, r1, r2, r3⟩, f0, f1, f2, f3⟩ := (unhide HI).cellsR
      go_wp2
      obtain ⟨⟨q0, q1, q2, q3⟩, hrd, hkp⟩ := (unhide HI).fin rfl
      exact bodyPost_ret (v := stV v8 v2 (v3 - 1) (.slice none 0 0)) (by simp [results, Tryz.results48, go_sem, q0, q1, q2, q3]) rfl (by first | exact ⟨⟨v8, v2, (v3 - 1), []⟩, _, rfl, .inl ⟨rfl, rfl⟩, _, by omega, hrd, hkp⟩ | exact ⟨⟨v8, v2, (v3 - 1), []⟩, _, _, rfl, .inl ⟨rfl, rfl⟩, by omega, hrd, hkp⟩)
    have h0' : (v9 == 0) = false := by simpa using h0
    by_cases h1 : v9 = 1
    · subst h1
      go_wp2_with fail
      refine (pick_any _ blk (p + 1 + 1 + 1 + 1) 7 (by exact (unhide HI).dr.rd) (by omega) (by omega) (by omega)).mono ?_
      rintro e w8 ⟨v8, rfl, v80, v81, hr, hk⟩
      replace HI := hide ((unhide HI).keep hk hr)
      clear hr hk
      obtain ⟨⟨x0, x1, x2, x3⟩, y0, y1, y2, y3⟩ := (unhide HI).cells
      go_upto_region 16 with fail
      clear x0 x1 x2 x3 y0 y1 y2 y3
      have HIn := hide ((unhide HI).set1 (y := v8))
      clear HI
      have HI := HIn
      clear HIn
      generalize World.setCell _ _ _ = W8 at *
      obtain ⟨⟨x0, x1, x2, x3⟩, y0, y1, y2, y3⟩ := (unhide HI).cells
      obtain ⟨⟨r0, r1, r2, r3⟩, f0, f1, f2, f3⟩ := (unhide HI).cellsR
      go_wp2
      obtain ⟨⟨q0, q1, q2, q3⟩, hrd, hkp⟩ := (unhide HI).fin rfl
      exact bodyPost_ret (v := stV 2 v8 (v3 - 1) (.slice none 0 0)) (by simp [results, Tryz.results48, go_sem, q0, q1, q2, q3]) rfl (by first | exact ⟨⟨2, v8, (v3 - 1), []⟩, _, rfl, .inl ⟨rfl, rfl⟩, _, by omega, hrd, hkp⟩ | exact ⟨⟨2, v8, (v3 - 1), []⟩, _, _, rfl, .inl ⟨rfl, rfl⟩, by omega, hrd, hkp⟩)
    have h1' : (v9 == 1) = false := by simpa using h1
    by_cases h2 : v9 = 2
    · subst h2
      go_wp2_with fail
      refine (pick_any _ blk (p + 1 + 1 + 1 + 1) 14 (by exact (unhide HI).dr.rd) (by omega) (by omega) (by omega)).mono ?_
      rintro e w8 ⟨v8, rfl, v80, v81, hr, hk⟩
      replace HI := hide ((unhide HI).keep hk hr)
      clear hr hk
      have e8 : IntKind.i64.wrap (v8 - 3) = v8 - 3 := wrap_st (by omega) (by omega)
      obtain ⟨⟨x0, x1, x2, x3⟩, y0, y1, y2, y3⟩ := (unhide HI).cells
      go_upto_region 16 with fail
      clear x0 x1 x2 x3 y0 y1 y2 y3
      have HIn := hide ((unhide HI).set2 (y := (v8 - 3)))
      clear HI
      have HI := HIn
      clear HIn
      generalize World.setCell _ _ _ = W8 at *
      obtain ⟨⟨x0, x1, x2, x3⟩, y0, y1, y2, y3⟩ := (unhide HI).cells
      obtain ⟨⟨r0, r1, r2, r3⟩, f0, f1, f2, f3⟩ := (unhide HI).cellsR
      go_wp2
      obtain ⟨⟨q0, q1, q2, q3⟩, hrd, hkp⟩ := (unhide HI).fin rfl
      exact bodyPost_ret (v := stV 2 v2 (v8 - 3) (.slice none 0 0)) (by simp [results, Tryz.results48, go_sem, q0, q1, q2, q3]) rfl (by first | exact ⟨⟨2, v2, (v8 - 3), []⟩, _, rfl, .inl ⟨rfl, rfl⟩, _, by omega, hrd, hkp⟩ | exact ⟨⟨2, v2, (v8 - 3), []⟩, _, _, rfl, .inl ⟨rfl, rfl⟩, by omega, hrd, hkp⟩)
    have h2' : (v9 == 2) = false := by simpa using h2
    clear h0 h1 h2
    obtain ⟨⟨x0, x1, x2, x3⟩, y0, y1, y2, y3⟩ := (unhide HI).cells
    obtain ⟨⟨r0, r1, r2, r3⟩, f0, f1, f2, f3⟩ := (unhide HI).cellsR
    go_wp2
    obtain ⟨⟨q0, q1, q2, q3⟩, hrd, hkp⟩ := (unhide HI).fin rfl
    exact bodyPost_ret (v := stV 2 v2 (v3 - 1) (.slice none 0 0)) (by simp [results, Tryz.results48, go_sem, q0, q1, q2, q3]) rfl (by first | exact ⟨⟨2, v2, (v3 - 1), []⟩, _, rfl, .inl ⟨rfl, rfl⟩, _, by omega, hrd, hkp⟩ | exact ⟨⟨2, v2, (v3 - 1), []⟩, _, _, rfl, .inl ⟨rfl, rfl⟩, by omega, hrd, hkp⟩)
  · have bX := below1 w1 (.cells #[.int .i64 3, .int .i64 0, .int .i64 0, .slice none 0 0] 47)
    have HI : Hid (Ss B w blk (w1.alloc (.cells #[.int .i64 3, .int .i64 0, .int .i64 0, .slice none 0 0] 47)) (p + 1) w1.heap.size 3 0 0 (.slice none 0 0)) := ⟨(unhide HD).later bX, heap_alloc_new _ _, (bX.block _ (heapLt (unhide HR))).trans (unhide HR), heapLt (unhide HR)⟩
    clear bX HD HR
    go_upto_region 8 with fail
    generalize w1.heap.size = X at *
    generalize w1.alloc _ = w2 at *
    obtain ⟨⟨x0, x1, x2, x3⟩, y0, y1, y2, y3⟩ := (unhide HI).cells
    go_upto_region 9 with fail
    clear x0 x1 x2 x3 y0 y1 y2 y3
    have HIn := hide ((unhide HI).set3 (qv := .slice pa ps.length pc))
    clear HI
    have HI := HIn
    clear HIn
    generalize World.setCell _ _ _ = W3 at *
    go_wp2_with fail
    refine (pick_any _ blk (p + 1) 24 (by exact (unhide HI).dr.rd) (by omega) (by omega) (by omega)).mono ?_
    rintro e w9 ⟨v9, rfl, v90, v91, hr, hk⟩
    replace HI := hide ((unhide HI).keep hk hr)
    clear hr hk
    by_cases h0 : v9 = 0
    · subst h0
      go_wp2_with fail
      refine (pick_any _ blk (p + 1 + 1) 6 (by exact (unhide HI).dr.rd) (by omega) (by omega) (by omega)).mono ?_
      rintro e w8 ⟨v8, rfl, v80, v81, hr, hk⟩
      replace HI := hide ((unhide HI).keep hk hr)
      clear hr hk
      obtain ⟨⟨x0, x1, x2, x3⟩, y0, y1, y2, y3⟩ := (unhide HI).cells
      go_upto_region 16 with fail
      clear x0 x1 x2 x3 y0 y1 y2 y3
      have HIn := hide ((unhide HI).set0 (y := v8))
      clear HI
      have HI := HIn
      clear HIn
      generalize World.setCell _ _ _ = W8 at *
      obtain ⟨⟨x0, x1, x2, x3⟩, y0, y1, y2, y3⟩ := (unhide HI).cells
      obtain ⟨⟨r0, r1, r2, r3⟩, f0, f1, f2, f3⟩ := (unhide HI).cellsR
      go_wp2
      obtain ⟨⟨q0, q1, q2, q3⟩, hrd, hkp⟩ := (unhide HI).fin rfl
      exact bodyPost_ret (v := stV v8 0 0 (.slice pa ps.length pc)) (by simp [results, Tryz.results48, go_sem, q0, q1, q2, q3]) rfl (by first | exact ⟨⟨v8, 0, 0, ps⟩, _, rfl, .inr ⟨rfl, rfl⟩, _, by omega, hrd, hkp⟩ | exact ⟨⟨v8, 0, 0, ps⟩, _, _, rfl, .inr ⟨rfl, rfl⟩, by omega, hrd, hkp⟩)
    have h0' : (v9 == 0) = false := by simpa using h0
    by_cases h1 : v9 = 1
    · subst h1
      go_wp2_with fail
      refine (pick_any _ blk (p + 1 + 1) 7 (by exact (unhide HI).dr.rd) (by omega) (by omega) (by omega)).mono ?_
      rintro e w8 ⟨v8, rfl, v80, v81, hr, hk⟩
      replace HI := hide ((unhide HI).keep hk hr)
      clear hr hk
      obtain ⟨⟨x0, x1, x2, x3⟩, y0, y1, y2, y3⟩ := (unhide HI).cells
      go_upto_region 16 with fail
      clear x0 x1 x2 x3 y0 y1 y2 y3
      have HIn := hide ((unhide HI).set1 (y := v8))
      clear HI
      have HI := HIn
      clear HIn
      generalize World.setCell _ _ _ = W8 at *
      obtain ⟨⟨x0, x1, x2, x3⟩, y0, y1, y2, y3⟩ := (unhide HI).cells
      obtain ⟨⟨r0, r1, r2, r3⟩, f0, f1, f2, f3⟩ := (unhide HI).cellsR
      go_wp2
      obtain ⟨⟨q0, q1, q2, q3⟩, hrd, hkp⟩ := (unhide HI).fin rfl
      exact bodyPost_ret (v := stV 3 v8 0 (.slice pa ps.length pc)) (by simp [results, Tryz.results48, go_sem, q0, q1, q2, q3]) rfl (by first | exact ⟨⟨3, v8, 0, ps⟩, _, rfl, .inr ⟨rfl, rfl⟩, _, by omega, hrd, hkp⟩ | exact ⟨⟨3, v8, 0, ps⟩, _, _, rfl, .inr ⟨rfl, rfl⟩, by omega, hrd, hkp⟩)
    have h1' : (v9 == 1) = false := by simpa using h1
    by_cases h2 : v9 = 2
    · subst h2
      go_wp2_with fail
      refine (pick_any _ blk (p + 1 + 1) 14 (by exact (unhide HI).dr.rd) (by omega) (by omega) (by omega)).mono ?_
      rintro e w8 ⟨v8, rfl, v80, v81, hr, hk⟩
      replace HI := hide ((unhide HI).keep hk hr)
      clear hr hk
      have e8 : IntKind.i64.wrap (v8 - 3) = v8 - 3 := wrap_st (by omega) (by omega)
      obtain ⟨⟨x0, x1, x2, x3⟩, y0, y1, y2, y3⟩ := (unhide HI).cells
      go_upto_region 16 with fail
      clear x0 x1 x2 x3 y0 y1 y2 y3
      have HIn := hide ((unhide HI).set2 (y := (v8 - 3)))
      clear HI
      have HI := HIn
      clear HIn
      generalize World.setCell _ _ _ = W8 at *
      obtain ⟨⟨x0, x1, x2, x3⟩, y0, y1, y2, y3⟩ := (unhide HI).cells
      obtain ⟨⟨r0, r1, r2, r3⟩, f0, f1, f2, f3⟩ := (unhide HI).cellsR
      go_wp2
      obtain ⟨⟨q0, q1, q2, q3⟩, hrd, hkp⟩ := (unhide HI).fin rfl
      exact bodyPost_ret (v := stV 3 0 (v8 - 3) (.slice pa ps.length pc)) (by simp [results, Tryz.results48, go_sem, q0, q1, q2, q3]) rfl (by first | exact ⟨⟨3, 0, (v8 - 3), ps⟩, _, rfl, .inr ⟨rfl, rfl⟩, _, by omega, hrd, hkp⟩ | exact ⟨⟨3, 0, (v8 - 3), ps⟩, _, _, rfl, .inr ⟨rfl, rfl⟩, by omega, hrd, hkp⟩)
    have h2' : (v9 == 2) = false := by simpa using h2
    clear h0 h1 h2
    obtain ⟨⟨x0, x1, x2, x3⟩, y0, y1, y2, y3⟩ := (unhide HI).cells
    obtain ⟨⟨r0, r1, r2, r3⟩, f0, f1, f2, f3⟩ := (unhide HI).cellsR
    go_wp2
    obtain ⟨⟨q0, q1, q2, q3⟩, hrd, hkp⟩ := (unhide HI).fin rfl
    exact bodyPost_ret (v := stV 3 0 0 (.slice pa ps.length pc)) (by simp [results, Tryz.results48, go_sem, q0, q1, q2, q3]) rfl (by first | exact ⟨⟨3, 0, 0, ps⟩, _, rfl, .inr ⟨rfl, rfl⟩, _, by omega, hrd, hkp⟩ | exact ⟨⟨3, 0, 0, ps⟩, _, _, rfl, .inr ⟨rfl, rfl⟩, by omega, hrd, hkp⟩)
  · have bX := below1 w1 (.cells #[.int .i64 4, .int .i64 0, .int .i64 0, .slice none 0 0] 47)
    have HI : Hid (Ss B w blk (w1.alloc (.cells #[.int .i64 4, .int .i64 0, .int .i64 0, .slice none 0 0] 47)) (p + 1) w1.heap.size 4 0 0 (.slice none 0 0)) := ⟨(unhide HD).later bX, heap_alloc_new _ _, (bX.block _ (heapLt (unhide HR))).trans (unhide HR), heapLt (unhide HR)⟩
    clear bX HD HR
    go_upto_region 9 with fail
    generalize w1.heap.size = X at *
    generalize w1.alloc _ = w2 at *
    go_wp2_with fail
    refine (pick_any _ blk (p + 1) 24 (by exact (unhide HI).dr.rd) (by omega) (by omega) (by omega)).mono ?_
    rintro e w9 ⟨v9, rfl, v90, v91, hr, hk⟩
    replace HI := hide ((unhide HI).keep hk hr)
    clear hr hk
    by_cases h0 : v9 = 0
    · subst h0
      go_wp2_with fail
      refine (pick_any _ blk (p + 1 + 1) 6 (by exact (unhide HI).dr.rd) (by omega) (by omega) (by omega)).mono ?_
      rintro e w8 ⟨v8, rfl, v80, v81, hr, hk⟩
      replace HI := hide ((unhide HI).keep hk hr)
      clear hr hk
      obtain ⟨⟨x0, x1, x2, x3⟩, y0, y1, y2, y3⟩ := (unhide HI).cells
      go_upto_region 16 with fail
      clear x0 x1 x2 x3 y0 y1 y2 y3
      have HIn := hide ((unhide HI).set0 (y := v8))
      clear HI
      have HI := HIn
      clear HIn
      generalize World.setCell _ _ _ = W8 at *
      obtain ⟨⟨x0, x1, x2, x3⟩, y0, y1, y2, y3⟩ := (unhide HI).cells
      obtain ⟨⟨r0, r1, r2, r3⟩, f0, f1, f2, f3⟩ := (unhide HI).cellsR
      go_wp2
      obtain ⟨⟨q0, q1, q2, q3⟩, hrd, hkp⟩ := (unhide HI).fin rfl
      exact bodyPost_ret (v := stV v8 0 0 (.slice none 0 0)) (by simp [results, Tryz.results48, go_sem, q0, q1, q2, q3]) rfl (by first | exact ⟨⟨v8, 0, 0, []⟩, _, rfl, .inl ⟨rfl, rfl⟩, _, by omega, hrd, hkp⟩ | exact ⟨⟨v8, 0, 0, []⟩, _, _, rfl, .inl ⟨rfl, rfl⟩, by omega, hrd, hkp⟩)
    have h0' : (v9 == 0) = false := by simpa using h0
    by_cases h1 : v9 = 1
    · subst h1
      go_wp2_with fail
      refine (pick_any _ blk (p + 1 + 1) 7 (by exact (unhide HI).dr.rd) (by omega) (by omega) (by omega)).mono ?_
      rintro e w8 ⟨v8, rfl, v80, v81, hr, hk⟩
      replace HI := hide ((unhide HI).keep hk hr)
      clear hr hk
      obtain ⟨⟨x0, x1, x2, x3⟩, y0, y1, y2, y3⟩ := (unhide HI).cells
      go_upto_region 16 with fail
      clear x0 x1 x2 x3 y0 y1 y2 y3
      have HIn := hide ((unhide HI).set1 (y := v8))
      clear HI
      have HI := HIn
      clear HIn
      generalize World.setCell _ _ _ = W8 at *
      obtain ⟨⟨x0, x1, x2, x3⟩, y0, y1, y2, y3⟩ := (unhide HI).cells
      obtain ⟨⟨r0, r1, r2, r3⟩, f0, f1, f2, f3⟩ := (unhide HI).cellsR
      go_wp2
      obtain ⟨⟨q0, q1, q2, q3⟩, hrd, hkp⟩ := (unhide HI).fin rfl
      exact bodyPost_ret (v := stV 4 v8 0 (.slice none 0 0)) (by simp [results, Tryz.results48, go_sem, q0, q1, q2, q3]) rfl (by first | exact ⟨⟨4, v8, 0, []⟩, _, rfl, .inl ⟨rfl, rfl⟩, _, by omega, hrd, hkp⟩ | exact ⟨⟨4, v8, 0, []⟩, _, _, rfl, .inl ⟨rfl, rfl⟩, by omega, hrd, hkp⟩)
    have h1' : (v9 == 1) = false := by simpa using h1
    by_cases h2 : v9 = 2
    · subst h2
      go_wp2_with fail
      refine (pick_any _ blk (p + 1 + 1) 14 (by exact (unhide HI).dr.rd) (by omega) (by omega) (by omega)).mono ?_
      rintro e w8 ⟨v8, rfl, v80, v81, hr, hk⟩
      replace HI := hide ((unhide HI).keep hk hr)
      clear hr hk
      have e8 : IntKind.i64.wrap (v8 - 3) = v8 - 3 := wrap_st (by omega) (by omega)
      obtain ⟨⟨x0, x1, x2, x3⟩, y0, y1, y2, y3⟩ := (unhide HI).cells
      go_upto_region 16 with fail
      clear x0 x1 x2 x3 y0 y1 y2 y3
      have HIn := hide ((unhide HI).set2 (y := (v8 - 3)))
      clear HI
      have HI := HIn
      clear HIn
      generalize World.setCell _ _ _ = W8 at *
      obtain ⟨⟨x0, x1, x2, x3⟩, y0, y1, y2, y3⟩ := (unhide HI).cells
      obtain ⟨⟨r0, r1, r2, r3⟩, f0, f1, f2, f3⟩ := (unhide HI).cellsR
      go_wp2
      obtain ⟨⟨q0, q1, q2, q3⟩, hrd, hkp⟩ := (unhide HI).fin rfl
      exact bodyPost_ret (v := stV 4 0 (v8 - 3) (.slice none 0 0)) (by simp [results, Tryz.results48, go_sem, q0, q1, q2, q3]) rfl (by first | exact ⟨⟨4, 0, (v8 - 3), []⟩, _, rfl, .inl ⟨rfl, rfl⟩, _, by omega, hrd, hkp⟩ | exact ⟨⟨4, 0, (v8 - 3), []⟩, _, _, rfl, .inl ⟨rfl, rfl⟩, by omega, hrd, hkp⟩)
    have h2' : (v9 == 2) = false := by simpa using h2
    clear h0 h1 h2
    obtain ⟨⟨x0, x1, x2, x3⟩, y0, y1, y2, y3⟩ := (unhide HI).cells
    obtain ⟨⟨r0, r1, r2, r3⟩, f0, f1, f2, f3⟩ := (unhide HI).cellsR
    go_wp2
    obtain ⟨⟨q0, q1, q2, q3⟩, hrd, hkp⟩ := (unhide HI).fin rfl
    exact bodyPost_ret (v := stV 4 0 0 (.slice none 0 0)) (by simp [results, Tryz.results48, go_sem, q0, q1, q2, q3]) rfl (by first | exact ⟨⟨4, 0, 0, []⟩, _, rfl, .inl ⟨rfl, rfl⟩, _, by omega, hrd, hkp⟩ | exact ⟨⟨4, 0, 0, []⟩, _, _, rfl, .inl ⟨rfl, rfl⟩, by omega, hrd, hkp⟩)
end Go.Proofs.YtkhanndmbpemfaaGreatDoor
