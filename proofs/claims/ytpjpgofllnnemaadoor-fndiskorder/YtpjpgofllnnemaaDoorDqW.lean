import Derived.Test.YtpjpgofllnnemaaDoorDkDrawW
import Derived.Test.YtpjpgofllnnemaaDoorMix20
/- The state of a function that goes on with a disk that was drawn: the reader, the disk's box, its rows. -/
namespace Go.Proofs.YtpjpgofllnnemaaDoor
open Go.RowKit

theorem InsN.bound {N : Nat → Prop} {w : World} {v : Value} {l : List Int} (h : InsN N w v l) : InsN (fun b => N b ∧ b < w.heap.size) w v l := by
  obtain ⟨a, cap, hv, hc, hl, hr⟩ := h
  refine ⟨a, cap, hv, hc, hl, fun hp => ?_⟩
  obtain ⟨b, off, ha, hbs, hN, hcc⟩ := hr hp
  exact ⟨b, off, ha, hbs, ⟨hN, hbs⟩, hcc⟩
abbrev NY (R X : Nat) (uf : Value) (b : Nat) : Prop := R ≤ b ∧ uf.ownBlock ≠ some b ∧ b ≠ X
/-- A disk in the box X. -/
structure Dq (B : Nat) (W : World) (blk : Nat) (w : World) (p X : Nat) (uf : Value) (D : Dk.D) (v1 v2 : Value) : Prop where
  dr : Dr B W blk w p
  hX : w.heap[X]? = some (.cells #[v1, uf, .bool D.has, v2] 26 (0, 0))
  lX : W.heap.size ≤ X
  p1 : Pks (NY W.heap.size X uf) w v1 D.db
  r1 : RoomV v1 D.db.length
  pf : InsN (fun b => W.heap.size ≤ b ∧ b ≠ X) w uf D.fl
  own : D.fl.length = 6 → OwI W.heap.size w uf D.fl
  p2 : Pks (NY W.heap.size X uf) w v2 D.jr
  r2 : RoomV v2 D.jr.length
section
variable {B : Nat} {W w w' w6 : World} {blk p p' X : Nat} {uf v1 v2 q1 q2 : Value} {D D' : Dk.D}
theorem Dq.kpd (h : Dq B W blk w p X uf D v1 v2) (hk : Kp w.heap.size blk w w') (hd : Dr B W blk w' p') : Dq B W blk w' p' X uf D v1 v2 := by
  have hlt := h.dr.lt
  have hlX := h.lX
  refine ⟨hd, ?_, h.lX, h.p1.keep hk.size (fun k hk1 hN => hk.block k hk1 (by have := hN.1; omega)), h.r1, h.pf.keep hk.size (fun k hk1 hN => hk.block k hk1 (by have := hN.1; omega)), fun hl => own_keepS (h.own hl) (fun g _ _ hb hg => hk.block g (heapLt hg) (by omega)), h.p2.keep hk.size (fun k hk1 hN => hk.block k hk1 (by have := hN.1; omega)), h.r2⟩
  rw [hk.block X (heapLt h.hX) (by omega)]; exact h.hX
theorem Dq.keep (h : Dq B W blk w p X uf D v1 v2) (hk : Kp w.heap.size blk w w') (hr : Rd B w' blk p') : Dq B W blk w' p' X uf D v1 v2 := h.kpd hk (h.dr.keep hk hr)
theorem Dq.later (h : Dq B W blk w p X uf D v1 v2) (b : Below w.heap.size w w') : Dq B W blk w' p X uf D v1 v2 := h.kpd (Kp.of_below b) (h.dr.later b)
theorem Dq.drd (h : Dq B W blk w p X uf D v1 v2) (hl : D.fl.length = 6) : DRd (NY W.heap.size X uf) W.heap.size w v1 uf v2 D.db D.fl D.jr := ⟨h.p1, h.r1, h.own hl, h.p2, h.r2⟩
theorem Dq.cells (h : Dq B W blk w p X uf D v1 v2) : w.cell? ⟨X, 0, none⟩ = some v1 ∧ w.cell? ⟨X, 1, none⟩ = some uf ∧ w.cell? ⟨X, 2, none⟩ = some (.bool D.has) ∧ w.cell? ⟨X, 3, none⟩ = some v2 :=
  ⟨cellOf h.hX 0, cellOf h.hX 1, cellOf h.hX 2, cellOf h.hX 3⟩
theorem Dq.old {R : Nat} {ob : Obj} (h : Dq B W blk w p X uf D v1 v2) (hR : W.heap[R]? = some ob) (hne : R ≠ blk) : w.heap[R]? = some ob := (h.dr.kp.block R (heapLt hR) hne).trans hR
theorem Dq.uf6 (h : Dq B W blk w p X uf D v1 v2) (hl : D.fl.length = 6) : ∃ g cf, uf = .slice (some ⟨g, 0, none⟩) 6 cf := by
  obtain ⟨g, cf, e, _, _⟩ := (h.own hl).form (by omega)
  rw [hl] at e
  exact ⟨g, cf, e⟩
theorem Dq.sz6 (h : Dq B W blk w p X uf D v1 v2) (hl : D.fl.length = 6) : ∀ b, w.heap.size ≤ b → NY W.heap.size X uf b := fun b hb =>
  ⟨by have := h.dr.size; omega, fun e => by have := (h.own hl).lt b e; omega, by have := heapLt h.hX; omega⟩
theorem Dq.store (h : Dq B W blk w p X uf D v1 v2) (hl : D.fl.length = 6) (hA : DRd (NY W.heap.size X uf) W.heap.size w6 q1 uf q2 D'.db D'.fl D'.jr) (hl' : D'.fl.length = 6) (st : Stays (fun x => uf.ownBlock = some x) w w6)
    (hw : w' = (((w6.setCell ⟨X, 0, none⟩ q1).setCell ⟨X, 1, none⟩ uf).setCell ⟨X, 2, none⟩ (.bool D'.has)).setCell ⟨X, 3, none⟩ q2) : Dq B W blk w' p X uf D' q1 q2 := by
  have hO := h.own hl
  have hX6 := (st.block X (heapLt h.hX) (own_ne hO h.hX (by decide))).trans h.hX
  have hd6 := h.dr.stays st (fun k hk => by have := (own_row hO k hk).1; omega)
  have hlX := h.lX
  obtain ⟨hX', hans, hfar⟩ := DRd.set4 (has := D'.has) hX6 (fun b hb => hb.2.2) hA hw
  refine ⟨?_, hX', hlX, hans.p1, hans.r1, ?_, fun _ => hans.pf, hans.p2, hans.r2⟩
  · rw [hw]
    exact (((hd6.set (by omega)).set (by omega)).set (by omega)).set (by omega)
  · exact (hans.pf.insN (by omega) (by omega)).weak (fun b hb => ⟨by have := hb.1; omega, fun e => own_ne hans.pf hX' (by decide) (by rw [← e]; exact hb.2)⟩)
/-- A disk that was drawn is laid into a box. -/
theorem Dq.of (hd : Dr B W blk w p) (h : DOut W.heap.size w D v1 uf v2) : Dq B W blk (w.alloc (.cells #[v1, uf, .bool D.has, v2] 26)) p w.heap.size uf D v1 v2 := by
  have b := below1 w (.cells #[v1, uf, .bool D.has, v2] 26)
  exact ⟨hd.later b, heap_alloc_new _ _, hd.size, (h.p1.bound.later b).weak (fun x hx => ⟨by have := hx.1.1; omega, hx.1.2, by have := hx.2; omega⟩), h.r1, (h.pf.bound.later b).weak (fun x hx => ⟨by have := hx.1; omega, by have := hx.2; omega⟩), fun hl => own_base' (own_later (h.own hl) b) (Nat.le_succ _), (h.p2.bound.later b).weak (fun x hx => ⟨by have := hx.1.1; omega, hx.1.2, by have := hx.2; omega⟩), h.r2⟩
/-- A disk that can be read. -/
structure DIn (w : World) (D : Dk.D) (v1 uf v2 : Value) : Prop where
  p1 : Pks (fun _ => True) w v1 D.db
  r1 : RoomV v1 D.db.length
  pf : Ins w uf D.fl
  p2 : Pks (fun _ => True) w v2 D.jr
  r2 : RoomV v2 D.jr.length
theorem DIn.later (h : DIn w D v1 uf v2) (b : Below w.heap.size w w') : DIn w' D v1 uf v2 := ⟨h.p1.later b, h.r1, h.pf.later b, h.p2.later b, h.r2⟩
/-- The disk, read in a world where all but an elder block stay. -/
theorem Dq.reads {R : Nat} (h : Dq B W blk w p X uf D v1 v2) (hf : ∀ k, k ≠ R → w'.heap[k]? = w.heap[k]?) (hs : w.heap.size ≤ w'.heap.size) (hR : R < W.heap.size) : DIn w' D v1 uf v2 :=
  ⟨(h.p1.keep hs (fun k _ hk => hf k (by have := hk.1; omega))).weak (fun _ _ => trivial), h.r1, (h.pf.keep hs (fun k _ hk => hf k (by have := hk.1; omega))).ins, (h.p2.keep hs (fun k _ hk => hf k (by have := hk.1; omega))).weak (fun _ _ => trivial), h.r2⟩
theorem Dq.below {w0 : World} (h : Dq B W blk w p X uf D v1 v2) (hb : Below w0.heap.size w0 W) (hblk : w0.heap.size ≤ blk) : Below w0.heap.size w0 w := hb.trans ((h.dr.kp.mono hb.size).below hblk)
end
end Go.Proofs.YtpjpgofllnnemaaDoor
