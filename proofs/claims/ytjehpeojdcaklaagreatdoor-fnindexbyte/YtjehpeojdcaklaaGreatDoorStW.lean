import Derived.Test.YtjehpeojdcaklaaGreatDoorPkgOkW
import Derived.Test.YtjehpeojdcaklaaGreatDoorMixD
import Derived.WalkLawsBesides
import Derived.Deep.RegionWith
import Derived.Deep.DrawnRows
import Derived.Deep.RegionHeld3
import Derived.Deep.AppendLies
/- The state in which spec's drawing functions build a package: a reader, a box for the package, the box of the answer; what a pick, an append and a store leave of it. -/
namespace Go.Proofs.YtjehpeojdcaklaaGreatDoor
open Go.RowKit

structure St (B : Nat) (W : World) (blk R Pb : Nat) (w : World) (nm vr : Int) (fv dv : Value) (fs ds : List (Int × Int)) (p : Nat) : Prop where
  rd : Rd B w blk p
  lB : B ≤ W.heap.size
  lt : blk < W.heap.size
  kp : Kp W.heap.size blk W w
  lR : W.heap.size ≤ R
  lP : W.heap.size ≤ Pb
  ne : R ≠ Pb
  hR : w.heap[R]? = some (.cells #[.int .i64 0, .int .i64 0, .slice none 0 0, .slice none 0 0] 35 (0, 0))
  hP : w.heap[Pb]? = some (.cells #[.int .i64 nm, .int .i64 vr, fv, dv] 35 (0, 0))
  hf : w.ownsRow W.heap.size 74 2 fv fs.length (flat fs)
  hd : w.ownsRow W.heap.size 76 2 dv ds.length (flat ds)

variable {B : Nat} {W w w' : World} {blk R Pb : Nat} {nm vr : Int} {fv dv : Value} {fs ds : List (Int × Int)} {p p' : Nat}

/-- Where all blocks but the reader's stay, and the reader is one still. -/
theorem St.keep (h : St B W blk R Pb w nm vr fv dv fs ds p) (hk : Kp w.heap.size blk w w') (hr : Rd B w' blk p') : St B W blk R Pb w' nm vr fv dv fs ds p' := by
  have hlt := h.lt
  have lR := h.lR
  have lP := h.lP
  exact ⟨hr, h.lB, h.lt, h.kp.trans hk h.kp.size, h.lR, h.lP, h.ne,
    by rw [hk.block R (heap_lt h.hR) (by omega)]; exact h.hR, by rw [hk.block Pb (heap_lt h.hP) (by omega)]; exact h.hP,
    own_keep h.hf (fun g _ _ hB hg => hk.block g (heap_lt hg) (by omega)), own_keep h.hd (fun g _ _ hB hg => hk.block g (heap_lt hg) (by omega))⟩

theorem St.drew (h : St B W blk R Pb w nm vr fv dv fs ds p) : St B W blk R Pb w.drew nm vr fv dv fs ds p :=
  h.keep ⟨rfl, rfl, rfl, Nat.le_refl _, fun _ _ _ => rfl⟩ (h.rd.later (Nat.le_trans h.lB h.kp.size) ((Below.refl _ _).drew))
theorem St.drewN (h : St B W blk R Pb w nm vr fv dv fs ds p) (q : Nat) : St B W blk R Pb (w.drewN q) nm vr fv dv fs ds p :=
  h.keep ⟨rfl, rfl, rfl, Nat.le_refl _, fun _ _ _ => rfl⟩ (h.rd.later (Nat.le_trans h.lB h.kp.size) (below_drewN (Below.refl _ _) q))
theorem St.alloc (h : St B W blk R Pb w nm vr fv dv fs ds p) (o : Obj) : St B W blk R Pb (w.alloc o) nm vr fv dv fs ds p :=
  h.keep (Kp.of_below ((Below.refl _ _).alloc (Nat.le_refl _) o)) (h.rd.later (Nat.le_trans h.lB h.kp.size) ((Below.refl _ _).alloc (Nat.le_refl _) o))

/-- What the walk reads of a state. -/
theorem St.cells (h : St B W blk R Pb w nm vr fv dv fs ds p) : (w.cell? ⟨Pb, 0, none⟩ = some (.int .i64 nm) ∧ w.cell? ⟨Pb, 1, none⟩ = some (.int .i64 vr) ∧ w.cell? ⟨Pb, 2, none⟩ = some fv ∧ w.cell? ⟨Pb, 3, none⟩ = some dv) ∧ (w.frozen? ⟨Pb, 0, none⟩ = false ∧ w.frozen? ⟨Pb, 1, none⟩ = false ∧ w.frozen? ⟨Pb, 2, none⟩ = false ∧ w.frozen? ⟨Pb, 3, none⟩ = false) :=
  ⟨⟨cell_of h.hP 0, cell_of h.hP 1, cell_of h.hP 2, cell_of h.hP 3⟩, ⟨frozen_of h.hP 0, frozen_of h.hP 1, frozen_of h.hP 2, frozen_of h.hP 3⟩⟩
theorem St.cellsR (h : St B W blk R Pb w nm vr fv dv fs ds p) : (w.cell? ⟨R, 0, none⟩ = some (.int .i64 0) ∧ w.cell? ⟨R, 1, none⟩ = some (.int .i64 0) ∧ w.cell? ⟨R, 2, none⟩ = some (.slice none 0 0) ∧ w.cell? ⟨R, 3, none⟩ = some (.slice none 0 0)) ∧ (w.frozen? ⟨R, 0, none⟩ = false ∧ w.frozen? ⟨R, 1, none⟩ = false ∧ w.frozen? ⟨R, 2, none⟩ = false ∧ w.frozen? ⟨R, 3, none⟩ = false) :=
  ⟨⟨cell_of h.hR 0, cell_of h.hR 1, cell_of h.hR 2, cell_of h.hR 3⟩, ⟨frozen_of h.hR 0, frozen_of h.hR 1, frozen_of h.hR 2, frozen_of h.hR 3⟩⟩

/-- The answer is laid into its box. -/
theorem St.fin (h : St B W blk R Pb w nm vr fv dv fs ds p) {w' : World} (hw : w' = (((w.setCell ⟨R, 0, none⟩ (.int .i64 nm)).setCell ⟨R, 1, none⟩ (.int .i64 vr)).setCell ⟨R, 2, none⟩ fv).setCell ⟨R, 3, none⟩ dv) :
    (w'.cell? ⟨R, 0, none⟩ = some (.int .i64 nm) ∧ w'.cell? ⟨R, 1, none⟩ = some (.int .i64 vr) ∧ w'.cell? ⟨R, 2, none⟩ = some fv ∧ w'.cell? ⟨R, 3, none⟩ = some dv) ∧ w'.ownsRow W.heap.size 74 2 fv fs.length (flat fs) ∧ w'.ownsRow W.heap.size 76 2 dv ds.length (flat ds) ∧ Rd B w' blk p ∧ Kp W.heap.size blk W w' := by
  have hlt := h.lt
  have lR := h.lR
  have lB := h.lB
  have far : ∀ k, k ≠ R → w'.heap[k]? = w.heap[k]? := fun k hk => by
    rw [hw, Below.heap_setCell _ _ _ _ hk, Below.heap_setCell _ _ _ _ hk, Below.heap_setCell _ _ _ _ hk, Below.heap_setCell _ _ _ _ hk]
  have hR : w'.heap[R]? = some (.cells #[.int .i64 nm, .int .i64 vr, fv, dv] 35 (0, 0)) := by
    rw [hw, heap_set (heap_set (heap_set (heap_set h.hR)))]
    rfl
  refine ⟨⟨cell_of hR 0, cell_of hR 1, cell_of hR 2, cell_of hR 3⟩, ?_, ?_, ?_, ?_⟩
  · refine own_keep h.hf (fun k _ _ _ hk => far k (fun e => ?_))
    subst e
    rw [h.hR] at hk
    injection hk with hk
    injection hk with _ hk _
    revert hk
    decide
  · refine own_keep h.hd (fun k _ _ _ hk => far k (fun e => ?_))
    subst e
    rw [h.hR] at hk
    injection hk with hk
    injection hk with _ hk _
    revert hk
    decide
  · exact h.rd.keep (fun k hk _ => far k (by omega)) (far blk (by omega))
  · exact ⟨by rw [hw]; exact h.kp.os, by rw [hw]; exact h.kp.tape, by rw [hw]; exact h.kp.output, by rw [hw]; simp only [World.setCell, Array.size_modify]; exact h.kp.size, fun k hk hne => by rw [far k (by omega)]; exact h.kp.block k hk hne⟩

theorem St.row2 (h : St B W blk R Pb w nm vr fv dv fs ds p) : fv.ownBlock ≠ some Pb := by
  intro hk
  rcases h.hf.2 with ⟨rfl, _⟩ | ⟨g', cap', cur, rfl, hb, hgg, _⟩
  · cases hk
  · simp only [Value.ownBlock, Option.some.injEq] at hk
    subst hk
    rw [h.hP] at hgg
    injection hgg with hgg
    injection hgg with _ hgg _
    revert hgg
    decide
theorem St.row3 (h : St B W blk R Pb w nm vr fv dv fs ds p) : dv.ownBlock ≠ some Pb := by
  intro hk
  rcases h.hd.2 with ⟨rfl, _⟩ | ⟨g', cap', cur, rfl, hb, hgg, _⟩
  · cases hk
  · simp only [Value.ownBlock, Option.some.injEq] at hk
    subst hk
    rw [h.hP] at hgg
    injection hgg with hgg
    injection hgg with _ hgg _
    revert hgg
    decide

/-- An append to the files, and the store of the new row. -/
theorem St.app2 {w1 w2 : World} {g cap : Nat} {a b : Int} (h : St B W blk R Pb w1 nm vr fv dv fs ds p) (hg : w1.grownBy w2 fv.ownBlock)
    (ho : w2.ownsRow W.heap.size 74 2 (.slice (some ⟨g, 0, none⟩) (fs.length + 1) cap) (fs.length + 1) (flat fs ++ [.int .i64 a, .int .i64 b])) :
    St B W blk R Pb (w2.setCell ⟨Pb, 2, none⟩ (.slice (some ⟨g, 0, none⟩) (fs.length + 1) cap)) nm vr (.slice (some ⟨g, 0, none⟩) (fs.length + 1) cap) dv (fs ++ [(a, b)]) ds p := by
  have hlt := h.lt
  have lR := h.lR
  have lP := h.lP
  have row : ∀ k, fv.ownBlock = some k → W.heap.size ≤ k ∧ ∃ cur, w1.heap[k]? = some (.cells cur 74 (0, 0)) := by
    intro k hk
    rcases h.hf.2 with ⟨rfl, _⟩ | ⟨g', cap', cur, rfl, hb, hgg, _⟩
    · cases hk
    · simp only [Value.ownBlock, Option.some.injEq] at hk
      subst hk
      exact ⟨hb, cur, hgg⟩
  have kept : ∀ (k : Nat) (c : Array Value) (t : TypeId), w1.heap[k]? = some (Obj.cells c t (0, 0)) → t ≠ 74 → w2.heap[k]? = w1.heap[k]? := fun k c t hk ht => hg.block k (heap_lt hk) (fun e => by
    obtain ⟨_, cur, hc⟩ := row k e.symm
    rw [hk] at hc
    injection hc with hc
    injection hc with _ hc _
    exact ht hc)
  have old : ∀ k, k < W.heap.size → w2.heap[k]? = w1.heap[k]? := fun k hk => hg.block k (Nat.lt_of_lt_of_le hk h.kp.size) (fun e => by
    obtain ⟨h1, _⟩ := row k e.symm
    omega)
  have hP2 := kept Pb _ _ h.hP (by decide)
  rw [h.hP] at hP2
  have gP : Pb ≠ g := by
    rcases ho.2 with ⟨e, _⟩ | ⟨g', cap', cur, e, _, hgg, _⟩
    · cases e
    · injection e with e _ _
      injection e with e
      injection e with e _ _
      subst e
      intro e
      subst e
      rw [hP2] at hgg
      injection hgg with hgg
      injection hgg with _ hgg _
      revert hgg
      decide
  have far : ∀ k, k ≠ Pb → (w2.setCell ⟨Pb, 2, none⟩ (.slice (some ⟨g, 0, none⟩) (fs.length + 1) cap)).heap[k]? = w2.heap[k]? := fun k hk => Below.heap_setCell _ _ _ _ hk
  refine ⟨?_, h.lB, h.lt, ?_, h.lR, h.lP, h.ne, ?_, ?_, ?_, ?_⟩
  · have lB := h.lB
    exact h.rd.keep (fun k hk _ => by rw [far k (by omega), old k (by omega)]) (by rw [far blk (by omega), old blk h.lt])
  · exact ⟨by show w2.os = _; rw [hg.os]; exact h.kp.os, by show w2.tape = _; rw [hg.tape]; exact h.kp.tape, by show w2.output = _; rw [hg.output]; exact h.kp.output, by simp only [World.setCell, Array.size_modify]; exact Nat.le_trans h.kp.size hg.size, fun k hk hne => by rw [far k (by omega), old k hk]; exact h.kp.block k hk hne⟩
  · rw [far R h.ne, kept R _ _ h.hR (by decide)]; exact h.hR
  · rw [heap_set hP2]; rfl
  · rw [flat_snoc, List.length_append]
    exact own_keep ho (fun k _ e _ _ => far k (by
      simp only [Value.ownBlock, Option.some.injEq] at e
      omega))
  · refine own_keep (own_keep h.hd (fun k _ _ _ hk => kept k _ _ hk (by decide))) (fun k _ _ _ hk => far k (fun e => ?_))
    subst e
    rw [hP2] at hk
    injection hk with hk
    injection hk with _ hk _
    revert hk
    decide
/-- An append to the needs, and the store of the new row. -/
theorem St.app3 {w1 w2 : World} {g cap : Nat} {a b : Int} (h : St B W blk R Pb w1 nm vr fv dv fs ds p) (hg : w1.grownBy w2 dv.ownBlock)
    (ho : w2.ownsRow W.heap.size 76 2 (.slice (some ⟨g, 0, none⟩) (ds.length + 1) cap) (ds.length + 1) (flat ds ++ [.int .i64 a, .int .i64 b])) :
    St B W blk R Pb (w2.setCell ⟨Pb, 3, none⟩ (.slice (some ⟨g, 0, none⟩) (ds.length + 1) cap)) nm vr fv (.slice (some ⟨g, 0, none⟩) (ds.length + 1) cap) fs (ds ++ [(a, b)]) p := by
  have hlt := h.lt
  have lR := h.lR
  have lP := h.lP
  have row : ∀ k, dv.ownBlock = some k → W.heap.size ≤ k ∧ ∃ cur, w1.heap[k]? = some (.cells cur 76 (0, 0)) := by
    intro k hk
    rcases h.hd.2 with ⟨rfl, _⟩ | ⟨g', cap', cur, rfl, hb, hgg, _⟩
    · cases hk
    · simp only [Value.ownBlock, Option.some.injEq] at hk
      subst hk
      exact ⟨hb, cur, hgg⟩
  have kept : ∀ (k : Nat) (c : Array Value) (t : TypeId), w1.heap[k]? = some (Obj.cells c t (0, 0)) → t ≠ 76 → w2.heap[k]? = w1.heap[k]? := fun k c t hk ht => hg.block k (heap_lt hk) (fun e => by
    obtain ⟨_, cur, hc⟩ := row k e.symm
    rw [hk] at hc
    injection hc with hc
    injection hc with _ hc _
    exact ht hc)
  have old : ∀ k, k < W.heap.size → w2.heap[k]? = w1.heap[k]? := fun k hk => hg.block k (Nat.lt_of_lt_of_le hk h.kp.size) (fun e => by
    obtain ⟨h1, _⟩ := row k e.symm
    omega)
  have hP2 := kept Pb _ _ h.hP (by decide)
  rw [h.hP] at hP2
  have gP : Pb ≠ g := by
    rcases ho.2 with ⟨e, _⟩ | ⟨g', cap', cur, e, _, hgg, _⟩
    · cases e
    · injection e with e _ _
      injection e with e
      injection e with e _ _
      subst e
      intro e
      subst e
      rw [hP2] at hgg
      injection hgg with hgg
      injection hgg with _ hgg _
      revert hgg
      decide
  have far : ∀ k, k ≠ Pb → (w2.setCell ⟨Pb, 3, none⟩ (.slice (some ⟨g, 0, none⟩) (ds.length + 1) cap)).heap[k]? = w2.heap[k]? := fun k hk => Below.heap_setCell _ _ _ _ hk
  refine ⟨?_, h.lB, h.lt, ?_, h.lR, h.lP, h.ne, ?_, ?_, ?_, ?_⟩
  · have lB := h.lB
    exact h.rd.keep (fun k hk _ => by rw [far k (by omega), old k (by omega)]) (by rw [far blk (by omega), old blk h.lt])
  · exact ⟨by show w2.os = _; rw [hg.os]; exact h.kp.os, by show w2.tape = _; rw [hg.tape]; exact h.kp.tape, by show w2.output = _; rw [hg.output]; exact h.kp.output, by simp only [World.setCell, Array.size_modify]; exact Nat.le_trans h.kp.size hg.size, fun k hk hne => by rw [far k (by omega), old k hk]; exact h.kp.block k hk hne⟩
  · rw [far R h.ne, kept R _ _ h.hR (by decide)]; exact h.hR
  · rw [heap_set hP2]; rfl
  · refine own_keep (own_keep h.hf (fun k _ _ _ hk => kept k _ _ hk (by decide))) (fun k _ _ _ hk => far k (fun e => ?_))
    subst e
    rw [hP2] at hk
    injection hk with hk
    injection hk with _ hk _
    revert hk
    decide
  · rw [flat_snoc, List.length_append]
    exact own_keep ho (fun k _ e _ _ => far k (by
      simp only [Value.ownBlock, Option.some.injEq] at e
      omega))
end Go.Proofs.YtjehpeojdcaklaaGreatDoor
