import Derived.Test.YtlnieobmhofkdaaGreatDoorMix3
import Derived.Test.YtlnieobmhofkdaaGreatDoorMix1
import Derived.OwnWalk
import Derived.WalkLawsBesides
import Derived.Deep.RegionWith
import Derived.Deep.DrawnRows
import Derived.Deep.RegionHeld3
import Derived.Deep.AppendLies
/- What spec's l6Open returns: a reader at place 0. -/
namespace Go.Proofs.YtlnieobmhofkdaaGreatDoor
open Go.RowKit

/-- A slice of bytes that can be read. -/
def Bytes (w : World) (a : Option Addr) (len cap : Nat) : Prop :=
  len ≤ cap ∧ cap ≤ maxLen ∧ (0 < len → ∃ b off, a = some ⟨b, off, none⟩ ∧ b < w.heap.size ∧ ∀ i, i < len → ∃ z : Int, 0 ≤ z ∧ z < 256 ∧ w.cell? ⟨b, off + i, none⟩ = some (.int .u8 z))

theorem Bytes.later {w w' : World} {a : Option Addr} {len cap : Nat} (h : Bytes w a len cap) (hb : Below w.heap.size w w') : Bytes w' a len cap := by
  refine ⟨h.1, h.2.1, fun hp => ?_⟩
  obtain ⟨b, off, ha, hbs, hc⟩ := h.2.2 hp
  refine ⟨b, off, ha, Nat.lt_of_lt_of_le hbs hb.size, fun i hi => ?_⟩
  obtain ⟨z, z0, z1, hz⟩ := hc i hi
  exact ⟨z, z0, z1, by rw [hb.cell hbs]; exact hz⟩

theorem Rd.new {w : World} {a : Option Addr} {len cap : Nat} (t : TypeId) (h : Bytes w a len cap) (n : Nat) (hn : n ≤ len) (hn' : n ≤ 2000) :
    Rd w.heap.size (w.alloc (.cells #[.slice a n cap, .int .i64 0] t)) w.heap.size 0 := by
  refine ⟨?_, ?_, ?_⟩
  · rw [World.cell?_alloc_new]; rfl
  · exact World.frozen?_alloc_new _ _ _ _
  · refine ⟨a, n, cap, by rw [World.cell?_alloc_new]; rfl, hn', fun hp => ?_⟩
    obtain ⟨b, off, ha, hbs, hc⟩ := h.2.2 (by omega)
    refine ⟨b, off, ha, by omega, hbs, fun i hi => ?_⟩
    obtain ⟨z, z0, z1, hz⟩ := hc i (by omega)
    exact ⟨z, z0, z1, by rw [World.cell?_alloc_lt _ _ _ hbs]; exact hz⟩

set_option maxHeartbeats 1000000 in
theorem open_any (w : World) (a : Option Addr) (len cap : Nat) (h : Bytes w a len cap) :
    Calls Tryz.prog 34 #[.slice a len cap] w fun e w' => e = .returned (.pointer (some ⟨w.heap.size, 0, none⟩)) ∧ Rd w.heap.size w' w.heap.size 0 ∧ Below w.heap.size w w' := by
  have h1 := h.1
  have h2 := h.2.1
  unfold maxLen at h2
  by_cases hl : len ≤ 2000
  · go_enter Tryz.func34, Tryz.ntmps34
    go_wp2
    go_ret
    exact ⟨rfl, Rd.new _ h len (Nat.le_refl _) hl, (Below.refl _ _).alloc (Nat.le_refl _) _⟩
  · have hl2 : (2000 : Int) ≤ (cap : Int) := by omega
    have hl3 : (2000 : Int) < (len : Int) := by omega
    go_enter Tryz.func34, Tryz.ntmps34
    go_wp2
    go_ret
    exact ⟨rfl, Rd.new _ h 2000 (by omega) (by omega), (Below.refl _ _).alloc (Nat.le_refl _) _⟩

/-- A reader over bytes, behind the box of the answer. -/
theorem open_behind (w : World) (a : Option Addr) (len cap : Nat) (h : Bytes w a len cap) (o : Obj) :
    Calls Tryz.prog 34 #[.slice a len cap] (w.alloc o) fun e w' => e = .returned (.pointer (some ⟨w.heap.size + 1, 0, none⟩)) ∧ Rd (w.heap.size + 1) w' (w.heap.size + 1) 0 ∧ w'.heap[w.heap.size]? = some o ∧ Below w.heap.size w w' ∧ w.heap.size + 1 < w'.heap.size := by
  have hz : (w.alloc o).heap.size = w.heap.size + 1 := by simp
  have h0 := heap_alloc_new w o
  have hb := below1 w o
  have h1 := h.later hb
  generalize w.alloc o = W0 at *
  refine (open_any W0 a len cap h1).mono ?_
  rintro e w1 ⟨rfl, hr1, b1⟩
  have := hr1.lt
  rw [hz] at hr1 this
  exact ⟨by rw [hz], hr1, (b1.block _ (by omega)).trans h0, hb.trans (b1.mono hb.size), this⟩
end Go.Proofs.YtlnieobmhofkdaaGreatDoor

/- Rows of pairs that a call makes: how they lie, what they read as, what stays. -/
namespace Go.Proofs.YtlnieobmhofkdaaGreatDoor
open Go.RowKit

/-- Pairs as cells. -/
def flat (l : List (Int × Int)) : List Value := l.flatMap fun x => [.int .i64 x.1, .int .i64 x.2]
theorem flat_snoc (l : List (Int × Int)) (a b : Int) : flat (l ++ [(a, b)]) = flat l ++ [.int .i64 a, .int .i64 b] := by unfold flat; rw [List.flatMap_append]; rfl
theorem flat_at : ∀ (l : List (Int × Int)) (i : Nat), i < l.length → (flat l)[i * 2]? = some (.int .i64 (Pk.fst l i)) ∧ (flat l)[i * 2 + 1]? = some (.int .i64 (Pk.snd l i))
  | [], i, h => by simp at h
  | x :: l, 0, _ => ⟨rfl, rfl⟩
  | x :: l, i + 1, h => by
    have := flat_at l i (by simpa using h)
    have e : flat (x :: l) = .int .i64 x.1 :: .int .i64 x.2 :: flat l := rfl
    have e1 : (i + 1) * 2 = i * 2 + 1 + 1 := by omega
    rw [e, e1]
    exact ⟨by rw [List.getElem?_cons_succ, List.getElem?_cons_succ]; exact this.1, by rw [List.getElem?_cons_succ, List.getElem?_cons_succ]; exact this.2⟩

/-- A row of one's own can be read. -/
theorem Prs.own {w : World} {B : Nat} {t : TypeId} {v : Value} {l : List (Int × Int)} (h : w.ownsRow B t 2 v l.length (flat l)) (hl : l.length ≤ 1000000) : Prs w v l := by
  rcases h.2 with ⟨hv, hn⟩ | ⟨g, cap, cur, hv, hb, hg, hc, hm, hs, ht⟩
  · exact ⟨none, 0, by rw [hv, hn], by omega, fun hp => by omega⟩
  · refine ⟨some ⟨g, 0, none⟩, cap, hv, by omega, fun _ => ⟨g, 0, rfl, ?_, fun i hi => ?_⟩⟩
    · rcases Nat.lt_or_ge g w.heap.size with h | h
      · exact h
      · rw [Array.getElem?_eq_none h] at hg; cases hg
    · have hx := flat_at l i hi
      have hcell : ∀ j u, (flat l)[j]? = some u → w.cell? ⟨g, 0 + j, none⟩ = some u := by
        intro j u hu
        rw [Nat.zero_add, World.cell?, hg]
        rw [← ht] at hu
        have : cur.toList[j]? = some u := by
          rw [List.getElem?_take] at hu
          split at hu
          · exact hu
          · cases hu
        simpa using this
      exact ⟨hcell _ _ hx.1, by rw [Nat.add_assoc]; exact hcell _ _ hx.2⟩

theorem heap_lt {w : World} {k : Nat} {o : Obj} (h : w.heap[k]? = some o) : k < w.heap.size := by
  rcases Nat.lt_or_ge k w.heap.size with h1 | h1
  · exact h1
  · rw [Array.getElem?_eq_none h1] at h; cases h

/-- A row of one's own stays where its block does. -/
theorem own_keep {w w' : World} {B : Nat} {t : TypeId} {v : Value} {n : Nat} {xs : List Value} (h : w.ownsRow B t 2 v n xs) (hb : ∀ g cur, v.ownBlock = some g → B ≤ g → w.heap[g]? = some (.cells cur t (0, 0)) → w'.heap[g]? = w.heap[g]?) : w'.ownsRow B t 2 v n xs := by
  refine ⟨h.1, ?_⟩
  rcases h.2 with hn | ⟨g, cap, cur, rfl, hb1, hgg, rest⟩
  · exact .inl hn
  · exact .inr ⟨g, cap, cur, rfl, hb1, by rw [hb g cur rfl hb1 hgg]; exact hgg, rest⟩

theorem own_form {w : World} {B : Nat} {t : TypeId} {v : Value} {n : Nat} {xs : List Value} (h : w.ownsRow B t 2 v n xs) : ∃ a cap, v = .slice a n cap := by
  rcases h.2 with ⟨hv, hn⟩ | ⟨g, cap, cur, hv, _⟩
  · exact ⟨none, 0, by rw [hv, hn]⟩
  · exact ⟨_, cap, hv⟩

theorem cell_of {w : World} {b : Nat} {c : Array Value} {t : TypeId} {fr : Nat × Nat} (h : w.heap[b]? = some (.cells c t fr)) (o : Nat) : w.cell? ⟨b, o, none⟩ = c[o]? := by
  rw [World.cell?, h]; rfl
theorem frozen_of {w : World} {b : Nat} {c : Array Value} {t : TypeId} (h : w.heap[b]? = some (.cells c t (0, 0))) (o : Nat) : w.frozen? ⟨b, o, none⟩ = false := by
  rw [World.frozen?, h]; simp

theorem heap_set {w : World} {b o : Nat} {c : Array Value} {t : TypeId} {fr : Nat × Nat} {v : Value} (h : w.heap[b]? = some (.cells c t fr)) : (w.setCell ⟨b, o, none⟩ v).heap[b]? = some (.cells (c.setIfInBounds o v) t fr) := by
  simp [World.setCell, Array.getElem?_modify, h]

theorem infoFile : (Tryz.prog.info? 132).map (fun i => (i.zero, i.size, i.bytes)) = some (some (.agg #[.int .i64 0, .int .i64 0]), 2, 16) := by kernel_rfl
theorem infoDep : (Tryz.prog.info? 134).map (fun i => (i.zero, i.size, i.bytes)) = some (some (.agg #[.int .i64 0, .int .i64 0]), 2, 16) := by kernel_rfl

theorem sz1 (w : World) (o : Obj) : (w.alloc o).heap.size = w.heap.size + 1 := by simp
theorem at_new (w : World) (o : Obj) (k : Nat) (hk : k = w.heap.size) : (w.alloc o).heap[k]? = some o := by rw [hk]; exact heap_alloc_new w o
theorem at_old (w : World) (o : Obj) (k : Nat) (hk : k < w.heap.size) : (w.alloc o).heap[k]? = w.heap[k]? := Below.heap_alloc w o k hk
end Go.Proofs.YtlnieobmhofkdaaGreatDoor

/- The state in which spec's drawing functions build a package: a reader, a box for the package, the box of the answer; what a pick, an append and a store leave of it. -/
namespace Go.Proofs.YtlnieobmhofkdaaGreatDoor
open Go.RowKit

structure St (B : Nat) (W : World) (blk R Pb : Nat) (w : World) (nm vr : Int) (fv dv : Value) (fs ds : List (Int × Int)) (p : Nat) : Prop where
  rd : Rd B w blk p
  lB : B ≤ W.heap.size
  lt : blk < W.heap.size
  kp : Kp W.heap.size blk W w
  lR : W.heap.size ≤ R
  lP : W.heap.size ≤ Pb
  ne : R ≠ Pb
  hR : w.heap[R]? = some (.cells #[.int .i64 0, .int .i64 0, .slice none 0 0, .slice none 0 0] 42 (0, 0))
  hP : w.heap[Pb]? = some (.cells #[.int .i64 nm, .int .i64 vr, fv, dv] 42 (0, 0))
  hf : w.ownsRow W.heap.size 132 2 fv fs.length (flat fs)
  hd : w.ownsRow W.heap.size 134 2 dv ds.length (flat ds)

variable {B : Nat} {W w w' : World} {blk R Pb : Nat} {nm vr : Int} {fv dv : Value} {fs ds : List (Int × Int)} {p p' : Nat}

/-- Where all blocks but the reader's stay, and the reader is one still. -/
theorem St.keep (h : St B W blk R Pb w nm vr fv dv fs ds p) (hk : Kp w.heap.size blk w w') (hr : Rd B w' blk p') : St B W blk R Pb w' nm vr fv dv fs ds p' := by
  have hlt := h.lt
  have lR := h.lR
  have lP := h.lP
  exact ⟨hr, h.lB, h.lt, h.kp.trans hk h.kp.size, h.lR, h.lP, h.ne,
    by rw [hk.block R (heap_lt h.hR) (by omega)]; exact h.hR, by rw [hk.block Pb (heap_lt h.hP) (by omega)]; exact h.hP,
    own_keep h.hf (fun g _ _ hB hg => hk.block g (heap_lt hg) (by omega)), own_keep h.hd (fun g _ _ hB hg => hk.block g (heap_lt hg) (by omega))⟩

theorem St.drew (h : St B W blk R Pb w nm vr fv dv fs ds p) : St B W blk R Pb w.drew nm vr fv dv fs ds p :=
  h.keep ⟨rfl, rfl, rfl, Nat.le_refl _, fun _ _ _ => rfl⟩ (h.rd.later (Nat.le_trans h.lB h.kp.size) ((Below.refl _ _).drew))
theorem St.drewN (h : St B W blk R Pb w nm vr fv dv fs ds p) (q : Nat) : St B W blk R Pb (w.drewN q) nm vr fv dv fs ds p :=
  h.keep ⟨rfl, rfl, rfl, Nat.le_refl _, fun _ _ _ => rfl⟩ (h.rd.later (Nat.le_trans h.lB h.kp.size) (below_drewN (Below.refl _ _) q))
theorem St.alloc (h : St B W blk R Pb w nm vr fv dv fs ds p) (o : Obj) : St B W blk R Pb (w.alloc o) nm vr fv dv fs ds p :=
  h.keep (Kp.of_below ((Below.refl _ _).alloc (Nat.le_refl _) o)) (h.rd.later (Nat.le_trans h.lB h.kp.size) ((Below.refl _ _).alloc (Nat.le_refl _) o))

/-- What the walk reads of a state. -/
theorem St.cells (h : St B W blk R Pb w nm vr fv dv fs ds p) : (w.cell? ⟨Pb, 0, none⟩ = some (.int .i64 nm) ∧ w.cell? ⟨Pb, 1, none⟩ = some (.int .i64 vr) ∧ w.cell? ⟨Pb, 2, none⟩ = some fv ∧ w.cell? ⟨Pb, 3, none⟩ = some dv) ∧ (w.frozen? ⟨Pb, 0, none⟩ = false ∧ w.frozen? ⟨Pb, 1, none⟩ = false ∧ w.frozen? ⟨Pb, 2, none⟩ = false ∧ w.frozen? ⟨Pb, 3, none⟩ = false) :=
  ⟨⟨cell_of h.hP 0, cell_of h.hP 1, cell_of h.hP 2, cell_of h.hP 3⟩, ⟨frozen_of h.hP 0, frozen_of h.hP 1, frozen_of h.hP 2, frozen_of h.hP 3⟩⟩
theorem St.cellsR (h : St B W blk R Pb w nm vr fv dv fs ds p) : (w.cell? ⟨R, 0, none⟩ = some (.int .i64 0) ∧ w.cell? ⟨R, 1, none⟩ = some (.int .i64 0) ∧ w.cell? ⟨R, 2, none⟩ = some (.slice none 0 0) ∧ w.cell? ⟨R, 3, none⟩ = some (.slice none 0 0)) ∧ (w.frozen? ⟨R, 0, none⟩ = false ∧ w.frozen? ⟨R, 1, none⟩ = false ∧ w.frozen? ⟨R, 2, none⟩ = false ∧ w.frozen? ⟨R, 3, none⟩ = false) :=
  ⟨⟨cell_of h.hR 0, cell_of h.hR 1, cell_of h.hR 2, cell_of h.hR 3⟩, ⟨frozen_of h.hR 0, frozen_of h.hR 1, frozen_of h.hR 2, frozen_of h.hR 3⟩⟩

/-- The answer is laid into its box. -/
theorem St.fin (h : St B W blk R Pb w nm vr fv dv fs ds p) {w' : World} (hw : w' = (((w.setCell ⟨R, 0, none⟩ (.int .i64 nm)).setCell ⟨R, 1, none⟩ (.int .i64 vr)).setCell ⟨R, 2, none⟩ fv).setCell ⟨R, 3, none⟩ dv) :
    (w'.cell? ⟨R, 0, none⟩ = some (.int .i64 nm) ∧ w'.cell? ⟨R, 1, none⟩ = some (.int .i64 vr) ∧ w'.cell? ⟨R, 2, none⟩ = some fv ∧ w'.cell? ⟨R, 3, none⟩ = some dv) ∧ w'.ownsRow W.heap.size 132 2 fv fs.length (flat fs) ∧ w'.ownsRow W.heap.size 134 2 dv ds.length (flat ds) ∧ Rd B w' blk p ∧ Kp W.heap.size blk W w' := by
  have hlt := h.lt
  have lR := h.lR
  have lB := h.lB
  have far : ∀ k, k ≠ R → w'.heap[k]? = w.heap[k]? := fun k hk => by
    rw [hw, Below.heap_setCell _ _ _ _ hk, Below.heap_setCell _ _ _ _ hk, Below.heap_setCell _ _ _ _ hk, Below.heap_setCell _ _ _ _ hk]
  have hR : w'.heap[R]? = some (.cells #[.int .i64 nm, .int .i64 vr, fv, dv] 42 (0, 0)) := by
    rw [hw, heap_set (heap_set (heap_set (heap_set h.hR)))]
    rfl
  refine ⟨⟨cell_of hR 0, cell_of hR 1, cell_of hR 2, cell_of hR 3⟩, ?_, ?_, ?_, ?_⟩
  · refine own_keep h.hf (fun k _ _ _ hk => far k (fun e => ?_))
    subst e
    rw [h.hR] at hk
    injection hk with hk
    injection hk with _ hk _
    revert hk
    decide
  · refine own_keep h.hd (fun k _ _ _ hk => far k (fun e => ?_))
    subst e
    rw [h.hR] at hk
    injection hk with hk
    injection hk with _ hk _
    revert hk
    decide
  · exact h.rd.keep (fun k hk _ => far k (by omega)) (far blk (by omega))
  · exact ⟨by rw [hw]; exact h.kp.os, by rw [hw]; exact h.kp.tape, by rw [hw]; exact h.kp.output, by rw [hw]; simp only [World.setCell, Array.size_modify]; exact h.kp.size, fun k hk hne => by rw [far k (by omega)]; exact h.kp.block k hk hne⟩

theorem St.row2 (h : St B W blk R Pb w nm vr fv dv fs ds p) : fv.ownBlock ≠ some Pb := by
  intro hk
  rcases h.hf.2 with ⟨rfl, _⟩ | ⟨g', cap', cur, rfl, hb, hgg, _⟩
  · cases hk
  · simp only [Value.ownBlock, Option.some.injEq] at hk
    subst hk
    rw [h.hP] at hgg
    injection hgg with hgg
    injection hgg with _ hgg _
    revert hgg
    decide
theorem St.row3 (h : St B W blk R Pb w nm vr fv dv fs ds p) : dv.ownBlock ≠ some Pb := by
  intro hk
  rcases h.hd.2 with ⟨rfl, _⟩ | ⟨g', cap', cur, rfl, hb, hgg, _⟩
  · cases hk
  · simp only [Value.ownBlock, Option.some.injEq] at hk
    subst hk
    rw [h.hP] at hgg
    injection hgg with hgg
    injection hgg with _ hgg _
    revert hgg
    decide

/-- An append to the files, and the store of the new row. -/
theorem St.app2 {w1 w2 : World} {g cap : Nat} {a b : Int} (h : St B W blk R Pb w1 nm vr fv dv fs ds p) (hg : w1.grownBy w2 fv.ownBlock)
    (ho : w2.ownsRow W.heap.size 132 2 (.slice (some ⟨g, 0, none⟩) (fs.length + 1) cap) (fs.length + 1) (flat fs ++ [.int .i64 a, .int .i64 b])) :
    St B W blk R Pb (w2.setCell ⟨Pb, 2, none⟩ (.slice (some ⟨g, 0, none⟩) (fs.length + 1) cap)) nm vr (.slice (some ⟨g, 0, none⟩) (fs.length + 1) cap) dv (fs ++ [(a, b)]) ds p := by
  have hlt := h.lt
  have lR := h.lR
  have lP := h.lP
  have row : ∀ k, fv.ownBlock = some k → W.heap.size ≤ k ∧ ∃ cur, w1.heap[k]? = some (.cells cur 132 (0, 0)) := by
    intro k hk
    rcases h.hf.2 with ⟨rfl, _⟩ | ⟨g', cap', cur, rfl, hb, hgg, _⟩
    · cases hk
    · simp only [Value.ownBlock, Option.some.injEq] at hk
      subst hk
      exact ⟨hb, cur, hgg⟩
  have kept : ∀ (k : Nat) (c : Array Value) (t : TypeId), w1.heap[k]? = some (Obj.cells c t (0, 0)) → t ≠ 132 → w2.heap[k]? = w1.heap[k]? := fun k c t hk ht => hg.block k (heap_lt hk) (fun e => by
    obtain ⟨_, cur, hc⟩ := row k e.symm
    rw [hk] at hc
    injection hc with hc
    injection hc with _ hc _
    exact ht hc)
  have old : ∀ k, k < W.heap.size → w2.heap[k]? = w1.heap[k]? := fun k hk => hg.block k (Nat.lt_of_lt_of_le hk h.kp.size) (fun e => by
    obtain ⟨h1, _⟩ := row k e.symm
    omega)
  have hP2 := kept Pb _ _ h.hP (by decide)
  rw [h.hP] at hP2
  have gP : Pb ≠ g := by
    rcases ho.2 with ⟨e, _⟩ | ⟨g', cap', cur, e, _, hgg, _⟩
    · cases e
    · injection e with e _ _
      injection e with e
      injection e with e _ _
      subst e
      intro e
      subst e
      rw [hP2] at hgg
      injection hgg with hgg
      injection hgg with _ hgg _
      revert hgg
      decide
  have far : ∀ k, k ≠ Pb → (w2.setCell ⟨Pb, 2, none⟩ (.slice (some ⟨g, 0, none⟩) (fs.length + 1) cap)).heap[k]? = w2.heap[k]? := fun k hk => Below.heap_setCell _ _ _ _ hk
  refine ⟨?_, h.lB, h.lt, ?_, h.lR, h.lP, h.ne, ?_, ?_, ?_, ?_⟩
  · have lB := h.lB
    exact h.rd.keep (fun k hk _ => by rw [far k (by omega), old k (by omega)]) (by rw [far blk (by omega), old blk h.lt])
  · exact ⟨by show w2.os = _; rw [hg.os]; exact h.kp.os, by show w2.tape = _; rw [hg.tape]; exact h.kp.tape, by show w2.output = _; rw [hg.output]; exact h.kp.output, by simp only [World.setCell, Array.size_modify]; exact Nat.le_trans h.kp.size hg.size, fun k hk hne => by rw [far k (by omega), old k hk]; exact h.kp.block k hk hne⟩
  · rw [far R h.ne, kept R _ _ h.hR (by decide)]; exact h.hR
  · rw [heap_set hP2]; rfl
  · rw [flat_snoc, List.length_append]
    exact own_keep ho (fun k _ e _ _ => far k (by
      simp only [Value.ownBlock, Option.some.injEq] at e
      omega))
  · refine own_keep (own_keep h.hd (fun k _ _ _ hk => kept k _ _ hk (by decide))) (fun k _ _ _ hk => far k (fun e => ?_))
    subst e
    rw [hP2] at hk
    injection hk with hk
    injection hk with _ hk _
    revert hk
    decide
/-- An append to the needs, and the store of the new row. -/
theorem St.app3 {w1 w2 : World} {g cap : Nat} {a b : Int} (h : St B W blk R Pb w1 nm vr fv dv fs ds p) (hg : w1.grownBy w2 dv.ownBlock)
    (ho : w2.ownsRow W.heap.size 134 2 (.slice (some ⟨g, 0, none⟩) (ds.length + 1) cap) (ds.length + 1) (flat ds ++ [.int .i64 a, .int .i64 b])) :
    St B W blk R Pb (w2.setCell ⟨Pb, 3, none⟩ (.slice (some ⟨g, 0, none⟩) (ds.length + 1) cap)) nm vr fv (.slice (some ⟨g, 0, none⟩) (ds.length + 1) cap) fs (ds ++ [(a, b)]) p := by
  have hlt := h.lt
  have lR := h.lR
  have lP := h.lP
  have row : ∀ k, dv.ownBlock = some k → W.heap.size ≤ k ∧ ∃ cur, w1.heap[k]? = some (.cells cur 134 (0, 0)) := by
    intro k hk
    rcases h.hd.2 with ⟨rfl, _⟩ | ⟨g', cap', cur, rfl, hb, hgg, _⟩
    · cases hk
    · simp only [Value.ownBlock, Option.some.injEq] at hk
      subst hk
      exact ⟨hb, cur, hgg⟩
  have kept : ∀ (k : Nat) (c : Array Value) (t : TypeId), w1.heap[k]? = some (Obj.cells c t (0, 0)) → t ≠ 134 → w2.heap[k]? = w1.heap[k]? := fun k c t hk ht => hg.block k (heap_lt hk) (fun e => by
    obtain ⟨_, cur, hc⟩ := row k e.symm
    rw [hk] at hc
    injection hc with hc
    injection hc with _ hc _
    exact ht hc)
  have old : ∀ k, k < W.heap.size → w2.heap[k]? = w1.heap[k]? := fun k hk => hg.block k (Nat.lt_of_lt_of_le hk h.kp.size) (fun e => by
    obtain ⟨h1, _⟩ := row k e.symm
    omega)
  have hP2 := kept Pb _ _ h.hP (by decide)
  rw [h.hP] at hP2
  have gP : Pb ≠ g := by
    rcases ho.2 with ⟨e, _⟩ | ⟨g', cap', cur, e, _, hgg, _⟩
    · cases e
    · injection e with e _ _
      injection e with e
      injection e with e _ _
      subst e
      intro e
      subst e
      rw [hP2] at hgg
      injection hgg with hgg
      injection hgg with _ hgg _
      revert hgg
      decide
  have far : ∀ k, k ≠ Pb → (w2.setCell ⟨Pb, 3, none⟩ (.slice (some ⟨g, 0, none⟩) (ds.length + 1) cap)).heap[k]? = w2.heap[k]? := fun k hk => Below.heap_setCell _ _ _ _ hk
  refine ⟨?_, h.lB, h.lt, ?_, h.lR, h.lP, h.ne, ?_, ?_, ?_, ?_⟩
  · have lB := h.lB
    exact h.rd.keep (fun k hk _ => by rw [far k (by omega), old k (by omega)]) (by rw [far blk (by omega), old blk h.lt])
  · exact ⟨by show w2.os = _; rw [hg.os]; exact h.kp.os, by show w2.tape = _; rw [hg.tape]; exact h.kp.tape, by show w2.output = _; rw [hg.output]; exact h.kp.output, by simp only [World.setCell, Array.size_modify]; exact Nat.le_trans h.kp.size hg.size, fun k hk hne => by rw [far k (by omega), old k hk]; exact h.kp.block k hk hne⟩
  · rw [far R h.ne, kept R _ _ h.hR (by decide)]; exact h.hR
  · rw [heap_set hP2]; rfl
  · refine own_keep (own_keep h.hf (fun k _ _ _ hk => kept k _ _ hk (by decide))) (fun k _ _ _ hk => far k (fun e => ?_))
    subst e
    rw [hP2] at hk
    injection hk with hk
    injection hk with _ hk _
    revert hk
    decide
  · rw [flat_snoc, List.length_append]
    exact own_keep ho (fun k _ e _ _ => far k (by
      simp only [Value.ownBlock, Option.some.injEq] at e
      omega))
end Go.Proofs.YtlnieobmhofkdaaGreatDoor
