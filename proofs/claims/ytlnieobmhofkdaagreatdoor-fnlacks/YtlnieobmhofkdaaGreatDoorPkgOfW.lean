import Derived.Test.YtlnieobmhofkdaaGreatDoorMix4
import Derived.Test.YtlnieobmhofkdaaGreatDoorMix15
/- What impl.pkgOf returns: the package that words are put together to, in rows of its own. -/
namespace Go.Proofs.YtlnieobmhofkdaaGreatDoor
open Go.RowKit

/-- A package that is put together: its box, the box of the answer, its rows. -/
structure Sp (W : World) (R Pb : Nat) (w : World) (nm vr : Int) (fv dv : Value) (fs ds : List (Int × Int)) : Prop where
  bl : Below W.heap.size W w
  lR : W.heap.size ≤ R
  lP : W.heap.size ≤ Pb
  ne : R ≠ Pb
  hR : w.heap[R]? = some (.cells #[.int .i64 0, .int .i64 0, .slice none 0 0, .slice none 0 0] 42 (0, 0))
  hP : w.heap[Pb]? = some (.cells #[.int .i64 nm, .int .i64 vr, fv, dv] 42 (0, 0))
  hf : w.ownsRow W.heap.size 132 2 fv fs.length (flat fs)
  hd : w.ownsRow W.heap.size 134 2 dv ds.length (flat ds)

variable {W w w' : World} {R Pb : Nat} {nm vr : Int} {fv dv : Value} {fs ds : List (Int × Int)}

theorem Sp.later (h : Sp W R Pb w nm vr fv dv fs ds) (hb : Below w.heap.size w w') : Sp W R Pb w' nm vr fv dv fs ds := by
  exact ⟨h.bl.trans (hb.mono h.bl.size), h.lR, h.lP, h.ne, by rw [hb.block R (heap_lt h.hR)]; exact h.hR, by rw [hb.block Pb (heap_lt h.hP)]; exact h.hP,
    own_keep h.hf (fun g _ _ _ hg => hb.block g (heap_lt hg)), own_keep h.hd (fun g _ _ _ hg => hb.block g (heap_lt hg))⟩
theorem Sp.alloc (h : Sp W R Pb w nm vr fv dv fs ds) (o : Obj) : Sp W R Pb (w.alloc o) nm vr fv dv fs ds := h.later ((Below.refl _ _).alloc (Nat.le_refl _) o)
theorem Sp.drew (h : Sp W R Pb w nm vr fv dv fs ds) : Sp W R Pb w.drew nm vr fv dv fs ds := h.later (Below.refl _ _).drew
theorem Sp.cells (h : Sp W R Pb w nm vr fv dv fs ds) : (w.cell? ⟨Pb, 0, none⟩ = some (.int .i64 nm) ∧ w.cell? ⟨Pb, 1, none⟩ = some (.int .i64 vr) ∧ w.cell? ⟨Pb, 2, none⟩ = some fv ∧ w.cell? ⟨Pb, 3, none⟩ = some dv) ∧ (w.frozen? ⟨Pb, 0, none⟩ = false ∧ w.frozen? ⟨Pb, 1, none⟩ = false ∧ w.frozen? ⟨Pb, 2, none⟩ = false ∧ w.frozen? ⟨Pb, 3, none⟩ = false) :=
  ⟨⟨cell_of h.hP 0, cell_of h.hP 1, cell_of h.hP 2, cell_of h.hP 3⟩, ⟨frozen_of h.hP 0, frozen_of h.hP 1, frozen_of h.hP 2, frozen_of h.hP 3⟩⟩
theorem Sp.cellsR (h : Sp W R Pb w nm vr fv dv fs ds) : (w.cell? ⟨R, 0, none⟩ = some (.int .i64 0) ∧ w.cell? ⟨R, 1, none⟩ = some (.int .i64 0) ∧ w.cell? ⟨R, 2, none⟩ = some (.slice none 0 0) ∧ w.cell? ⟨R, 3, none⟩ = some (.slice none 0 0)) ∧ (w.frozen? ⟨R, 0, none⟩ = false ∧ w.frozen? ⟨R, 1, none⟩ = false ∧ w.frozen? ⟨R, 2, none⟩ = false ∧ w.frozen? ⟨R, 3, none⟩ = false) :=
  ⟨⟨cell_of h.hR 0, cell_of h.hR 1, cell_of h.hR 2, cell_of h.hR 3⟩, ⟨frozen_of h.hR 0, frozen_of h.hR 1, frozen_of h.hR 2, frozen_of h.hR 3⟩⟩
theorem pkg_not_file {w : World} {k : Nat} {c c' : Array Value} (h : w.heap[k]? = some (.cells c 42 (0, 0))) (h' : w.heap[k]? = some (.cells c' 132 (0, 0))) : False := by
  rw [h] at h'
  injection h' with h'
  injection h' with _ h' _
  revert h'
  decide
theorem pkg_not_dep {w : World} {k : Nat} {c c' : Array Value} (h : w.heap[k]? = some (.cells c 42 (0, 0))) (h' : w.heap[k]? = some (.cells c' 134 (0, 0))) : False := by
  rw [h] at h'
  injection h' with h'
  injection h' with _ h' _
  revert h'
  decide
/-- The name and the version are laid. -/
theorem Sp.head (h : Sp W R Pb w nm vr fv dv fs ds) (a b : Int) {w' : World} (hw : w' = (w.setCell ⟨Pb, 0, none⟩ (.int .i64 a)).setCell ⟨Pb, 1, none⟩ (.int .i64 b)) : Sp W R Pb w' a b fv dv fs ds := by
  have far : ∀ k, k ≠ Pb → w'.heap[k]? = w.heap[k]? := fun k hk => by rw [hw, Below.heap_setCell _ _ _ _ hk, Below.heap_setCell _ _ _ _ hk]
  refine ⟨by rw [hw]; exact (h.bl.setCell h.lP _).setCell h.lP _, h.lR, h.lP, h.ne, by rw [far R h.ne]; exact h.hR, by rw [hw, heap_set (heap_set h.hP)]; rfl, ?_, ?_⟩
  · exact own_keep h.hf (fun k _ _ _ hk => far k (fun e => by subst e; exact pkg_not_file h.hP hk))
  · exact own_keep h.hd (fun k _ _ _ hk => far k (fun e => by subst e; exact pkg_not_dep h.hP hk))
/-- The answer is laid into its box. -/
theorem Sp.fin (h : Sp W R Pb w nm vr fv dv fs ds) {w' : World} (hw : w' = (((w.setCell ⟨R, 0, none⟩ (.int .i64 nm)).setCell ⟨R, 1, none⟩ (.int .i64 vr)).setCell ⟨R, 2, none⟩ fv).setCell ⟨R, 3, none⟩ dv) :
    (w'.cell? ⟨R, 0, none⟩ = some (.int .i64 nm) ∧ w'.cell? ⟨R, 1, none⟩ = some (.int .i64 vr) ∧ w'.cell? ⟨R, 2, none⟩ = some fv ∧ w'.cell? ⟨R, 3, none⟩ = some dv) ∧ w'.ownsRow W.heap.size 132 2 fv fs.length (flat fs) ∧ w'.ownsRow W.heap.size 134 2 dv ds.length (flat ds) ∧ Below W.heap.size W w' := by
  have far : ∀ k, k ≠ R → w'.heap[k]? = w.heap[k]? := fun k hk => by
    rw [hw, Below.heap_setCell _ _ _ _ hk, Below.heap_setCell _ _ _ _ hk, Below.heap_setCell _ _ _ _ hk, Below.heap_setCell _ _ _ _ hk]
  have hR : w'.heap[R]? = some (.cells #[.int .i64 nm, .int .i64 vr, fv, dv] 42 (0, 0)) := by
    rw [hw, heap_set (heap_set (heap_set (heap_set h.hR)))]
    rfl
  refine ⟨⟨cell_of hR 0, cell_of hR 1, cell_of hR 2, cell_of hR 3⟩, ?_, ?_, ?_⟩
  · exact own_keep h.hf (fun k _ _ _ hk => far k (fun e => by subst e; exact pkg_not_file h.hR hk))
  · exact own_keep h.hd (fun k _ _ _ hk => far k (fun e => by subst e; exact pkg_not_dep h.hR hk))
  · rw [hw]; exact (((h.bl.setCell h.lR _).setCell h.lR _).setCell h.lR _).setCell h.lR _

theorem Sp.row2 (h : Sp W R Pb w nm vr fv dv fs ds) : fv.ownBlock ≠ some Pb := by
  intro hk
  rcases h.hf.2 with ⟨rfl, _⟩ | ⟨g', cap', cur, rfl, hb, hgg, _⟩
  · cases hk
  · simp only [Value.ownBlock, Option.some.injEq] at hk
    subst hk
    rw [h.hP] at hgg
    injection hgg with hgg
    injection hgg with _ hgg _
    revert hgg
    decide
theorem Sp.row3 (h : Sp W R Pb w nm vr fv dv fs ds) : dv.ownBlock ≠ some Pb := by
  intro hk
  rcases h.hd.2 with ⟨rfl, _⟩ | ⟨g', cap', cur, rfl, hb, hgg, _⟩
  · cases hk
  · simp only [Value.ownBlock, Option.some.injEq] at hk
    subst hk
    rw [h.hP] at hgg
    injection hgg with hgg
    injection hgg with _ hgg _
    revert hgg
    decide

/-- An append to the files, and the store of the new row. -/
theorem Sp.app2 {w1 w2 : World} {g cap : Nat} {a b : Int} (h : Sp W R Pb w1 nm vr fv dv fs ds) (hg : w1.grownBy w2 fv.ownBlock)
    (ho : w2.ownsRow W.heap.size 132 2 (.slice (some ⟨g, 0, none⟩) (fs.length + 1) cap) (fs.length + 1) (flat fs ++ [.int .i64 a, .int .i64 b])) :
    Sp W R Pb (w2.setCell ⟨Pb, 2, none⟩ (.slice (some ⟨g, 0, none⟩) (fs.length + 1) cap)) nm vr (.slice (some ⟨g, 0, none⟩) (fs.length + 1) cap) dv (fs ++ [(a, b)]) ds := by
  have lR := h.lR
  have lP := h.lP
  have row : ∀ k, fv.ownBlock = some k → W.heap.size ≤ k ∧ ∃ cur, w1.heap[k]? = some (.cells cur 132 (0, 0)) := by
    intro k hk
    rcases h.hf.2 with ⟨rfl, _⟩ | ⟨g', cap', cur, rfl, hb, hgg, _⟩
    · cases hk
    · simp only [Value.ownBlock, Option.some.injEq] at hk
      subst hk
      exact ⟨hb, cur, hgg⟩
  have kept : ∀ (k : Nat) (c : Array Value) (t : TypeId), w1.heap[k]? = some (Obj.cells c t (0, 0)) → t ≠ 132 → w2.heap[k]? = w1.heap[k]? := fun k c t hk ht => hg.block k (heap_lt hk) (fun e => by
    obtain ⟨_, cur, hc⟩ := row k e.symm
    rw [hk] at hc
    injection hc with hc
    injection hc with _ hc _
    exact ht hc)
  have old : ∀ k, k < W.heap.size → w2.heap[k]? = w1.heap[k]? := fun k hk => hg.block k (Nat.lt_of_lt_of_le hk h.bl.size) (fun e => by
    obtain ⟨h1, _⟩ := row k e.symm
    omega)
  have hP2 := kept Pb _ _ h.hP (by decide)
  rw [h.hP] at hP2
  have gP : Pb ≠ g := by
    rcases ho.2 with ⟨e, _⟩ | ⟨g', cap', cur, e, _, hgg, _⟩
    · cases e
    · injection e with e _ _
      injection e with e
      injection e with e _ _
      subst e
      intro e
      subst e
      rw [hP2] at hgg
      injection hgg with hgg
      injection hgg with _ hgg _
      revert hgg
      decide
  have far : ∀ k, k ≠ Pb → (w2.setCell ⟨Pb, 2, none⟩ (.slice (some ⟨g, 0, none⟩) (fs.length + 1) cap)).heap[k]? = w2.heap[k]? := fun k hk => Below.heap_setCell _ _ _ _ hk
  refine ⟨?_, h.lR, h.lP, h.ne, ?_, ?_, ?_, ?_⟩
  · exact ⟨by show w2.os = _; rw [hg.os]; exact h.bl.os, by show w2.tape = _; rw [hg.tape]; exact h.bl.tape, by show w2.output = _; rw [hg.output]; exact h.bl.output, by simp only [World.setCell, Array.size_modify]; exact Nat.le_trans h.bl.size hg.size, fun k hk => by rw [far k (by omega), old k hk]; exact h.bl.block k hk⟩
  · rw [far R h.ne, kept R _ _ h.hR (by decide)]; exact h.hR
  · rw [heap_set hP2]; rfl
  · rw [flat_snoc, List.length_append]
    exact own_keep ho (fun k _ e _ _ => far k (by
      simp only [Value.ownBlock, Option.some.injEq] at e
      omega))
  · refine own_keep (own_keep h.hd (fun k _ _ _ hk => kept k _ _ hk (by decide))) (fun k _ _ _ hk => far k (fun e => ?_))
    subst e
    rw [hP2] at hk
    injection hk with hk
    injection hk with _ hk _
    revert hk
    decide
/-- An append to the needs, and the store of the new row. -/
theorem Sp.app3 {w1 w2 : World} {g cap : Nat} {a b : Int} (h : Sp W R Pb w1 nm vr fv dv fs ds) (hg : w1.grownBy w2 dv.ownBlock)
    (ho : w2.ownsRow W.heap.size 134 2 (.slice (some ⟨g, 0, none⟩) (ds.length + 1) cap) (ds.length + 1) (flat ds ++ [.int .i64 a, .int .i64 b])) :
    Sp W R Pb (w2.setCell ⟨Pb, 3, none⟩ (.slice (some ⟨g, 0, none⟩) (ds.length + 1) cap)) nm vr fv (.slice (some ⟨g, 0, none⟩) (ds.length + 1) cap) fs (ds ++ [(a, b)]) := by
  have lR := h.lR
  have lP := h.lP
  have row : ∀ k, dv.ownBlock = some k → W.heap.size ≤ k ∧ ∃ cur, w1.heap[k]? = some (.cells cur 134 (0, 0)) := by
    intro k hk
    rcases h.hd.2 with ⟨rfl, _⟩ | ⟨g', cap', cur, rfl, hb, hgg, _⟩
    · cases hk
    · simp only [Value.ownBlock, Option.some.injEq] at hk
      subst hk
      exact ⟨hb, cur, hgg⟩
  have kept : ∀ (k : Nat) (c : Array Value) (t : TypeId), w1.heap[k]? = some (Obj.cells c t (0, 0)) → t ≠ 134 → w2.heap[k]? = w1.heap[k]? := fun k c t hk ht => hg.block k (heap_lt hk) (fun e => by
    obtain ⟨_, cur, hc⟩ := row k e.symm
    rw [hk] at hc
    injection hc with hc
    injection hc with _ hc _
    exact ht hc)
  have old : ∀ k, k < W.heap.size → w2.heap[k]? = w1.heap[k]? := fun k hk => hg.block k (Nat.lt_of_lt_of_le hk h.bl.size) (fun e => by
    obtain ⟨h1, _⟩ := row k e.symm
    omega)
  have hP2 := kept Pb _ _ h.hP (by decide)
  rw [h.hP] at hP2
  have gP : Pb ≠ g := by
    rcases ho.2 with ⟨e, _⟩ | ⟨g', cap', cur, e, _, hgg, _⟩
    · cases e
    · injection e with e _ _
      injection e with e
      injection e with e _ _
      subst e
      intro e
      subst e
      rw [hP2] at hgg
      injection hgg with hgg
      injection hgg with _ hgg _
      revert hgg
      decide
  have far : ∀ k, k ≠ Pb → (w2.setCell ⟨Pb, 3, none⟩ (.slice (some ⟨g, 0, none⟩) (ds.length + 1) cap)).heap[k]? = w2.heap[k]? := fun k hk => Below.heap_setCell _ _ _ _ hk
  refine ⟨?_, h.lR, h.lP, h.ne, ?_, ?_, ?_, ?_⟩
  · exact ⟨by show w2.os = _; rw [hg.os]; exact h.bl.os, by show w2.tape = _; rw [hg.tape]; exact h.bl.tape, by show w2.output = _; rw [hg.output]; exact h.bl.output, by simp only [World.setCell, Array.size_modify]; exact Nat.le_trans h.bl.size hg.size, fun k hk => by rw [far k (by omega), old k hk]; exact h.bl.block k hk⟩
  · rw [far R h.ne, kept R _ _ h.hR (by decide)]; exact h.hR
  · rw [heap_set hP2]; rfl
  · refine own_keep (own_keep h.hf (fun k _ _ _ hk => kept k _ _ hk (by decide))) (fun k _ _ _ hk => far k (fun e => ?_))
    subst e
    rw [hP2] at hk
    injection hk with hk
    injection hk with _ hk _
    revert hk
    decide
  · rw [flat_snoc, List.length_append]
    exact own_keep ho (fun k _ e _ _ => far k (by
      simp only [Value.ownBlock, Option.some.injEq] at e
      omega))

theorem taHH (v : Value) (w : World) : (Instr.typeAssert (.iface 154 v) 96 154 true).run Tryz.prog w = .ok (.tuple #[v, .bool true]) w := by kernel_rfl
theorem taFH (v : Value) (w : World) : (Instr.typeAssert (.iface 155 v) 96 154 true).run Tryz.prog w = .ok (.tuple #[.agg #[.int .i64 0, .int .i64 0], .bool false]) w := by kernel_rfl
theorem taFF (v : Value) (w : World) : (Instr.typeAssert (.iface 155 v) 96 155 true).run Tryz.prog w = .ok (.tuple #[v, .bool true]) w := by kernel_rfl
theorem taNH (v : Value) (w : World) : (Instr.typeAssert (.iface 156 v) 96 154 true).run Tryz.prog w = .ok (.tuple #[.agg #[.int .i64 0, .int .i64 0], .bool false]) w := by kernel_rfl
theorem taNF (v : Value) (w : World) : (Instr.typeAssert (.iface 156 v) 96 155 true).run Tryz.prog w = .ok (.tuple #[.agg #[.int .i64 0, .int .i64 0], .bool false]) w := by kernel_rfl
theorem taNN (v : Value) (w : World) : (Instr.typeAssert (.iface 156 v) 96 156 true).run Tryz.prog w = .ok (.tuple #[v, .bool true]) w := by kernel_rfl

theorem Sp.start (w : World) : Sp w w.heap.size (w.heap.size + 1) ((w.alloc (.cells #[.int .i64 0, .int .i64 0, .slice none 0 0, .slice none 0 0] 42)).alloc (.cells #[.int .i64 0, .int .i64 0, .slice none 0 0, .slice none 0 0] 42)) 0 0 (.slice none 0 0) (.slice none 0 0) [] [] := by
  refine ⟨((Below.refl _ _).alloc (Nat.le_refl _) _).alloc (by rw [sz1]; omega) _, Nat.le_refl _, Nat.le_succ _, by omega, ?_, ?_, ⟨rfl, .inl ⟨rfl, rfl⟩⟩, ⟨rfl, .inl ⟨rfl, rfl⟩⟩⟩
  · rw [at_old _ _ _ (by rw [sz1]; omega), at_new _ _ _ rfl]
  · rw [at_new _ _ _ (by rw [sz1])]

set_option maxHeartbeats 4000000 in
set_option maxRecDepth 100000 in
theorem pkgOf_any (w : World) (v : Value) (ps : List (Nat × Int × Int)) (B : Nat) (ho : w.ownsRow B 96 1 v ps.length (ps.map wordV)) (h1 : 0 < ps.length) (h2 : ps.length ≤ 100) :
    Calls Tryz.prog 102 #[v] w fun e w' => ∃ fv dv, e = .returned (.agg #[.int .i64 (Pk.foldW ps).1, .int .i64 (Pk.foldW ps).2.1, fv, dv]) ∧ w'.ownsRow w.heap.size 132 2 fv (Pk.foldW ps).2.2.1.length (flat (Pk.foldW ps).2.2.1) ∧ w'.ownsRow w.heap.size 134 2 dv (Pk.foldW ps).2.2.2.length (flat (Pk.foldW ps).2.2.2) ∧ Below w.heap.size w w' := by
  obtain ⟨i0, hi0, hz0, hz1, hz2⟩ := info_parts infoFile
  obtain ⟨i1, hj0, hy0, hy1, hy2⟩ := info_parts infoDep
  obtain ⟨g, cap, rfl, hg1, hg2⟩ := ho.form h1
  have HO := hide ho
  have HST := hide (Sp.start w)
  clear ho
  go_enter Tryz.func102, Tryz.ntmps102
  go_wp2_with fail
  go_loopw [12] (fun i w' => ∃ (k : Nat) (nm vr : Int) (fv dv : Value) (fs ds : List (Int × Int)), k ≤ ps.length ∧ i = .int .i64 k ∧ Pk.foldW (ps.take k) = (nm, vr, fs, ds) ∧ Sp w w.heap.size (w.heap.size + 1) w' nm vr fv dv fs ds) (fun i _ => ps.length - (intOf i).toNat)
  case atStart => exact ⟨0, 0, 0, _, _, [], [], Nat.zero_le _, rfl, rfl, unhide HST⟩
  case round =>
    clear HST
    obtain ⟨k, nm, vr, fv, dv, fs, ds, hk, rfl, hfold, hs⟩ := hrel
    obtain ⟨⟨c0, c1, c2, c3⟩, ⟨f0, f1, f2, f3⟩⟩ := hs.cells
    have hlen := Pk.fold_len (ps.take k)
    rw [hfold] at hlen
    have hlen1 : fs.length ≤ 100 := by have := hlen.1; simp only [List.length_take] at this; omega
    have hlen2 : ds.length ≤ 100 := by have := hlen.2; simp only [List.length_take] at this; omega
    have HF := hide hfold
    have HS := hide hs
    have hne2 := hs.row2
    have hne3 := hs.row3
    have hPlt := heap_lt hs.hP
    have hzw := hs.bl.size
    by_cases hlt : k < ps.length
    · have hc : wr.cell? ⟨g, k, none⟩ = some (wordV ps[k]) := by
        have hc' : w.cell? ⟨g, k, none⟩ = some (wordV ps[k]) := by
          have := (unhide HO).cells (g := g) rfl k (wordV ps[k]) (by simp [hlt])
          have hadd : (⟨g, 0, none⟩ : Addr).add k = ⟨g, k, none⟩ := by unfold Addr.add; split <;> simp_all
          rwa [hadd] at this
        rw [hs.bl.cell hg2]
        exact hc'
      have HT : Hid (Pk.foldW (ps.take (k + 1)) = Pk.stepW (nm, vr, fs, ds) ps[k]) := by
        show _ = _
        rw [List.take_succ_eq_append_getElem hlt, Pk.fold_snoc, hfold]
      clear hs hfold hlen
      have hi0' : (0 : Int) ≤ (k : Int) := Int.natCast_nonneg _
      have hi1 : (k : Int) < (ps.length : Int) := by omega
      generalize ps[k] = x at *
      obtain ⟨kd, a, b⟩ := x
      match kd with
      | 0 =>
        have hc' : wr.cell? ⟨g, k, none⟩ = some (.iface 154 (.agg #[.int .i64 a, .int .i64 b])) := hc
        clear hc c2 c3 f2 f3
        have t1 := taHH
        have c0a : ∀ o, (wr.alloc o).cell? ⟨w.heap.size + 1, 0, none⟩ = some (.int .i64 nm) := fun o => ((unhide HS).alloc o).cells.1.1
        have c1a : ∀ o, (wr.alloc o).cell? ⟨w.heap.size + 1, 1, none⟩ = some (.int .i64 vr) := fun o => ((unhide HS).alloc o).cells.1.2.1
        go_wp2_with fail
        go_region
        all_goals
          have HS2 := hide ((((unhide HS).head a b rfl).alloc (.cells #[.int .i64 a, .int .i64 b] 154)).drew)
          generalize World.drew _ = w5 at *
          go_wp2
          go_roundw
          case rel => exact ⟨k + 1, a, b, fv, dv, fs, ds, by omega, by go_num, unhide HT, unhide HS2⟩
          case measure => simp [intOf]; omega
      | 1 =>
        have hc' : wr.cell? ⟨g, k, none⟩ = some (.iface 155 (.agg #[.int .i64 a, .int .i64 b])) := hc
        clear hc c0 c1 c3 f0 f1 f3
        have t1 := taFH
        have t2 := taFF
        have c2a : ∀ o, (wr.alloc o).cell? ⟨w.heap.size + 1, 2, none⟩ = some fv := fun o => ((unhide HS).alloc o).cells.1.2.2.1
        have c2b : ∀ o o', ((wr.alloc o).alloc o').cell? ⟨w.heap.size + 1, 2, none⟩ = some fv := fun o o' => (((unhide HS).alloc o).alloc o').cells.1.2.2.1
        go_wp2_with (at_builtin; refine wpList_append_lies _ rfl _ _ _ rfl w.heap.size 132 i0 _ 2 16 Tryz.underlying39 hi0 hz0 hz1 hz2 rfl (by omega) fv fs.length (flat fs) rfl (((unhide HS).alloc _).alloc _).hf ⟨wr.heap.size + 1, 0, none⟩ 1 1 [.int .i64 a, .int .i64 b] rfl rfl (World.news_of_block (cs := #[.int .i64 a, .int .i64 b]) (t := 132) (fr := (0, 0)) (by rw [← sz1 wr (.cells #[.int .i64 a, .int .i64 b] 155)]; exact heap_alloc_new _ _)) (by simp [Value.oneCell']) (by omega) (by unfold maxLen; omega) (by omega) (by rw [sz1, sz1]; omega) (wr.heap.size + 1 + 1) (by rw [sz1, sz1]) ?_; intro gg cap' w6 hown1 hgrow hat hlt4; have c4 := (hgrow.cell_far ⟨w.heap.size + 1, 2, none⟩ (heap_lt (((unhide HS).alloc _).alloc _).hP) (Ne.symm hne2)).trans (((unhide HS).alloc _).alloc _).cells.1.2.2.1; have f4 := (hgrow.frozen_far ⟨w.heap.size + 1, 2, none⟩ (heap_lt (((unhide HS).alloc _).alloc _).hP) (Ne.symm hne2)).trans (((unhide HS).alloc _).alloc _).cells.2.2.2.1)
        have HS2 := hide (Sp.app2 (((unhide HS).alloc _).alloc _) hgrow hown1)
        go_roundw
        case rel => exact ⟨k + 1, nm, vr, _, dv, fs ++ [(a, b)], ds, by omega, by go_num, unhide HT, unhide HS2⟩
        case measure => simp [intOf]; omega
      | kd + 2 =>
        have hc' : wr.cell? ⟨g, k, none⟩ = some (.iface 156 (.agg #[.int .i64 a, .int .i64 b])) := hc
        clear hc c0 c1 c2 f0 f1 f2
        have t1 := taNH
        have t2 := taNF
        have t3 := taNN
        have c2a : ∀ o, (wr.alloc o).cell? ⟨w.heap.size + 1, 3, none⟩ = some dv := fun o => ((unhide HS).alloc o).cells.1.2.2.2
        have c2b : ∀ o o', ((wr.alloc o).alloc o').cell? ⟨w.heap.size + 1, 3, none⟩ = some dv := fun o o' => (((unhide HS).alloc o).alloc o').cells.1.2.2.2
        go_wp2_with (at_builtin; refine wpList_append_lies _ rfl _ _ _ rfl w.heap.size 134 i1 _ 2 16 Tryz.underlying40 hj0 hy0 hy1 hy2 rfl (by omega) dv ds.length (flat ds) rfl (((unhide HS).alloc _).alloc _).hd ⟨wr.heap.size + 1, 0, none⟩ 1 1 [.int .i64 a, .int .i64 b] rfl rfl (World.news_of_block (cs := #[.int .i64 a, .int .i64 b]) (t := 134) (fr := (0, 0)) (by rw [← sz1 wr (.cells #[.int .i64 a, .int .i64 b] 156)]; exact heap_alloc_new _ _)) (by simp [Value.oneCell']) (by omega) (by unfold maxLen; omega) (by omega) (by rw [sz1, sz1]; omega) (wr.heap.size + 1 + 1) (by rw [sz1, sz1]) ?_; intro gg cap' w6 hown1 hgrow hat hlt4; have c4 := (hgrow.cell_far ⟨w.heap.size + 1, 3, none⟩ (heap_lt (((unhide HS).alloc _).alloc _).hP) (Ne.symm hne3)).trans (((unhide HS).alloc _).alloc _).cells.1.2.2.2; have f4 := (hgrow.frozen_far ⟨w.heap.size + 1, 3, none⟩ (heap_lt (((unhide HS).alloc _).alloc _).hP) (Ne.symm hne3)).trans (((unhide HS).alloc _).alloc _).cells.2.2.2.2)
        have HS2 := hide (Sp.app3 (((unhide HS).alloc _).alloc _) hgrow hown1)
        go_roundw
        case rel => exact ⟨k + 1, nm, vr, fv, _, fs, ds ++ [(a, b)], by omega, by go_num, unhide HT, unhide HS2⟩
        case measure => simp [intOf]; omega
    · obtain rfl : k = ps.length := by omega
      rw [List.take_length] at HF
      obtain ⟨⟨r0, r1, r2, r3⟩, ⟨q0, q1, q2, q3⟩⟩ := hs.cellsR
      have hRlt := heap_lt hs.hR
      clear hlt hfold hlen
      obtain ⟨fa, fc, rfl⟩ := own_form hs.hf
      obtain ⟨da, dc, rfl⟩ := own_form hs.hd
      have HFIN := hide (hs.fin rfl)
      clear hs
      go_wp2
      generalize World.setCell _ _ _ = w7 at *
      obtain ⟨⟨z0, z1, z2, z3⟩, hf, hd, hb⟩ := unhide HFIN
      have HB := hide hb
      have HFF := hide hf
      have HDD := hide hd
      clear hb hf hd HFIN
      exact bodyPost_ret (v := .agg #[.int .i64 nm, .int .i64 vr, .slice fa fs.length fc, .slice da ds.length dc]) (by simp [results, Tryz.results102, go_sem, z0, z1, z2, z3]) rfl (by
        rw [unhide HF]
        exact ⟨_, _, rfl, unhide HFF, unhide HDD, unhide HB⟩)
end Go.Proofs.YtlnieobmhofkdaaGreatDoor
