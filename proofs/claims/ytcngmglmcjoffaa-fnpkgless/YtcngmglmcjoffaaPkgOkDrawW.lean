/- What spec's DrawPkgOk returns: a package in rows of its own, four files and three needs at most; nothing old is written. -/
import Derived.Test.YtcngmglmcjoffaaAnyDrawW
namespace Go.Proofs.Ytcngmglmcjoffaa
open Go.RowKit

attribute [local go_sem ↓] Go.wp_at_zero Go.wp_at_succ

/-- A package in a box, behind a reader. -/
structure PSt (B : Nat) (W : World) (blk Pb : Nat) (w : World) (nm vr : Int) (fv dv : Value) (fs ds : List (Int × Int)) (p : Nat) : Prop where
  rd : Rd B w blk p
  lB : B ≤ W.heap.size
  lt : blk < W.heap.size
  kp : Kp W.heap.size blk W w
  lP : W.heap.size ≤ Pb
  hP : w.heap[Pb]? = some (.cells #[.int .i64 nm, .int .i64 vr, fv, dv] 26 (0, 0))
  hf : w.ownsRow W.heap.size 37 2 fv fs.length (flat fs)
  hd : w.ownsRow W.heap.size 30 2 dv ds.length (flat ds)

variable {B : Nat} {W w w' : World} {blk Pb : Nat} {nm vr : Int} {fv dv : Value} {fs ds : List (Int × Int)} {p p' : Nat}

theorem PSt.keep (h : PSt B W blk Pb w nm vr fv dv fs ds p) (hk : Kp w.heap.size blk w w') (hr : Rd B w' blk p') : PSt B W blk Pb w' nm vr fv dv fs ds p' := by
  have hlt := h.lt
  have lP := h.lP
  exact ⟨hr, h.lB, h.lt, h.kp.trans hk h.kp.size, h.lP, by rw [hk.block Pb (heap_lt h.hP) (by omega)]; exact h.hP,
    own_keep h.hf (fun g _ _ hB hg => hk.block g (heap_lt hg) (by omega)), own_keep h.hd (fun g _ _ hB hg => hk.block g (heap_lt hg) (by omega))⟩
theorem PSt.drew (h : PSt B W blk Pb w nm vr fv dv fs ds p) : PSt B W blk Pb w.drew nm vr fv dv fs ds p :=
  h.keep ⟨rfl, rfl, rfl, Nat.le_refl _, fun _ _ _ => rfl⟩ (h.rd.later (Nat.le_trans h.lB h.kp.size) ((Below.refl _ _).drew))
theorem PSt.alloc (h : PSt B W blk Pb w nm vr fv dv fs ds p) (o : Obj) : PSt B W blk Pb (w.alloc o) nm vr fv dv fs ds p :=
  h.keep (Kp.of_below ((Below.refl _ _).alloc (Nat.le_refl _) o)) (h.rd.later (Nat.le_trans h.lB h.kp.size) ((Below.refl _ _).alloc (Nat.le_refl _) o))
theorem PSt.cells (h : PSt B W blk Pb w nm vr fv dv fs ds p) : (w.cell? ⟨Pb, 0, none⟩ = some (.int .i64 nm) ∧ w.cell? ⟨Pb, 1, none⟩ = some (.int .i64 vr) ∧ w.cell? ⟨Pb, 2, none⟩ = some fv ∧ w.cell? ⟨Pb, 3, none⟩ = some dv) ∧ (w.frozen? ⟨Pb, 0, none⟩ = false ∧ w.frozen? ⟨Pb, 1, none⟩ = false ∧ w.frozen? ⟨Pb, 2, none⟩ = false ∧ w.frozen? ⟨Pb, 3, none⟩ = false) :=
  ⟨⟨cell_of h.hP 0, cell_of h.hP 1, cell_of h.hP 2, cell_of h.hP 3⟩, ⟨frozen_of h.hP 0, frozen_of h.hP 1, frozen_of h.hP 2, frozen_of h.hP 3⟩⟩
theorem PSt.row2 (h : PSt B W blk Pb w nm vr fv dv fs ds p) : fv.ownBlock ≠ some Pb := by
  intro hk
  rcases h.hf.2 with ⟨rfl, _⟩ | ⟨g', cap', cur, rfl, hb, hgg, _⟩
  · cases hk
  · simp only [Value.ownBlock, Option.some.injEq] at hk
    subst hk
    rw [h.hP] at hgg
    injection hgg with hgg
    injection hgg with _ hgg _
    revert hgg
    decide
/-- An append to the files, and the store of the new row. -/
theorem PSt.app2 {w1 w2 : World} {g cap : Nat} {a b : Int} (h : PSt B W blk Pb w1 nm vr fv dv fs ds p) (hg : w1.grownBy w2 fv.ownBlock)
    (ho : w2.ownsRow W.heap.size 37 2 (.slice (some ⟨g, 0, none⟩) (fs.length + 1) cap) (fs.length + 1) (flat fs ++ [.int .i64 a, .int .i64 b])) :
    PSt B W blk Pb (w2.setCell ⟨Pb, 2, none⟩ (.slice (some ⟨g, 0, none⟩) (fs.length + 1) cap)) nm vr (.slice (some ⟨g, 0, none⟩) (fs.length + 1) cap) dv (fs ++ [(a, b)]) ds p := by
  have hlt := h.lt
  have lP := h.lP
  have row : ∀ k, fv.ownBlock = some k → W.heap.size ≤ k ∧ ∃ cur, w1.heap[k]? = some (.cells cur 37 (0, 0)) := by
    intro k hk
    rcases h.hf.2 with ⟨rfl, _⟩ | ⟨g', cap', cur, rfl, hb, hgg, _⟩
    · cases hk
    · simp only [Value.ownBlock, Option.some.injEq] at hk
      subst hk
      exact ⟨hb, cur, hgg⟩
  have kept : ∀ (k : Nat) (c : Array Value) (t : TypeId), w1.heap[k]? = some (Obj.cells c t (0, 0)) → t ≠ 37 → w2.heap[k]? = w1.heap[k]? := fun k c t hk ht => hg.block k (heap_lt hk) (fun e => by
    obtain ⟨_, cur, hc⟩ := row k e.symm
    rw [hk] at hc
    injection hc with hc
    injection hc with _ hc _
    exact ht hc)
  have old : ∀ k, k < W.heap.size → w2.heap[k]? = w1.heap[k]? := fun k hk => hg.block k (Nat.lt_of_lt_of_le hk h.kp.size) (fun e => by
    obtain ⟨h1, _⟩ := row k e.symm
    omega)
  have hP2 := kept Pb _ _ h.hP (by decide)
  rw [h.hP] at hP2
  have gP : Pb ≠ g := by
    rcases ho.2 with ⟨e, _⟩ | ⟨g', cap', cur, e, _, hgg, _⟩
    · cases e
    · injection e with e _ _
      injection e with e
      injection e with e _ _
      subst e
      intro e
      subst e
      rw [hP2] at hgg
      injection hgg with hgg
      injection hgg with _ hgg _
      revert hgg
      decide
  have far : ∀ k, k ≠ Pb → (w2.setCell ⟨Pb, 2, none⟩ (.slice (some ⟨g, 0, none⟩) (fs.length + 1) cap)).heap[k]? = w2.heap[k]? := fun k hk => Below.heap_setCell _ _ _ _ hk
  refine ⟨?_, h.lB, h.lt, ?_, h.lP, ?_, ?_, ?_⟩
  · have lB := h.lB
    exact h.rd.keep (fun k hk _ => by rw [far k (by omega), old k (by omega)]) (by rw [far blk (by omega), old blk h.lt])
  · exact ⟨by show w2.os = _; rw [hg.os]; exact h.kp.os, by show w2.tape = _; rw [hg.tape]; exact h.kp.tape, by show w2.output = _; rw [hg.output]; exact h.kp.output, by simp only [World.setCell, Array.size_modify]; exact Nat.le_trans h.kp.size hg.size, fun k hk hne => by rw [far k (by omega), old k hk]; exact h.kp.block k hk hne⟩
  · rw [heap_set hP2]; rfl
  · rw [flat_snoc, List.length_append]
    exact own_keep ho (fun k _ e _ _ => far k (by
      simp only [Value.ownBlock, Option.some.injEq] at e
      omega))
  · refine own_keep (own_keep h.hd (fun k _ _ _ hk => kept k _ _ hk (by decide))) (fun k _ _ _ hk => far k (fun e => ?_))
    subst e
    rw [hP2] at hk
    injection hk with hk
    injection hk with _ hk _
    revert hk
    decide

/-- A slice that reaches no further than its room. -/
def CapP (v : Value) (l : List (Int × Int)) : Prop := ∃ a c, v = .slice a l.length c ∧ l.length ≤ c ∧ c ≤ 9223372036854775807
theorem own_cap {w : World} {B : Nat} {t : TypeId} {v : Value} {l : List (Int × Int)} (h : w.ownsRow B t 2 v l.length (flat l)) : CapP v l := by
  rcases h.2 with ⟨hv, hn⟩ | ⟨g, cap, cur, hv, hb, hg, hc, hm, _⟩
  · exact ⟨none, 0, by rw [hv, hn], by omega, by omega⟩
  · unfold maxLen at hm
    exact ⟨_, cap, hv, by omega, by omega⟩

/-- The answer is laid into its box, which is older than the rows. -/
theorem PSt.fin (h : PSt B W blk Pb w nm vr fv dv fs ds p) {R : Nat} {r0 r1 r2 r3 : Value} (hR : w.heap[R]? = some (.cells #[r0, r1, r2, r3] 26 (0, 0))) (hRW : R < W.heap.size) {V : World}
    (hV : V = (((w.setCell ⟨R, 0, none⟩ (.int .i64 nm)).setCell ⟨R, 1, none⟩ (.int .i64 vr)).setCell ⟨R, 2, none⟩ fv).setCell ⟨R, 3, none⟩ dv) :
    (V.cell? ⟨R, 0, none⟩ = some (.int .i64 nm) ∧ V.cell? ⟨R, 1, none⟩ = some (.int .i64 vr) ∧ V.cell? ⟨R, 2, none⟩ = some fv ∧ V.cell? ⟨R, 3, none⟩ = some dv) ∧ V.ownsRow W.heap.size 37 2 fv fs.length (flat fs) ∧ V.ownsRow W.heap.size 30 2 dv ds.length (flat ds) ∧ ∀ n, n ≤ R → Below n w V := by
  have far : ∀ k, k ≠ R → V.heap[k]? = w.heap[k]? := fun k hk => by
    rw [hV, Below.heap_setCell _ _ _ _ (by exact hk), Below.heap_setCell _ _ _ _ (by exact hk), Below.heap_setCell _ _ _ _ (by exact hk), Below.heap_setCell _ _ _ _ (by exact hk)]
  have hV2 : V.heap[R]? = some (.cells #[.int .i64 nm, .int .i64 vr, fv, dv] 26 (0, 0)) := by rw [hV, heap_set (heap_set (heap_set (heap_set hR)))]; rfl
  refine ⟨⟨cell_of hV2 0, cell_of hV2 1, cell_of hV2 2, cell_of hV2 3⟩, own_keep h.hf (fun g _ _ hg _ => far g (by omega)), own_keep h.hd (fun g _ _ hg _ => far g (by omega)), fun n hn => ?_⟩
  rw [hV]
  exact ((((Below.refl n w).setCell (by exact hn) _).setCell (by exact hn) _).setCell (by exact hn) _).setCell (by exact hn) _

set_option maxHeartbeats 4000000 in
set_option maxRecDepth 100000 in
theorem drawPkgOk_any (w : World) (a : Option Addr) (len cap : Nat) (h : Bytes w a len cap) :
    Calls Try.prog 4 #[.slice a len cap] w fun e w' => ∃ nm vr fv dv fs ds, e = .returned (.agg #[.int .i64 nm, .int .i64 vr, fv, dv]) ∧ fs.length ≤ 4 ∧ ds.length ≤ 3 ∧ CapP fv fs ∧ Prs w' fv fs ∧ Prs w' dv ds ∧ Below w.heap.size w w' := by
  obtain ⟨i0, hi0, hz0, hz1, hzb⟩ := info_parts infoFile
  go_enter Try.func4, Try.ntmps4
  go_wp2_with fail
  refine (open_behind w a len cap h _).mono ?_
  rintro e w1 ⟨rfl, hr1, h01, b1, hz⟩
  have HB1 := hide b1
  have HR1 := hide hr1
  have H01 := hide h01
  clear b1 hr1 h h01
  go_wp2_with fail
  refine (l71Any_any _ (w.heap.size + 1) 0 (unhide HR1) (by omega) (by omega)).mono ?_
  rintro e w2 ⟨nm, vr, fv, dv, fs, ds, p2, rfl, fl, dl, hp2, of2, od2, hr2, hk2⟩
  obtain ⟨fa, fc, rfl⟩ := own_form of2
  obtain ⟨da, dc, rfl⟩ := own_form od2
  have hz2 := hk2.size
  have hs2 : PSt (w.heap.size + 1) w1 (w.heap.size + 1) w2.heap.size (w2.alloc (.cells #[.int .i64 nm, .int .i64 vr, .slice fa fs.length fc, .slice da ds.length dc] 26)) nm vr (.slice fa fs.length fc) (.slice da ds.length dc) fs ds p2 := by
    have hbel : Below w2.heap.size w2 (w2.alloc (.cells #[.int .i64 nm, .int .i64 vr, .slice fa fs.length fc, .slice da ds.length dc] 26)) := (Below.refl _ _).alloc (Nat.le_refl _) _
    exact ⟨hr2.later (by omega) hbel, by omega, by omega, hk2.trans (Kp.of_below hbel) hz2, hz2, at_new _ _ _ rfl, of2.alloc _, od2.alloc _⟩
  have HS := hide hs2
  clear hs2 of2 od2 hr2 hk2 HR1
  go_wp2_with fail
  refine (pick_any _ (w.heap.size + 1) p2 3 (unhide HS).rd (by omega) (by omega) (by omega)).mono ?_
  generalize w2.alloc _ = W2 at *
  rintro e w4 ⟨v4, rfl, v40, v41, hr4, hk4⟩
  have HS4 := hide ((unhide HS).keep hk4 hr4)
  clear HS hr4 hk4
  clear W2
  generalize w2.heap.size = Pb at *
  have hne2 := (unhide HS4).row2
  by_cases e0 : v4 = 0
  · subst e0
    obtain ⟨⟨c0, c1, c2, c3⟩, ⟨f0, f1, f2, f3⟩⟩ := (unhide HS4).cells
    clear c0 c1 c3 f0 f1 f2 f3
    go_wp2_with fail
    go_region_law (first
      | (refine step_append_lies _ (by rfl) _ _ _ (by rfl) w1.heap.size 37 i0 _ 2 16 Try.underlying23 hi0 hz0 hz1 hzb rfl (by omega) (.slice fa fs.length fc) fs.length (flat fs) (by rfl) (by exact ((((unhide HS4).drew.keep hk6 hr6).keep hk7 hr7).alloc _).hf)
          ⟨w7.heap.size, 0, none⟩ 1 1 [.int .i64 v6, .int .i64 v7] (by rfl) (by rfl) (World.news_of_block (cs := #[.int .i64 v6, .int .i64 v7]) (t := 37) (fr := (0, 0)) (heap_alloc_new w7 _)) (by simp [Value.oneCell'])
          (by omega) (by unfold maxLen; omega) (by omega) (by have := (((unhide HS4).drew.keep hk6 hr6).keep hk7 hr7).kp.size; simp; omega) (w7.heap.size + 1) (by simp) ?_; intro gg cap w8 hown1 hgrow hat hlt; have c8 := (hgrow.cell_far ⟨Pb, 2, none⟩ (heap_lt ((((unhide HS4).drew.keep hk6 hr6).keep hk7 hr7).alloc _).hP) (Ne.symm hne2)).trans ((((unhide HS4).drew.keep hk6 hr6).keep hk7 hr7).alloc _).cells.1.2.2.1; have f8 := (hgrow.frozen_far ⟨Pb, 2, none⟩ (heap_lt ((((unhide HS4).drew.keep hk6 hr6).keep hk7 hr7).alloc _).hP) (Ne.symm hne2)).trans ((((unhide HS4).drew.keep hk6 hr6).keep hk7 hr7).alloc _).cells.2.2.2.1)
      | (go_simp; go_at_call_of 9 (Value.int IntKind.i64 7); refine (pick_any _ (w.heap.size + 1) (p2 + 1) 7 (by exact (unhide HS4).drew.rd) (by omega) (by omega) (by omega)).mono ?_; rintro e w6 ⟨v6, rfl, v60, v61, hr6, hk6⟩; have c6 := ((unhide HS4).drew.keep hk6 hr6).cells.1.2.2.1; dsimp only)
      | (go_simp; go_at_call_of 9 (Value.int IntKind.i64 12); refine (pick_any _ (w.heap.size + 1) (p2 + 1 + 1) 12 (by exact hr6) (by omega) (by omega) (by omega)).mono ?_; rintro e w7 ⟨v7, rfl, v70, v71, hr7, hk7⟩; have c7 := (((unhide HS4).drew.keep hk6 hr6).keep hk7 hr7).cells.1.2.2.1; have c7a := fun o => ((((unhide HS4).drew.keep hk6 hr6).keep hk7 hr7).alloc o).cells.1.2.2.1; dsimp only))
    all_goals
      have HS8 := hide (PSt.app2 ((((unhide HS4).drew.keep hk6 hr6).keep hk7 hr7).alloc _) hgrow hown1)
      generalize w8.setCell _ _ = w9 at *
      clear hgrow hown1 c8 f8 hat hlt hr6 hk6 hr7 hk7 HS4 c6 c7 c7a c2
      obtain ⟨⟨c0, c1, c2, c3⟩, ⟨f0, f1, f2, f3⟩⟩ := (unhide HS8).cells
      have hR9 := ((unhide HS8).kp.block _ (show w.heap.size < w1.heap.size by omega) (by omega)).trans (unhide H01)
      have HR9 := hide hR9
      have r0 : w9.cell? ⟨w.heap.size, 0, none⟩ = _ := cell_of hR9 0
      have r1 : w9.cell? ⟨w.heap.size, 1, none⟩ = _ := cell_of hR9 1
      have r2 : w9.cell? ⟨w.heap.size, 2, none⟩ = _ := cell_of hR9 2
      have r3 : w9.cell? ⟨w.heap.size, 3, none⟩ = _ := cell_of hR9 3
      have s0 := frozen_of hR9 0
      have s1 := frozen_of hR9 1
      have s2 := frozen_of hR9 2
      have s3 := frozen_of hR9 3
      clear f0 f1 f2 f3 hR9
      go_wp2
      obtain ⟨⟨q0, q1, q2, q3⟩, o1, o2, o3⟩ := (unhide HS8).fin (unhide HR9) (by omega) rfl
      have BB := ((unhide HB1).trans (((unhide HS8).kp.mono (show w.heap.size ≤ w1.heap.size by omega)).below (by omega))).trans (o3 w.heap.size (Nat.le_refl _))
      exact bodyPost_ret (v := .agg #[.int .i64 nm, .int .i64 vr, .slice (some ⟨gg, 0, none⟩) (fs.length + 1) cap, .slice da ds.length dc]) (by simp [results, Try.results4, go_sem, q0, q1, q2, q3]) rfl ⟨_, _, _, _, fs ++ [(v6, v7)], ds, rfl, by rw [List.length_append]; simp only [List.length_cons, List.length_nil]; omega, dl, own_cap o1, Prs.own o1 (by rw [List.length_append]; simp only [List.length_cons, List.length_nil]; omega), Prs.own o2 (by omega), BB⟩
  · have b0 : (v4 == 0) = false := by simp [e0]
    obtain ⟨⟨c0, c1, c2, c3⟩, ⟨f0, f1, f2, f3⟩⟩ := (unhide HS4).cells
    have hR9 := ((unhide HS4).kp.block _ (show w.heap.size < w1.heap.size by omega) (by omega)).trans (unhide H01)
    have HR9 := hide hR9
    have r0 : w4.cell? ⟨w.heap.size, 0, none⟩ = _ := cell_of hR9 0
    have r1 : w4.cell? ⟨w.heap.size, 1, none⟩ = _ := cell_of hR9 1
    have r2 : w4.cell? ⟨w.heap.size, 2, none⟩ = _ := cell_of hR9 2
    have r3 : w4.cell? ⟨w.heap.size, 3, none⟩ = _ := cell_of hR9 3
    have s0 := frozen_of hR9 0
    have s1 := frozen_of hR9 1
    have s2 := frozen_of hR9 2
    have s3 := frozen_of hR9 3
    clear f0 f1 f2 f3 hR9 e0
    go_wp2
    obtain ⟨⟨q0, q1, q2, q3⟩, o1, o2, o3⟩ := (unhide HS4).fin (unhide HR9) (by omega) rfl
    have BB := ((unhide HB1).trans (((unhide HS4).kp.mono (show w.heap.size ≤ w1.heap.size by omega)).below (by omega))).trans (o3 w.heap.size (Nat.le_refl _))
    exact bodyPost_ret (v := .agg #[.int .i64 nm, .int .i64 vr, .slice fa fs.length fc, .slice da ds.length dc]) (by simp [results, Try.results4, go_sem, q0, q1, q2, q3]) rfl ⟨_, _, _, _, fs, ds, rfl, by omega, dl, own_cap o1, Prs.own o1 (by omega), Prs.own o2 (by omega), BB⟩
end Go.Proofs.Ytcngmglmcjoffaa
