/- What spec.l12Find and spec.l12With return: where a package of a name and version is; a row of one's own with a package more, in its place. -/
import Derived.Test.YtlnieobmhofkdaaGreatDoorBoxW
import Derived.Deep.AppendLies
namespace Go.Proofs.YtlnieobmhofkdaaGreatDoor
open Go.RowKit

set_option maxHeartbeats 4000000 in
set_option maxRecDepth 100000 in
theorem l12Find_any {N : Nat → Prop} (w : World) (v : Value) (l : List Ix.Pg) (n u : Int) (h : Pks N w v l) :
    Calls Tryz.prog 61 #[v, .int .i64 n, .int .i64 u] w fun e w' => w' = w ∧ ∃ r : Int, e = .returned (.int .i64 r) ∧ ((r = -1 ∧ ∀ i, i < l.length → Ix.named (Ix.pg l i) n u = false) ∨ (0 ≤ r ∧ r < l.length ∧ Ix.named (Ix.pg l r.toNat) n u = true)) := by
  obtain ⟨a, cap, rfl, hlen, hrow⟩ := h
  go_enter Tryz.func61, Tryz.ntmps61
  go_wp2
  go_loop [7] (fun i => ∃ k : Nat, k ≤ l.length ∧ i = .int .i64 k ∧ ∀ j, j < k → Ix.named (Ix.pg l j) n u = false) (fun i => l.length - (intOf i).toNat)
  case atStart => exact ⟨0, Nat.zero_le _, rfl, fun j hj => by omega⟩
  case round =>
    obtain ⟨k, hk, rfl, hno⟩ := hrel
    have HN := hide hno
    clear hno
    by_cases hlt : k < l.length
    · obtain ⟨b, off, rfl, hb, _, hc⟩ := hrow (by omega)
      obtain ⟨fv, dv, ⟨c0, c1, _, _⟩, _, _⟩ := hc k hlt
      clear hc hrow
      have hi0 : (0 : Int) ≤ (k : Int) := Int.natCast_nonneg _
      have hi1 : (k : Int) < (l.length : Int) := by omega
      have hstep : Ix.named (Ix.pg l k) n u = (decide ((Ix.pg l k).1 = n) && decide ((Ix.pg l k).2.1 = u)) := rfl
      generalize (Ix.pg l k).1 = nm at *
      generalize (Ix.pg l k).2.1 = vr at *
      by_cases h1 : nm = n
      · have h1' : (nm == n) = true := by simpa using h1
        have h1d : decide (nm = n) = true := by simpa using h1
        rw [h1d] at hstep
        clear h1 h1d
        by_cases h2 : vr = u
        · have h2' : (vr == u) = true := by simpa using h2
          have h2d : decide (vr = u) = true := by simpa using h2
          rw [h2d] at hstep
          have HST := hide hstep
          clear h2 h2d hstep
          go_wp2
          go_ret
          exact ⟨rfl, k, rfl, .inr ⟨hi0, hi1, by rw [Int.toNat_natCast]; exact unhide HST⟩⟩
        · have h2' : (vr == u) = false := by simpa using h2
          have h2d : decide (vr = u) = false := by simpa using h2
          rw [h2d] at hstep
          have HST := hide hstep
          clear h2 h2d hstep
          go_wp2
          go_round
          case rel => exact ⟨k + 1, by omega, by go_num, fun j hj => by
            rcases Nat.lt_or_ge j k with h | h
            · exact unhide HN j h
            · obtain rfl : j = k := by omega
              exact unhide HST⟩
          case measure => simp [intOf]; omega
      · have h1' : (nm == n) = false := by simpa using h1
        have h1d : decide (nm = n) = false := by simpa using h1
        rw [h1d] at hstep
        have HST := hide hstep
        clear h1 h1d hstep
        go_wp2
        go_round
        case rel => exact ⟨k + 1, by omega, by go_num, fun j hj => by
          rcases Nat.lt_or_ge j k with h | h
          · exact unhide HN j h
          · obtain rfl : j = k := by omega
            exact unhide HST⟩
        case measure => simp [intOf]; omega
    · go_wp2
      go_ret
      exact ⟨rfl, -1, rfl, .inl ⟨rfl, fun i hi => unhide HN i (by omega)⟩⟩

structure Ws (N : Nat → Prop) (W w : World) (nm vr : Int) (fv dv ov : Value) (els : List El) : Prop where
  box : w.heap[W.heap.size]? = some (.cells #[.int .i64 nm, .int .i64 vr, fv, dv] 42 (0, 0))
  own : w.ownsRow (W.heap.size + 1) 42 4 ov els.length (flat4 els)
  el : ∀ e ∈ els, PrsN N W e.2.1 e.1.2.2.1 ∧ PrsN N W e.2.2 e.1.2.2.2
  bel : Below W.heap.size W w
section
variable {N : Nat → Prop} {W w w' : World} {nm vr : Int} {fv dv ov : Value} {els : List El}
theorem Ws.later (h : Ws N W w nm vr fv dv ov els) (hb : Below w.heap.size w w') : Ws N W w' nm vr fv dv ov els :=
  ⟨(hb.block _ (heapLt h.box)).trans h.box, own_later h.own hb, h.el, h.bel.trans (hb.mono h.bel.size)⟩
theorem Ws.app {w2 : World} {ov' : Value} {e : El} (h : Ws N W w nm vr fv dv ov els) (hg : w.grownBy w2 ov.ownBlock) (ho : w2.ownsRow (W.heap.size + 1) 42 4 ov' (els.length + 1) (flat4 els ++ [.int .i64 e.1.1, .int .i64 e.1.2.1, e.2.1, e.2.2]))
    (he : PrsN N W e.2.1 e.1.2.2.1 ∧ PrsN N W e.2.2 e.1.2.2.2) : Ws N W w2 nm vr fv dv ov' (els ++ [e]) := by
  have hs := heapLt h.box
  refine ⟨(hg.block _ hs (fun e => ?_)).trans h.box, ?_, ?_, ?_⟩
  · have := (own_row h.own _ e.symm).1; omega
  · rw [flat4_snoc, List.length_append]; exact ho
  · intro x hx
    rcases List.mem_append.1 hx with hx | hx
    · exact h.el x hx
    · obtain rfl : x = e := by simpa using hx
      exact he
  · have h1 : Below (W.heap.size) w w2 := ⟨hg.os, hg.tape, hg.output, hg.size, fun k hk => hg.block k (by omega) (fun e => by have := (own_row h.own _ e.symm).1; omega)⟩
    exact h.bel.trans h1
theorem Ws.start (h : w' = (W.alloc (.cells #[.int .i64 nm, .int .i64 vr, fv, dv] 42)).alloc (.cells #[] 42)) : Ws N W w' nm vr fv dv (.slice (some ⟨W.heap.size + 1, 0, none⟩) 0 0) [] := by
  subst h
  refine ⟨?_, ⟨rfl, .inr ⟨W.heap.size + 1, 0, #[], rfl, by omega, ?_, by exact Nat.le_refl _, by unfold maxLen; omega, rfl, rfl⟩⟩, fun e he => (by cases he), ((Below.refl _ _).alloc (Nat.le_refl _) _).alloc (by rw [sz1]; omega) _⟩
  · rw [at_old _ _ _ (by rw [sz1]; omega), at_new _ _ _ rfl]
  · rw [at_new _ _ _ (by rw [sz1])]
theorem Ws.pown (h : Ws N W w nm vr fv dv ov els) : POwn N W.heap.size w ov els := by
  refine ⟨⟨h.own.1, ?_⟩, fun e he => ⟨(h.el e he).1.later h.bel, (h.el e he).2.later h.bel⟩⟩
  rcases h.own.2 with hn | ⟨g, cap, cur, rfl, hb1, hgg, rest⟩
  · exact .inl hn
  · exact .inr ⟨g, cap, cur, rfl, by omega, hgg, rest⟩
end

set_option maxHeartbeats 4000000 in
set_option maxRecDepth 100000 in
theorem l12With_any {N : Nat → Prop} (w : World) (v : Value) (l : List Ix.Pg) (p : Ix.Pg) (fv dv : Value) (h : Pks N w v l) (hf : PrsN N w fv p.2.2.1) (hd : PrsN N w dv p.2.2.2) (hl : l.length ≤ 1000) :
    Calls Tryz.prog 90 #[v, .agg #[.int .i64 p.1, .int .i64 p.2.1, fv, dv]] w fun e w' => ∃ (ov : Value) (els : List El), e = .returned ov ∧ POwn N w.heap.size w' ov els ∧ els.map (·.1) = Ix.wth l p ∧ Below w.heap.size w w' := by
  obtain ⟨i0, hI0, hz0, hz1, hz2⟩ := info_parts infoPkg
  obtain ⟨a, cap, rfl, hlen, hrow⟩ := h
  obtain ⟨nm, vr, fs, ds⟩ := p
  dsimp only at hf hd ⊢
  obtain ⟨pfa, pfc, hfv⟩ := hf.slice
  obtain ⟨pda, pdc, hdv⟩ := hd.slice
  subst hfv hdv
  have HFP := hide hf
  have HDP := hide hd
  have HR := hide hrow
  have HS := hide (Ws.start (N := N) (W := w) (nm := nm) (vr := vr) (fv := .slice pfa fs.length pfc) (dv := .slice pda ds.length pdc) rfl)
  clear hf hd hrow hlen
  go_enter Tryz.func90, Tryz.ntmps90
  go_wp2_with fail
  go_loopw [5, 6] (fun o i w' => ∃ (k : Nat) (els : List El), k ≤ l.length ∧ i = .int .i64 k ∧ els.length ≤ k ∧ els.map (·.1) = (l.take k).filter (fun x => Ix.ahead x (nm, vr, fs, ds)) ∧ Ws N w w' nm vr (.slice pfa fs.length pfc) (.slice pda ds.length pdc) o els) (fun _ i _ => l.length - (intOf i).toNat)
  case atStart => exact ⟨0, [], Nat.zero_le _, rfl, Nat.le_refl _, rfl, unhide HS⟩
  case round =>
    clear HS
    obtain ⟨k, els, hk, rfl, hle, hmap, hs⟩ := hrel
    have HM := hide hmap
    have HS := hide hs
    clear hmap hs
    by_cases hlt : k < l.length
    · obtain ⟨b, off, rfl, hb, _, hc⟩ := unhide HR (by omega)
      obtain ⟨fv', dv', hAt, hf', hd'⟩ := hc k hlt
      obtain ⟨a1, a2, fs', ds', hpk⟩ : ∃ nm vr fs ds, Ix.pg l k = (nm, vr, fs, ds) := ⟨_, _, _, _, rfl⟩
      rw [hpk] at hAt hf' hd'
      dsimp only at hf' hd'
      obtain ⟨fa, fc, hfv⟩ := hf'.slice
      obtain ⟨da, dc, hdv⟩ := hd'.slice
      subst hfv hdv
      have HF := hide hf'
      have HD := hide hd'
      have hi0 : (0 : Int) ≤ (k : Int) := Int.natCast_nonneg _
      have hi1 : (k : Int) < (l.length : Int) := by omega
      have kk : ∀ w', Below wr.heap.size wr w' → (w'.cell? ⟨b, off + k * 4, none⟩ = some (.int .i64 a1) ∧ w'.cell? ⟨b, off + k * 4 + 1, none⟩ = some (.int .i64 a2) ∧ w'.cell? ⟨b, off + k * 4 + 2, none⟩ = some (.slice fa fs'.length fc) ∧ w'.cell? ⟨b, off + k * 4 + 3, none⟩ = some (.slice da ds'.length dc)) ∧ (w'.cell? ⟨w.heap.size, 0, none⟩ = some (.int .i64 nm) ∧ w'.cell? ⟨w.heap.size, 1, none⟩ = some (.int .i64 vr)) := fun w' hw' =>
        ⟨hAt.keep (((unhide HS).later hw').bel.block b hb), cellOf ((unhide HS).later hw').box 0, cellOf ((unhide HS).later hw').box 1⟩
      have KK := hide kk
      have cL : ∀ w', Below wr.heap.size wr w' → Calls Tryz.prog 99 #[.int .i64 a1, .int .i64 a2, .int .i64 nm, .int .i64 vr] w' fun e w'' => e = .returned (.bool (Ix.less a1 a2 nm vr)) ∧ Below wr.heap.size wr w'' := fun w' hw' =>
        (l3Less_any _ _ _ _ _).mono fun e w'' ⟨h1, h2⟩ => ⟨h1, by rw [h2]; exact hw'⟩
      have CL := hide cL
      have htk := Ix.take_pg l k hlt
      rw [hpk] at htk
      have HTK := hide htk
      clear hc hAt hf' hd' kk cL htk hpk
      have hnew : ∀ c : Bool, Ix.less a1 a2 nm vr = c → (l.take (k + 1)).filter (fun x => Ix.ahead x (nm, vr, fs, ds)) = (l.take k).filter (fun x => Ix.ahead x (nm, vr, fs, ds)) ++ (if c = true then [(a1, a2, fs', ds')] else []) := fun c hc => by
        rw [unhide HTK, Ix.filter_snoc, ← hc]; rfl
      have HNEW := hide hnew
      clear hnew
      cases hP : Ix.less a1 a2 nm vr
      · rw [hP] at CL
        go_wp2_with fail
        refine wq_region (by kernel_rfl) (by kernel_rfl) ?_
        refine wq_move (d := some 15) rfl rfl (by rfl) rfl ?_
        simp only [Act.put, List.setIfInBounds_toArray, List.set_cons_zero, List.set_cons_succ, List.getElem_toArray, List.getElem_cons_zero]
        refine wq_move (d := some 16) rfl rfl (by rfl) rfl ?_
        simp only [Act.put, List.setIfInBounds_toArray, List.set_cons_zero, List.set_cons_succ, List.getElem_toArray, List.getElem_cons_zero, List.getElem_cons_succ]
        refine wq_take (d := some 17) rfl (by rfl) (v := ?_) ?_ ?_
        rotate_left
        · (intro w hCw; have hKw := (unhide KK) w hCw; go_simp <;> with_reducible rfl)
        simp only [Act.put, List.setIfInBounds_toArray, List.set_cons_zero, List.set_cons_succ]
        refine wq_take (d := some 18) rfl (by rfl) (v := ?_) ?_ ?_
        rotate_left
        · (intro w hCw; have hKw := (unhide KK) w hCw; go_simp <;> with_reducible rfl)
        simp only [Act.put, List.setIfInBounds_toArray, List.set_cons_zero, List.set_cons_succ]
        refine wq_take (d := some 19) rfl (by rfl) (v := ?_) ?_ ?_
        rotate_left
        · (intro w hCw; have hKw := (unhide KK) w hCw; go_simp <;> with_reducible rfl)
        simp only [Act.put, List.setIfInBounds_toArray, List.set_cons_zero, List.set_cons_succ]
        refine wq_move (d := some 20) rfl rfl (by rfl) rfl ?_
        simp only [Act.put, List.setIfInBounds_toArray, List.set_cons_zero, List.set_cons_succ, List.getElem_toArray, List.getElem_cons_zero]
        refine wq_move (d := some 21) rfl rfl (by rfl) rfl ?_
        simp only [Act.put, List.setIfInBounds_toArray, List.set_cons_zero, List.set_cons_succ, List.getElem_toArray, List.getElem_cons_zero, List.getElem_cons_succ]
        refine wq_take (d := some 22) rfl (by rfl) (v := ?_) ?_ ?_
        rotate_left
        · (intro w hCw; have hKw := (unhide KK) w hCw; go_simp <;> with_reducible rfl)
        simp only [Act.put, List.setIfInBounds_toArray, List.set_cons_zero, List.set_cons_succ]
        refine wq_take (d := some 23) rfl (by rfl) (v := ?_) ?_ ?_
        rotate_left
        · (intro w hCw; have hKw := (unhide KK) w hCw; go_simp <;> with_reducible rfl)
        simp only [Act.put, List.setIfInBounds_toArray, List.set_cons_zero, List.set_cons_succ]
        refine wq_take (d := some 24) rfl (by rfl) (v := ?_) ?_ ?_
        rotate_left
        · (intro w hCw; have hKw := (unhide KK) w hCw; go_simp <;> with_reducible rfl)
        simp only [Act.put, List.setIfInBounds_toArray, List.set_cons_zero, List.set_cons_succ]
        refine wq_take (d := some 25) rfl (by rfl) (v := ?_) ?_ ?_
        rotate_left
        · (intro w hCw; have hKw := (unhide KK) w hCw; go_simp <;> with_reducible rfl)
        simp only [Act.put, List.setIfInBounds_toArray, List.set_cons_zero, List.set_cons_succ]
        refine wq_take (d := some 26) rfl (by rfl) (v := ?_) ?_ ?_
        rotate_left
        · (intro w hCw; have hKw := (unhide KK) w hCw; go_simp <;> with_reducible rfl)
        simp only [Act.put, List.setIfInBounds_toArray, List.set_cons_zero, List.set_cons_succ]
        refine wq_take (d := some 27) rfl (by rfl) (v := ?_) ?_ ?_
        rotate_left
        · (intro w hCw; have hKw := (unhide KK) w hCw; go_simp <;> with_reducible rfl)
        simp only [Act.put, List.setIfInBounds_toArray, List.set_cons_zero, List.set_cons_succ]
        refine wq_take (d := some 28) rfl (by rfl) (v := ?_) ?_ ?_
        rotate_left
        · (intro w hCw; have hKw := (unhide KK) w hCw; go_simp <;> with_reducible rfl)
        simp only [Act.put, List.setIfInBounds_toArray, List.set_cons_zero, List.set_cons_succ]
        refine wq_call (d := some 29) rfl (by rfl) (hc := (unhide CL)) ?_ ?_
        · (intro w hCw; go_simp)
        simp only [Act.put, List.setIfInBounds_toArray, List.set_cons_zero, List.set_cons_succ]
        refine wq_nil ?_
        intro w9 hw9
        go_wp2
        go_roundw
        case rel => exact ⟨k + 1, els, by omega, by go_num, by omega, by rw [unhide HNEW _ hP, unhide HM]; simp, (unhide HS).later hw9⟩
        case measure => simp [intOf]; omega
      · rw [hP] at CL
        go_wp2_with fail
        refine wq_region (by kernel_rfl) (by kernel_rfl) ?_
        refine wq_move (d := some 15) rfl rfl (by rfl) rfl ?_
        simp only [Act.put, List.setIfInBounds_toArray, List.set_cons_zero, List.set_cons_succ, List.getElem_toArray, List.getElem_cons_zero]
        refine wq_move (d := some 16) rfl rfl (by rfl) rfl ?_
        simp only [Act.put, List.setIfInBounds_toArray, List.set_cons_zero, List.set_cons_succ, List.getElem_toArray, List.getElem_cons_zero, List.getElem_cons_succ]
        refine wq_take (d := some 17) rfl (by rfl) (v := ?_) ?_ ?_
        rotate_left
        · (intro w hCw; have hKw := (unhide KK) w hCw; go_simp <;> with_reducible rfl)
        simp only [Act.put, List.setIfInBounds_toArray, List.set_cons_zero, List.set_cons_succ]
        refine wq_take (d := some 18) rfl (by rfl) (v := ?_) ?_ ?_
        rotate_left
        · (intro w hCw; have hKw := (unhide KK) w hCw; go_simp <;> with_reducible rfl)
        simp only [Act.put, List.setIfInBounds_toArray, List.set_cons_zero, List.set_cons_succ]
        refine wq_take (d := some 19) rfl (by rfl) (v := ?_) ?_ ?_
        rotate_left
        · (intro w hCw; have hKw := (unhide KK) w hCw; go_simp <;> with_reducible rfl)
        simp only [Act.put, List.setIfInBounds_toArray, List.set_cons_zero, List.set_cons_succ]
        refine wq_move (d := some 20) rfl rfl (by rfl) rfl ?_
        simp only [Act.put, List.setIfInBounds_toArray, List.set_cons_zero, List.set_cons_succ, List.getElem_toArray, List.getElem_cons_zero]
        refine wq_move (d := some 21) rfl rfl (by rfl) rfl ?_
        simp only [Act.put, List.setIfInBounds_toArray, List.set_cons_zero, List.set_cons_succ, List.getElem_toArray, List.getElem_cons_zero, List.getElem_cons_succ]
        refine wq_take (d := some 22) rfl (by rfl) (v := ?_) ?_ ?_
        rotate_left
        · (intro w hCw; have hKw := (unhide KK) w hCw; go_simp <;> with_reducible rfl)
        simp only [Act.put, List.setIfInBounds_toArray, List.set_cons_zero, List.set_cons_succ]
        refine wq_take (d := some 23) rfl (by rfl) (v := ?_) ?_ ?_
        rotate_left
        · (intro w hCw; have hKw := (unhide KK) w hCw; go_simp <;> with_reducible rfl)
        simp only [Act.put, List.setIfInBounds_toArray, List.set_cons_zero, List.set_cons_succ]
        refine wq_take (d := some 24) rfl (by rfl) (v := ?_) ?_ ?_
        rotate_left
        · (intro w hCw; have hKw := (unhide KK) w hCw; go_simp <;> with_reducible rfl)
        simp only [Act.put, List.setIfInBounds_toArray, List.set_cons_zero, List.set_cons_succ]
        refine wq_take (d := some 25) rfl (by rfl) (v := ?_) ?_ ?_
        rotate_left
        · (intro w hCw; have hKw := (unhide KK) w hCw; go_simp <;> with_reducible rfl)
        simp only [Act.put, List.setIfInBounds_toArray, List.set_cons_zero, List.set_cons_succ]
        refine wq_take (d := some 26) rfl (by rfl) (v := ?_) ?_ ?_
        rotate_left
        · (intro w hCw; have hKw := (unhide KK) w hCw; go_simp <;> with_reducible rfl)
        simp only [Act.put, List.setIfInBounds_toArray, List.set_cons_zero, List.set_cons_succ]
        refine wq_take (d := some 27) rfl (by rfl) (v := ?_) ?_ ?_
        rotate_left
        · (intro w hCw; have hKw := (unhide KK) w hCw; go_simp <;> with_reducible rfl)
        simp only [Act.put, List.setIfInBounds_toArray, List.set_cons_zero, List.set_cons_succ]
        refine wq_take (d := some 28) rfl (by rfl) (v := ?_) ?_ ?_
        rotate_left
        · (intro w hCw; have hKw := (unhide KK) w hCw; go_simp <;> with_reducible rfl)
        simp only [Act.put, List.setIfInBounds_toArray, List.set_cons_zero, List.set_cons_succ]
        refine wq_call (d := some 29) rfl (by rfl) (hc := (unhide CL)) ?_ ?_
        · (intro w hCw; go_simp)
        simp only [Act.put, List.setIfInBounds_toArray, List.set_cons_zero, List.set_cons_succ]
        refine wq_nil ?_
        intro w9 hw9
        obtain ⟨⟨c0, c1, c2, c3⟩, _⟩ := unhide KK w9 hw9
        have HS9 := hide ((unhide HS).later hw9)
        have HSA := hide ((unhide HS9).later (below1 w9 (.cells #[.int .i64 a1, .int .i64 a2, .slice fa fs'.length fc, .slice da ds'.length dc] 42)))
        have hbs := heapLt (unhide HSA).box
        have hb9 : b < w9.heap.size := Nat.lt_of_lt_of_le hb (unhide HS9).bel.size
        clear HS KK CL hw9
        go_wp2_with (at_builtin; refine wpList_append_lies _ rfl _ _ _ rfl (w.heap.size + 1) 42 i0 _ 4 64 Tryz.underlying31 hI0 hz0 hz1 hz2 rfl (by omega) _ els.length (flat4 els) rfl (unhide HSA).own ⟨w9.heap.size, 0, none⟩ 1 1 [.int .i64 a1, .int .i64 a2, .slice fa fs'.length fc, .slice da ds'.length dc] rfl rfl (World.news_of_block (cs := #[.int .i64 a1, .int .i64 a2, .slice fa fs'.length fc, .slice da ds'.length dc]) (t := 42) (fr := (0, 0)) (heap_alloc_new _ _)) (by simp [Value.oneCell']) (by omega) (by unfold maxLen; omega) (by omega) (by omega) (w9.heap.size + 1) (by rw [sz1]) ?_; intro gg gcap w10 hown hgrow hat hlt10)
        have HS10 := hide (Ws.app (e := ((a1, a2, fs', ds'), .slice fa fs'.length fc, .slice da ds'.length dc)) (unhide HSA) hgrow hown ⟨unhide HF, unhide HD⟩)
        clear hown hgrow hat hlt10 HSA HS9 c0 c1 c2 c3
        go_roundw
        case rel => exact ⟨k + 1, _, by omega, by go_num, by rw [List.length_append]; simp only [List.length_cons, List.length_nil]; omega, by rw [unhide HNEW _ hP, List.map_append, unhide HM]; rfl, unhide HS10⟩
        case measure => simp [intOf]; omega
    · obtain rfl : k = l.length := by omega
      rw [List.take_of_length_le (Nat.le_refl _)] at HM
      have b0 := cellOf (unhide HS).box 0
      have b1 := cellOf (unhide HS).box 1
      have b2 := cellOf (unhide HS).box 2
      have b3 := cellOf (unhide HS).box 3
      have hbs0 := heapLt (unhide HS).box
      have HSA := hide ((unhide HS).later (below1 wr (.cells #[.int .i64 nm, .int .i64 vr, .slice pfa fs.length pfc, .slice pda ds.length pdc] 42)))
      have hbs := heapLt (unhide HSA).box
      clear HS
      go_wp2_with (at_builtin; refine wpList_append_lies _ rfl _ _ _ rfl (w.heap.size + 1) 42 i0 _ 4 64 Tryz.underlying31 hI0 hz0 hz1 hz2 rfl (by omega) _ els.length (flat4 els) rfl (unhide HSA).own ⟨wr.heap.size, 0, none⟩ 1 1 [.int .i64 nm, .int .i64 vr, .slice pfa fs.length pfc, .slice pda ds.length pdc] rfl rfl (World.news_of_block (cs := #[.int .i64 nm, .int .i64 vr, .slice pfa fs.length pfc, .slice pda ds.length pdc]) (t := 42) (fr := (0, 0)) (heap_alloc_new _ _)) (by simp [Value.oneCell']) (by omega) (by unfold maxLen; omega) (by omega) (by omega) (wr.heap.size + 1) (by rw [sz1]) ?_; intro gg gcap w10 hown hgrow hat hlt10)
      have HS1 := hide (Ws.app (e := ((nm, vr, fs, ds), .slice pfa fs.length pfc, .slice pda ds.length pdc)) (unhide HSA) hgrow hown ⟨unhide HFP, unhide HDP⟩)
      have HM1 : Hid ((els ++ [((nm, vr, fs, ds), Value.slice pfa fs.length pfc, Value.slice pda ds.length pdc)]).map (fun x : El => x.1) = l.filter (fun x => Ix.ahead x (nm, vr, fs, ds)) ++ [(nm, vr, fs, ds)]) := by show _ = _; rw [List.map_append, unhide HM]; rfl
      have hle1 : (els ++ [((nm, vr, fs, ds), .slice pfa fs.length pfc, .slice pda ds.length pdc)] : List El).length ≤ 1001 := by rw [List.length_append]; simp only [List.length_cons, List.length_nil]; omega
      generalize els ++ [((nm, vr, fs, ds), Value.slice pfa fs.length pfc, Value.slice pda ds.length pdc)] = els1 at *
      clear hown hgrow hat hlt10 HSA b0 b1 b2 b3 HM
      go_wp2_with fail
      go_loopw [5, 7] (fun o i w' => ∃ (k : Nat) (els : List El), k ≤ l.length ∧ i = .int .i64 k ∧ els.length ≤ k + 1001 ∧ els.map (·.1) = l.filter (fun x => Ix.ahead x (nm, vr, fs, ds)) ++ [(nm, vr, fs, ds)] ++ (l.take k).filter (fun x => Ix.ahead (nm, vr, fs, ds) x) ∧ Ws N w w' nm vr (.slice pfa fs.length pfc) (.slice pda ds.length pdc) o els) (fun _ i _ => l.length - (intOf i).toNat)
      case atStart => exact ⟨0, els1, Nat.zero_le _, rfl, by omega, by rw [unhide HM1]; simp, by exact unhide HS1⟩
      case round =>
        clear HS1 HM1 hle1 hbs hbs0
        clear els1 hle hlt hk

        obtain ⟨k, els, hk, rfl, hle, hmap, hs⟩ := hrel
        have HM := hide hmap
        have HS := hide hs
        clear hmap hs
        by_cases hlt : k < l.length
        · obtain ⟨b, off, rfl, hb, _, hc⟩ := unhide HR (by omega)
          obtain ⟨fv', dv', hAt, hf', hd'⟩ := hc k hlt
          obtain ⟨a1, a2, fs', ds', hpk⟩ : ∃ nm vr fs ds, Ix.pg l k = (nm, vr, fs, ds) := ⟨_, _, _, _, rfl⟩
          rw [hpk] at hAt hf' hd'
          dsimp only at hf' hd'
          obtain ⟨fa, fc, hfv⟩ := hf'.slice
          obtain ⟨da, dc, hdv⟩ := hd'.slice
          subst hfv hdv
          have HF := hide hf'
          have HD := hide hd'
          have hi0 : (0 : Int) ≤ (k : Int) := Int.natCast_nonneg _
          have hi1 : (k : Int) < (l.length : Int) := by omega
          have kk : ∀ w', Below wr.heap.size wr w' → (w'.cell? ⟨b, off + k * 4, none⟩ = some (.int .i64 a1) ∧ w'.cell? ⟨b, off + k * 4 + 1, none⟩ = some (.int .i64 a2) ∧ w'.cell? ⟨b, off + k * 4 + 2, none⟩ = some (.slice fa fs'.length fc) ∧ w'.cell? ⟨b, off + k * 4 + 3, none⟩ = some (.slice da ds'.length dc)) ∧ (w'.cell? ⟨w.heap.size, 0, none⟩ = some (.int .i64 nm) ∧ w'.cell? ⟨w.heap.size, 1, none⟩ = some (.int .i64 vr)) := fun w' hw' =>
            ⟨hAt.keep (((unhide HS).later hw').bel.block b hb), cellOf ((unhide HS).later hw').box 0, cellOf ((unhide HS).later hw').box 1⟩
          have KK := hide kk
          have cL : ∀ w', Below wr.heap.size wr w' → Calls Tryz.prog 99 #[.int .i64 nm, .int .i64 vr, .int .i64 a1, .int .i64 a2] w' fun e w'' => e = .returned (.bool (Ix.less nm vr a1 a2)) ∧ Below wr.heap.size wr w'' := fun w' hw' =>
            (l3Less_any _ _ _ _ _).mono fun e w'' ⟨h1, h2⟩ => ⟨h1, by rw [h2]; exact hw'⟩
          have CL := hide cL
          have htk := Ix.take_pg l k hlt
          rw [hpk] at htk
          have HTK := hide htk
          clear hc hAt hf' hd' kk cL htk hpk
          have hnew : ∀ c : Bool, Ix.less nm vr a1 a2 = c → (l.take (k + 1)).filter (fun x => Ix.ahead (nm, vr, fs, ds) x) = (l.take k).filter (fun x => Ix.ahead (nm, vr, fs, ds) x) ++ (if c = true then [(a1, a2, fs', ds')] else []) := fun c hc => by
            rw [unhide HTK, Ix.filter_snoc, ← hc]; rfl
          have HNEW := hide hnew
          clear hnew
          cases hP : Ix.less nm vr a1 a2
          · rw [hP] at CL
            go_wp2_with fail
            refine wq_region (by kernel_rfl) (by kernel_rfl) ?_
            refine wq_take (d := some 47) rfl (by rfl) (v := ?_) ?_ ?_
            rotate_left
            · (intro w hCw; have hKw := (unhide KK) w hCw; go_simp <;> with_reducible rfl)
            simp only [Act.put, List.setIfInBounds_toArray, List.set_cons_zero, List.set_cons_succ]
            refine wq_take (d := some 48) rfl (by rfl) (v := ?_) ?_ ?_
            rotate_left
            · (intro w hCw; have hKw := (unhide KK) w hCw; go_simp <;> with_reducible rfl)
            simp only [Act.put, List.setIfInBounds_toArray, List.set_cons_zero, List.set_cons_succ]
            refine wq_take (d := some 49) rfl (by rfl) (v := ?_) ?_ ?_
            rotate_left
            · (intro w hCw; have hKw := (unhide KK) w hCw; go_simp <;> with_reducible rfl)
            simp only [Act.put, List.setIfInBounds_toArray, List.set_cons_zero, List.set_cons_succ]
            refine wq_take (d := some 50) rfl (by rfl) (v := ?_) ?_ ?_
            rotate_left
            · (intro w hCw; have hKw := (unhide KK) w hCw; go_simp <;> with_reducible rfl)
            simp only [Act.put, List.setIfInBounds_toArray, List.set_cons_zero, List.set_cons_succ]
            refine wq_move (d := some 51) rfl rfl (by rfl) rfl ?_
            simp only [Act.put, List.setIfInBounds_toArray, List.set_cons_zero, List.set_cons_succ, List.getElem_toArray, List.getElem_cons_zero]
            refine wq_move (d := some 52) rfl rfl (by rfl) rfl ?_
            simp only [Act.put, List.setIfInBounds_toArray, List.set_cons_zero, List.set_cons_succ, List.getElem_toArray, List.getElem_cons_zero, List.getElem_cons_succ]
            refine wq_take (d := some 53) rfl (by rfl) (v := ?_) ?_ ?_
            rotate_left
            · (intro w hCw; have hKw := (unhide KK) w hCw; go_simp <;> with_reducible rfl)
            simp only [Act.put, List.setIfInBounds_toArray, List.set_cons_zero, List.set_cons_succ]
            refine wq_take (d := some 54) rfl (by rfl) (v := ?_) ?_ ?_
            rotate_left
            · (intro w hCw; have hKw := (unhide KK) w hCw; go_simp <;> with_reducible rfl)
            simp only [Act.put, List.setIfInBounds_toArray, List.set_cons_zero, List.set_cons_succ]
            refine wq_take (d := some 55) rfl (by rfl) (v := ?_) ?_ ?_
            rotate_left
            · (intro w hCw; have hKw := (unhide KK) w hCw; go_simp <;> with_reducible rfl)
            simp only [Act.put, List.setIfInBounds_toArray, List.set_cons_zero, List.set_cons_succ]
            refine wq_move (d := some 56) rfl rfl (by rfl) rfl ?_
            simp only [Act.put, List.setIfInBounds_toArray, List.set_cons_zero, List.set_cons_succ, List.getElem_toArray, List.getElem_cons_zero]
            refine wq_move (d := some 57) rfl rfl (by rfl) rfl ?_
            simp only [Act.put, List.setIfInBounds_toArray, List.set_cons_zero, List.set_cons_succ, List.getElem_toArray, List.getElem_cons_zero, List.getElem_cons_succ]
            refine wq_take (d := some 58) rfl (by rfl) (v := ?_) ?_ ?_
            rotate_left
            · (intro w hCw; have hKw := (unhide KK) w hCw; go_simp <;> with_reducible rfl)
            simp only [Act.put, List.setIfInBounds_toArray, List.set_cons_zero, List.set_cons_succ]
            refine wq_take (d := some 59) rfl (by rfl) (v := ?_) ?_ ?_
            rotate_left
            · (intro w hCw; have hKw := (unhide KK) w hCw; go_simp <;> with_reducible rfl)
            simp only [Act.put, List.setIfInBounds_toArray, List.set_cons_zero, List.set_cons_succ]
            refine wq_take (d := some 60) rfl (by rfl) (v := ?_) ?_ ?_
            rotate_left
            · (intro w hCw; have hKw := (unhide KK) w hCw; go_simp <;> with_reducible rfl)
            simp only [Act.put, List.setIfInBounds_toArray, List.set_cons_zero, List.set_cons_succ]
            refine wq_call (d := some 61) rfl (by rfl) (hc := (unhide CL)) ?_ ?_
            · (intro w hCw; go_simp)
            simp only [Act.put, List.setIfInBounds_toArray, List.set_cons_zero, List.set_cons_succ]
            refine wq_nil ?_
            intro w9 hw9
            go_wp2
            go_roundw
            case rel => exact ⟨k + 1, els, by omega, by go_num, by omega, by rw [unhide HNEW _ hP, unhide HM]; simp, (unhide HS).later hw9⟩
            case measure => simp [intOf]; omega
          · rw [hP] at CL
            go_wp2_with fail
            refine wq_region (by kernel_rfl) (by kernel_rfl) ?_
            refine wq_take (d := some 47) rfl (by rfl) (v := ?_) ?_ ?_
            rotate_left
            · (intro w hCw; have hKw := (unhide KK) w hCw; go_simp <;> with_reducible rfl)
            simp only [Act.put, List.setIfInBounds_toArray, List.set_cons_zero, List.set_cons_succ]
            refine wq_take (d := some 48) rfl (by rfl) (v := ?_) ?_ ?_
            rotate_left
            · (intro w hCw; have hKw := (unhide KK) w hCw; go_simp <;> with_reducible rfl)
            simp only [Act.put, List.setIfInBounds_toArray, List.set_cons_zero, List.set_cons_succ]
            refine wq_take (d := some 49) rfl (by rfl) (v := ?_) ?_ ?_
            rotate_left
            · (intro w hCw; have hKw := (unhide KK) w hCw; go_simp <;> with_reducible rfl)
            simp only [Act.put, List.setIfInBounds_toArray, List.set_cons_zero, List.set_cons_succ]
            refine wq_take (d := some 50) rfl (by rfl) (v := ?_) ?_ ?_
            rotate_left
            · (intro w hCw; have hKw := (unhide KK) w hCw; go_simp <;> with_reducible rfl)
            simp only [Act.put, List.setIfInBounds_toArray, List.set_cons_zero, List.set_cons_succ]
            refine wq_move (d := some 51) rfl rfl (by rfl) rfl ?_
            simp only [Act.put, List.setIfInBounds_toArray, List.set_cons_zero, List.set_cons_succ, List.getElem_toArray, List.getElem_cons_zero]
            refine wq_move (d := some 52) rfl rfl (by rfl) rfl ?_
            simp only [Act.put, List.setIfInBounds_toArray, List.set_cons_zero, List.set_cons_succ, List.getElem_toArray, List.getElem_cons_zero, List.getElem_cons_succ]
            refine wq_take (d := some 53) rfl (by rfl) (v := ?_) ?_ ?_
            rotate_left
            · (intro w hCw; have hKw := (unhide KK) w hCw; go_simp <;> with_reducible rfl)
            simp only [Act.put, List.setIfInBounds_toArray, List.set_cons_zero, List.set_cons_succ]
            refine wq_take (d := some 54) rfl (by rfl) (v := ?_) ?_ ?_
            rotate_left
            · (intro w hCw; have hKw := (unhide KK) w hCw; go_simp <;> with_reducible rfl)
            simp only [Act.put, List.setIfInBounds_toArray, List.set_cons_zero, List.set_cons_succ]
            refine wq_take (d := some 55) rfl (by rfl) (v := ?_) ?_ ?_
            rotate_left
            · (intro w hCw; have hKw := (unhide KK) w hCw; go_simp <;> with_reducible rfl)
            simp only [Act.put, List.setIfInBounds_toArray, List.set_cons_zero, List.set_cons_succ]
            refine wq_move (d := some 56) rfl rfl (by rfl) rfl ?_
            simp only [Act.put, List.setIfInBounds_toArray, List.set_cons_zero, List.set_cons_succ, List.getElem_toArray, List.getElem_cons_zero]
            refine wq_move (d := some 57) rfl rfl (by rfl) rfl ?_
            simp only [Act.put, List.setIfInBounds_toArray, List.set_cons_zero, List.set_cons_succ, List.getElem_toArray, List.getElem_cons_zero, List.getElem_cons_succ]
            refine wq_take (d := some 58) rfl (by rfl) (v := ?_) ?_ ?_
            rotate_left
            · (intro w hCw; have hKw := (unhide KK) w hCw; go_simp <;> with_reducible rfl)
            simp only [Act.put, List.setIfInBounds_toArray, List.set_cons_zero, List.set_cons_succ]
            refine wq_take (d := some 59) rfl (by rfl) (v := ?_) ?_ ?_
            rotate_left
            · (intro w hCw; have hKw := (unhide KK) w hCw; go_simp <;> with_reducible rfl)
            simp only [Act.put, List.setIfInBounds_toArray, List.set_cons_zero, List.set_cons_succ]
            refine wq_take (d := some 60) rfl (by rfl) (v := ?_) ?_ ?_
            rotate_left
            · (intro w hCw; have hKw := (unhide KK) w hCw; go_simp <;> with_reducible rfl)
            simp only [Act.put, List.setIfInBounds_toArray, List.set_cons_zero, List.set_cons_succ]
            refine wq_call (d := some 61) rfl (by rfl) (hc := (unhide CL)) ?_ ?_
            · (intro w hCw; go_simp)
            simp only [Act.put, List.setIfInBounds_toArray, List.set_cons_zero, List.set_cons_succ]
            refine wq_nil ?_
            intro w9 hw9
            obtain ⟨⟨c0, c1, c2, c3⟩, _⟩ := unhide KK w9 hw9
            have HS9 := hide ((unhide HS).later hw9)
            have HSA := hide ((unhide HS9).later (below1 w9 (.cells #[.int .i64 a1, .int .i64 a2, .slice fa fs'.length fc, .slice da ds'.length dc] 42)))
            have hbs := heapLt (unhide HSA).box
            have hb9 : b < w9.heap.size := Nat.lt_of_lt_of_le hb (unhide HS9).bel.size
            clear HS KK CL hw9
            go_wp2_with (at_builtin; refine wpList_append_lies _ rfl _ _ _ rfl (w.heap.size + 1) 42 i0 _ 4 64 Tryz.underlying31 hI0 hz0 hz1 hz2 rfl (by omega) _ els.length (flat4 els) rfl (unhide HSA).own ⟨w9.heap.size, 0, none⟩ 1 1 [.int .i64 a1, .int .i64 a2, .slice fa fs'.length fc, .slice da ds'.length dc] rfl rfl (World.news_of_block (cs := #[.int .i64 a1, .int .i64 a2, .slice fa fs'.length fc, .slice da ds'.length dc]) (t := 42) (fr := (0, 0)) (heap_alloc_new _ _)) (by simp [Value.oneCell']) (by omega) (by unfold maxLen; omega) (by omega) (by omega) (w9.heap.size + 1) (by rw [sz1]) ?_; intro gg gcap w10 hown hgrow hat hlt10)
            have HS10 := hide (Ws.app (e := ((a1, a2, fs', ds'), .slice fa fs'.length fc, .slice da ds'.length dc)) (unhide HSA) hgrow hown ⟨unhide HF, unhide HD⟩)
            clear hown hgrow hat hlt10 HSA HS9 c0 c1 c2 c3
            go_roundw
            case rel => exact ⟨k + 1, _, by omega, by go_num, by rw [List.length_append]; simp only [List.length_cons, List.length_nil]; omega, by rw [unhide HNEW _ hP, List.map_append, unhide HM, List.append_assoc]; rfl, unhide HS10⟩
            case measure => simp [intOf]; omega
        · obtain rfl : k = l.length := by omega
          rw [List.take_of_length_le (Nat.le_refl _)] at HM
          go_wp2
          go_ret
          exact ⟨_, els, rfl, (unhide HS).pown, unhide HM, (unhide HS).bel⟩
end Go.Proofs.YtlnieobmhofkdaaGreatDoor
