import Derived.Test.YtlnieobmhofkdaaGreatMetasW
import Derived.Test.YtlnieobmhofkdaaGreatMix3
/- What impl.IndexOk returns: whether the index is ok; for every index; nothing old is written. -/
namespace Go.Proofs.YtlnieobmhofkdaaGreat
open Go.RowKit Go.Shelf

attribute [local go_sem] Oper.semAt_some

theorem blk_below {n : Nat} {W W' : World} {k : Nat} {o : Obj} (h : W.heap[k]? = some o) (hb : Below n W W') (hn : n = W.heap.size) : W'.heap[k]? = some o := (hb.block k (by rw [hn]; exact heapLt h)).trans h
theorem box3m (w : World) (a b c : Value) (t : TypeId) : (w.alloc (.cells #[a, b, c] t)).cell? ⟨w.heap.size, 0, none⟩ = some a ∧ (w.alloc (.cells #[a, b, c] t)).cell? ⟨w.heap.size, 1, none⟩ = some b ∧ (w.alloc (.cells #[a, b, c] t)).cell? ⟨w.heap.size, 2, none⟩ = some c :=
  ⟨by rw [World.cell?_alloc_new]; rfl, by rw [World.cell?_alloc_new]; rfl, by rw [World.cell?_alloc_new]; rfl⟩

set_option maxRecDepth 100000 in
set_option maxHeartbeats 4000000 in
theorem metasOk_in (w : World) (num til : Int) (mv : Value) (l : List Ix.M) (h : Trs w mv l) :
    CallsIn Fence.wide 5 Tryz.prog 79 #[.agg #[.int .i64 num, .int .i64 til, mv]] w fun e w' => e = .returned (.bool (Ix.metasOk l)) ∧ Below w.heap.size w w' := by
  obtain ⟨a, cap, hmv⟩ := h.slice
  have HT := hide h
  clear h
  subst hmv
  refine callsIn_of_wp_marks Tryz.func79 rfl trivial ?_ rfl
  simp only [Tryz.ntmps79, List.size_toArray, List.length_cons, List.length_nil, Nat.reduceAdd, Nat.reduceSub, Array.replicate_succ, Array.replicate_zero, List.push_toArray, List.append_toArray, List.nil_append, List.cons_append]
  gi_wp2_with (refine ⟨trivial, ?_⟩; gi_at_call 31; refine (metasOf_in _ _ _ _ _ _ _).mono ?_; rintro e w' ⟨rfl, rfl⟩)
  have b0 := heap_alloc_new w (.cells #[.int .i64 num, .int .i64 til, .slice a l.length cap] 37)
  have b1 := heap_alloc_new (w.alloc (.cells #[.int .i64 num, .int .i64 til, .slice a l.length cap] 37)) (.cells #[.bool false] 4)
  have b2 := heap_alloc_new ((w.alloc (.cells #[.int .i64 num, .int .i64 til, .slice a l.length cap] 37)).alloc (.cells #[.bool false] 4)) (.cells #[.int .i64 0, .int .i64 0, .int .i64 0] 60)
  have b3 := heap_alloc_new (((w.alloc (.cells #[.int .i64 num, .int .i64 til, .slice a l.length cap] 37)).alloc (.cells #[.bool false] 4)).alloc (.cells #[.int .i64 0, .int .i64 0, .int .i64 0] 60)) (.cells #[.int .i64 num, .int .i64 til, .slice a l.length cap] 37)
  have hB0 : Below w.heap.size w ((((w.alloc (.cells #[.int .i64 num, .int .i64 til, .slice a l.length cap] 37)).alloc (.cells #[.bool false] 4)).alloc (.cells #[.int .i64 0, .int .i64 0, .int .i64 0] 60)).alloc (.cells #[.int .i64 num, .int .i64 til, .slice a l.length cap] 37)) := ((((Below.refl _ w).alloc (Nat.le_refl _) _).alloc (by simp) _).alloc (by simp; omega) _).alloc (by simp; omega) _
  have hsz : ((((w.alloc (.cells #[.int .i64 num, .int .i64 til, .slice a l.length cap] 37)).alloc (.cells #[.bool false] 4)).alloc (.cells #[.int .i64 0, .int .i64 0, .int .i64 0] 60)).alloc (.cells #[.int .i64 num, .int .i64 til, .slice a l.length cap] 37)).heap.size = w.heap.size + 4 := by simp
  simp only [World.size_alloc] at b1 b2 b3
  replace b1 := (Below.heap_alloc (((w.alloc (.cells #[.int .i64 num, .int .i64 til, .slice a l.length cap] 37)).alloc (.cells #[.bool false] 4)).alloc (.cells #[.int .i64 0, .int .i64 0, .int .i64 0] 60)) (.cells #[.int .i64 num, .int .i64 til, .slice a l.length cap] 37) (w.heap.size + 1) (by simp)).trans ((Below.heap_alloc _ (.cells #[.int .i64 0, .int .i64 0, .int .i64 0] 60) (w.heap.size + 1) (by simp)).trans b1)
  replace b2 := (Below.heap_alloc _ (.cells #[.int .i64 num, .int .i64 til, .slice a l.length cap] 37) (w.heap.size + 1 + 1) (by simp)).trans b2
  clear b0
  obtain ⟨W0, hW0⟩ : ∃ W0, (((w.alloc (.cells #[.int .i64 num, .int .i64 til, .slice a l.length cap] 37)).alloc (.cells #[.bool false] 4)).alloc (.cells #[.int .i64 0, .int .i64 0, .int .i64 0] 60)).alloc (.cells #[.int .i64 num, .int .i64 til, .slice a l.length cap] 37) = W0 := ⟨_, rfl⟩
  rw [hW0] at b1 b2 b3 hB0 hsz ⊢
  clear hW0
  refine wpIn_rangeFunc_ownH rfl (by omega) (gf := 61) (lb := #[.pointer (some ⟨w.heap.size + 1 + 1 + 1, 0, none⟩)]) rfl trivial (enters_of Tryz.func61 (by kernel_rfl) rfl)
    (metas_stops 4 (by omega) (w.heap.size + 1 + 1 + 1) w.heap.size _ l W0 (by omega) (by omega) (cellOf b3 2) w rfl (unhide HT) hB0) belowK_t (belowK_b (by omega)) (Below.refl _ _) (fun _ => rfl)
    (fun pre W => ((Ix.metasOk pre = true ∧ W.heap[w.heap.size + 1]? = some (.cells #[.bool false] 4 (0, 0))) ∧ W.heap[w.heap.size + 1 + 1]? = some (.cells #[.int .i64 (Ix.last pre).1, .int .i64 (Ix.last pre).2.1, .int .i64 (Ix.last pre).2.2] 60 (0, 0))) ∧ Below w.heap.size w W)
    (fun c pre W => ((c = .ret ∧ Ix.metasOk pre = false) ∧ W.heap[w.heap.size + 1]? = some (.cells #[.bool false] 4 (0, 0))) ∧ Below w.heap.size w W)
    (OwnFrom.and (OwnFrom.and (OwnFrom.and (ownFrom_pure _ _) (Own.from (blk_own _ _ _) _)) (Own.from (blk_own _ _ _) _)) (ownFrom_below (Nat.le_refl _) (by omega)))
    (fun c => OwnFrom.and (OwnFrom.and (ownFrom_pure _ _) (Own.from (blk_own _ _ _) _)) (ownFrom_below (Nat.le_refl _) (by omega)))
    ⟨⟨⟨rfl, b1⟩, b2⟩, hB0⟩
    (fun x a' W => ∃ Bx, w.heap.size + 1 + 1 < Bx ∧ W.heap[Bx]? = some (.cells #[.int .i64 x.1, .int .i64 x.2.1, .int .i64 x.2.2] 60 (0, 0)) ∧ ∃ t5 t6 t7 t8, a' = { tmps := #[.agg #[.int .i64 num, .int .i64 til, .slice a l.length cap], .pointer (some ⟨w.heap.size, 0, none⟩), .pointer (some ⟨w.heap.size + 1, 0, none⟩), .pointer (some ⟨w.heap.size + 1 + 1, 0, none⟩), .pointer (some ⟨Bx, 0, none⟩), t5, t6, t7, t8, undef, undef, undef, undef, undef, undef, undef, undef, undef, undef], defers := [] })
    (fun x a' _ X Y row hs hg hr => by obtain ⟨Bx, e1, e2, e3⟩ := hs; exact ⟨Bx, e1, blk_own Bx 60 (fun (_ : Unit) => #[.int .i64 x.1, .int .i64 x.2.1, .int .i64 x.2.2]) () X Y row e2 hg (fun r e => (hr r e).2), e3⟩)
    ?assign ?body ?done ?stop
  case assign =>
    rintro l0 pre x W K ⟨⟨⟨hp, e1⟩, e2⟩, hB1⟩ hK
    gi_wp2
    exact hK _ _ ((KeepsOthers.alloc _ _).from _) ((Below.refl _ W).alloc hB1.size _) ⟨⟨⟨hp, (Below.heap_alloc W _ _ (heapLt e1)).trans e1⟩, (Below.heap_alloc W _ _ (heapLt e2)).trans e2⟩, hB1.alloc hB1.size _⟩ ⟨W.heap.size, heapLt e2, heap_alloc_new W _, _, _, _, _, rfl⟩
  case body =>
    rintro l0 pre x a' W hl ⟨r, hr⟩ ⟨⟨⟨hp, e1⟩, e2⟩, hB1⟩ ⟨Bx, hBx, bX, t5, t6, t7, t8, rfl⟩ hlt
    have x0 := cellOf bX 0
    have x1 := cellOf bX 1
    have x2 := cellOf bX 2
    have HE1 := hide e1
    have HE2 := hide e2
    have HX := hide bX
    have HB1 := hide hB1
    have HR := hide hr
    have HP := hide hp
    clear e1 e2 bX hB1 hr b1 b2 b3 hB0 HT hp
    cases hm : Ix.mOk x.1 x.2.1 x.2.2
    · gi_wp2_with (refine ⟨trivial, ?_⟩; gi_at_call 89; refine (CallsIn.inRound l0 (callsIn_wide.2 (metaOk_any _ _ _ _))).mono ?_; rintro e W1 ⟨rfl, hb1⟩; have HB := hide hb1; have HF1 := hide (blk_below (unhide HE1) hb1 rfl); have r0 := cellOf (unhide HF1) 0; have r1 := frozenOf (unhide HF1) 0; clear hb1)
      refine ⟨trivial, ?_⟩
      gi_wp2
      exact ⟨((keeps_below (unhide HB)).trans (KeepsOthers.setCell _ _ _)).from _, ⟨⟨rfl, by rw [Ix.metasOk_snoc, hm, Bool.false_and, Bool.and_false]⟩, heapSet (unhide HF1)⟩, ((unhide HB1).trans ((unhide HB).mono (unhide HB1).size)).setCell (p := ⟨w.heap.size + 1, 0, none⟩) (by simp) _⟩
    · cases hq : Ix.less (Ix.last pre).1 (Ix.last pre).2.1 x.1 x.2.1
      · gi_wp2_with (refine ⟨trivial, ?_⟩; first
          | (gi_at_call 89; refine (CallsIn.inRound l0 (callsIn_wide.2 (metaOk_any _ _ _ _))).mono ?_; rintro e W1 ⟨rfl, hb1⟩; have HB := hide hb1; have HF1 := hide (blk_below (unhide HE1) hb1 rfl); have HF2 := hide (blk_below (unhide HE2) hb1 rfl); have HFX := hide (blk_below (unhide HX) hb1 rfl); have y0 := cellOf (unhide HFX) 0; have y1 := cellOf (unhide HFX) 1; have y2 := cellOf (unhide HFX) 2; have z0 := cellOf (unhide HF2) 0; have z1 := cellOf (unhide HF2) 1; have z2 := cellOf (unhide HF2) 2; clear hb1 x0 x1 x2)
          | (gi_at_call 59; refine (CallsIn.inRound l0 (callsIn_wide.2 (metaBelow_any _ _ _ _ _ _ _))).mono ?_; rintro e W2 ⟨rfl, hb2⟩; have HB2 := hide hb2; have HG1 := hide (blk_below (unhide HF1) hb2 rfl); have r0 := cellOf (unhide HG1) 0; have r1 := frozenOf (unhide HG1) 0; clear hb2 y0 y1 y2 z0 z1 z2))
        have HBB := hide ((unhide HB).trans ((unhide HB2).mono (unhide HB).size))
        exact ⟨((keeps_below (unhide HBB)).trans (KeepsOthers.setCell _ _ _)).from _, ⟨⟨rfl, by rw [Ix.metasOk_snoc, hq, Bool.and_false, Bool.and_false]⟩, heapSet (unhide HG1)⟩, ((unhide HB1).trans ((unhide HBB).mono (unhide HB1).size)).setCell (p := ⟨w.heap.size + 1, 0, none⟩) (by simp) _⟩
      · gi_wp2_with (refine ⟨trivial, ?_⟩; first
          | (gi_at_call 89; refine (CallsIn.inRound l0 (callsIn_wide.2 (metaOk_any _ _ _ _))).mono ?_; rintro e W1 ⟨rfl, hb1⟩; have HB := hide hb1; have HF1 := hide (blk_below (unhide HE1) hb1 rfl); have HF2 := hide (blk_below (unhide HE2) hb1 rfl); have HFX := hide (blk_below (unhide HX) hb1 rfl); have y0 := cellOf (unhide HFX) 0; have y1 := cellOf (unhide HFX) 1; have y2 := cellOf (unhide HFX) 2; have z0 := cellOf (unhide HF2) 0; have z1 := cellOf (unhide HF2) 1; have z2 := cellOf (unhide HF2) 2; clear hb1 x0 x1 x2)
          | (gi_at_call 59; refine (CallsIn.inRound l0 (callsIn_wide.2 (metaBelow_any _ _ _ _ _ _ _))).mono ?_; rintro e W2 ⟨rfl, hb2⟩; have HB2 := hide hb2; have HG1 := hide (blk_below (unhide HF1) hb2 rfl); have HG2 := hide (blk_below (unhide HF2) hb2 rfl); have HGX := hide (blk_below (unhide HFX) hb2 rfl); have u0 := cellOf (unhide HGX) 0; have u1 := cellOf (unhide HGX) 1; have u2 := cellOf (unhide HGX) 2; have s0 := cellOf (unhide HG2) 0; have s1 := cellOf (unhide HG2) 1; have s2 := cellOf (unhide HG2) 2; have q0 := frozenOf (unhide HG2) 0; have q1 := frozenOf (unhide HG2) 1; have q2 := frozenOf (unhide HG2) 2; clear hb2 y0 y1 y2 z0 z1 z2))
        have HBB := hide ((unhide HB).trans ((unhide HB2).mono (unhide HB).size))
        have hne : w.heap.size + 1 ≠ w.heap.size + 1 + 1 := by omega
        refine ⟨((((keeps_below (unhide HBB)).trans (KeepsOthers.setCell _ _ _)).trans (KeepsOthers.setCell _ _ _)).trans (KeepsOthers.setCell _ _ _)).from _, ((((unhide HBB).mono (unhide HB1).size).setCell (p := ⟨w.heap.size + 1 + 1, 0, none⟩) (by simp; omega) _).setCell (p := ⟨w.heap.size + 1 + 1, 1, none⟩) (by simp; omega) _).setCell (p := ⟨w.heap.size + 1 + 1, 2, none⟩) (by simp; omega) _, ⟨⟨by rw [Ix.metasOk_snoc, hm, hq, unhide HP]; rfl, ?_⟩, ?_⟩, ((((unhide HB1).trans ((unhide HBB).mono (unhide HB1).size)).setCell (p := ⟨w.heap.size + 1 + 1, 0, none⟩) (by simp; omega) _).setCell (p := ⟨w.heap.size + 1 + 1, 1, none⟩) (by simp; omega) _).setCell (p := ⟨w.heap.size + 1 + 1, 2, none⟩) (by simp; omega) _⟩
        · simp [World.setCell, Array.getElem?_modify, unhide HG1]
        · rw [Ix.last_snoc]; exact heapSet (heapSet (heapSet (unhide HG2)))
  case done =>
    rintro D zs W hD rfl ⟨⟨⟨hp, e1⟩, e2⟩, hB1⟩ hK
    have cR := cellOf e1 0
    have fR := frozenOf e1 0
    gi_wp2
    have hK' := (KeepsOthers.setCell W ⟨w.heap.size + 1, 0, none⟩ (.bool true)).same D _ hK rfl
    refine ⟨by simp, .inl ⟨_, _, rfl, run_takeDeferred hK', ?_⟩⟩
    have hc5 := cell_kept (cellOf (heapSet (v := .bool true) (o := 0) e1) 0) (grownBy_putObj' _ D (.deferred none)) (fun r e => by cases e; exact ⟨_, hK', rfl⟩)
    refine ⟨.bool true, ?_, by rw [hp], (hB1.setCell (p := ⟨w.heap.size + 1, 0, none⟩) (by simp) _).trans (belowK_b (w := w) (Nat.le_refl _) _ D _ _ (by omega) hK' rfl rfl)⟩
    simp [results, Tryz.f79, go_sem, hc5]
  case stop =>
    rintro D c pre W hD hpre ⟨⟨⟨rfl, hbad⟩, e1⟩, hB1⟩ hK
    gi_wp2
    refine ⟨by simp, .inl ⟨_, _, rfl, run_takeDeferred hK, ?_⟩⟩
    have hc5 := cell_kept (cellOf e1 0) (grownBy_putObj' _ D (.deferred none)) (fun r e => by cases e; exact ⟨_, hK, rfl⟩)
    refine ⟨.bool false, ?_, by rw [Ix.metasOk_stop hpre hbad], hB1.trans (belowK_b (w := w) (Nat.le_refl _) W D _ _ (by omega) hK rfl rfl)⟩
    simp [results, Tryz.f79, go_sem, hc5]

theorem metasOk_any (w : World) (num til : Int) (mv : Value) (l : List Ix.M) (h : Trs w mv l) :
    Calls Tryz.prog 79 #[.agg #[.int .i64 num, .int .i64 til, mv]] w fun e w' => e = .returned (.bool (Ix.metasOk l)) ∧ Below w.heap.size w w' := callsIn_wide.1 (metasOk_in w num til mv l h)
theorem len_le8 (l : List Ix.M) : decide ((l.length : Int) ≤ 8) = decide (l.length ≤ 8) := decide_eq_decide.2 (by omega)

set_option maxHeartbeats 2000000 in
/-- impl.IndexOk: whether the index is ok. -/
theorem implIndexOk_any (w : World) (num til : Int) (mv : Value) (l : List Ix.M) (h : Trs w mv l) :
    Calls Tryz.prog 56 #[.agg #[.int .i64 num, .int .i64 til, mv]] w fun e w' => e = .returned (.bool (Ix.idxOk num til l)) ∧ Below w.heap.size w w' := by
  have HB := hide (below1 w (.cells #[.int .i64 num, .int .i64 til, mv] 37))
  have HT := hide (h.later (unhide HB))
  obtain ⟨a, cap, hmv⟩ := h.slice
  clear h
  subst hmv
  cases hA : Pk.inB num 1 30
  · go_enter Tryz.func56, Tryz.ntmps56
    go_wp2_with (go_at_call 77; refine (between_any _ _ _ _).mono ?_; rintro e w' ⟨rfl, rfl⟩)
    go_ret
    exact ⟨ret_bool (by simp [Ix.idxOk, hA]), unhide HB⟩
  cases hB : Pk.inB til 0 60
  · go_enter Tryz.func56, Tryz.ntmps56
    go_wp2_with (go_at_call 77; refine (between_any _ _ _ _).mono ?_; rintro e w' ⟨rfl, rfl⟩)
    go_ret
    exact ⟨ret_bool (by simp [Ix.idxOk, hB]), unhide HB⟩
  by_cases hL : (l.length : Int) ≤ 8
  · go_enter Tryz.func56, Tryz.ntmps56
    go_wp2_with (first | (go_at_call 77; refine (between_any _ _ _ _).mono ?_; rintro e w' ⟨rfl, rfl⟩) | (go_at_call 79; refine (metasOk_any _ _ _ _ _ (unhide HT)).mono ?_; rintro e w1 ⟨rfl, hb1⟩; have HB1 := hide ((unhide HB).trans (hb1.mono (by rw [sz1']; omega))); clear hb1))
    go_ret
    exact ⟨ret_bool (by have : l.length ≤ 8 := (by omega); simp [Ix.idxOk, hA, hB, this]), unhide HB1⟩
  · have hL' : decide ((l.length : Int) ≤ 8) = false := by simpa using hL
    go_enter Tryz.func56, Tryz.ntmps56
    go_wp2_with (go_at_call 77; refine (between_any _ _ _ _).mono ?_; rintro e w' ⟨rfl, rfl⟩)
    go_ret
    exact ⟨ret_bool (by have : ¬ l.length ≤ 8 := (by omega); simp [Ix.idxOk, this]), unhide HB⟩
end Go.Proofs.YtlnieobmhofkdaaGreat
