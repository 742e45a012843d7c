/- What impl.tells returns: whether an index has a meta among its own; for every index; nothing old is written. -/
import Derived.Test.YtjehpeojdcaklaaGreatDoorImplIndexOkW
import Derived.Laws.StructEq
namespace Go.Proofs.YtjehpeojdcaklaaGreatDoor
open Go.RowKit Go.Shelf

attribute [local go_sem] Oper.semAt_some

theorem mem_snoc {l : List Ix.M} {x m : Ix.M} (h : m ∉ l) (hx : x ≠ m) : m ∉ l ++ [x] := by simp [h, Ne.symm hx]
theorem mem_pre {p l : List Ix.M} {m : Ix.M} (h : p <+: l) (hm : m ∈ p) : m ∈ l := by obtain ⟨t, rfl⟩ := h; exact List.mem_append_left _ hm

set_option maxRecDepth 100000 in
set_option maxHeartbeats 4000000 in
theorem tells_in (w : World) (num til : Int) (mv : Value) (l : List Ix.M) (n v s : Int) (h : Trs w mv l) :
    CallsIn Fence.wide 5 Tryz.prog 37 #[.agg #[.int .i64 num, .int .i64 til, mv], .agg #[.int .i64 n, .int .i64 v, .int .i64 s]] w fun e w' => e = .returned (.bool (decide ((n, v, s) ∈ l))) ∧ Below w.heap.size w w' := by
  obtain ⟨a, cap, hmv⟩ := h.slice
  have HT := hide h
  clear h
  subst hmv
  refine callsIn_of_wp_marks Tryz.func37 rfl trivial ?_ rfl
  simp only [Tryz.ntmps37, List.size_toArray, List.length_cons, List.length_nil, Nat.reduceAdd, Nat.reduceSub, Array.replicate_succ, Array.replicate_zero, List.push_toArray, List.append_toArray, List.nil_append, List.cons_append]
  gi_wp2_with (refine ⟨trivial, ?_⟩; gi_at_call 67; refine (metasOf_in _ _ _ _ _ _ _).mono ?_; rintro e w' ⟨rfl, rfl⟩)
  obtain ⟨X, hX⟩ : ∃ X : Obj, X = .cells #[.int .i64 num, .int .i64 til, .slice a l.length cap] 28 := ⟨_, rfl⟩
  obtain ⟨Y, hY⟩ : ∃ X : Obj, X = .cells #[.int .i64 n, .int .i64 v, .int .i64 s] 47 := ⟨_, rfl⟩
  rw [← hX, ← hY]
  have hsz : ((((w.alloc X).alloc Y).alloc (.cells #[.bool false] 4)).alloc X).heap.size = w.heap.size + 4 := by simp
  have b1 : ((((w.alloc X).alloc Y).alloc (.cells #[.bool false] 4)).alloc X).heap[w.heap.size + 1]? = some (.cells #[.int .i64 n, .int .i64 v, .int .i64 s] 47 (0, 0)) := by
    have b := heap_alloc_new (w.alloc X) Y
    simp only [World.size_alloc] at b
    rw [← hY]
    exact (Below.heap_alloc _ X (w.heap.size + 1) (by simp)).trans ((Below.heap_alloc _ (.cells #[.bool false] 4) (w.heap.size + 1) (by simp)).trans b)
  have b2 : ((((w.alloc X).alloc Y).alloc (.cells #[.bool false] 4)).alloc X).heap[w.heap.size + 1 + 1]? = some (.cells #[.bool false] 4 (0, 0)) := by
    have b := heap_alloc_new ((w.alloc X).alloc Y) (.cells #[.bool false] 4)
    simp only [World.size_alloc] at b
    exact (Below.heap_alloc _ X (w.heap.size + 1 + 1) (by simp)).trans b
  have b3 : ((((w.alloc X).alloc Y).alloc (.cells #[.bool false] 4)).alloc X).heap[w.heap.size + 1 + 1 + 1]? = some (.cells #[.int .i64 num, .int .i64 til, .slice a l.length cap] 28 (0, 0)) := by
    have b := heap_alloc_new (((w.alloc X).alloc Y).alloc (.cells #[.bool false] 4)) X
    simp only [World.size_alloc] at b
    rw [← hX]
    exact b
  have hB0 : Below w.heap.size w ((((w.alloc X).alloc Y).alloc (.cells #[.bool false] 4)).alloc X) := ((((Below.refl _ w).alloc (Nat.le_refl _) _).alloc (by simp) _).alloc (by simp; omega) _).alloc (by simp; omega) _
  obtain ⟨W0, hW0⟩ : ∃ W0, (((w.alloc X).alloc Y).alloc (.cells #[.bool false] 4)).alloc X = W0 := ⟨_, rfl⟩
  rw [hW0] at b1 b2 b3 hB0 hsz ⊢
  clear hW0 hX hY
  clear X Y
  refine wpIn_rangeFunc_ownH rfl (by omega) (gf := 87) (lb := #[.pointer (some ⟨w.heap.size + 1 + 1 + 1, 0, none⟩)]) rfl trivial (enters_of Tryz.func87 (by kernel_rfl) rfl)
    (metas_stops 4 (by omega) (w.heap.size + 1 + 1 + 1) w.heap.size _ l W0 (by omega) (by omega) (cellOf b3 2) w rfl (unhide HT) hB0) belowK_t (belowK_b (by omega)) (Below.refl _ _) (fun _ => rfl)
    (fun pre W => (((n, v, s) ∉ pre ∧ W.heap[w.heap.size + 1 + 1]? = some (.cells #[.bool false] 4 (0, 0))) ∧ W.heap[w.heap.size + 1]? = some (.cells #[.int .i64 n, .int .i64 v, .int .i64 s] 47 (0, 0))) ∧ Below w.heap.size w W)
    (fun c pre W => ((c = .ret ∧ (n, v, s) ∈ pre) ∧ W.heap[w.heap.size + 1 + 1]? = some (.cells #[.bool true] 4 (0, 0))) ∧ Below w.heap.size w W)
    (OwnFrom.and (OwnFrom.and (OwnFrom.and (ownFrom_pure _ _) (Own.from (blk_own _ _ _) _)) (Own.from (blk_own _ _ _) _)) (ownFrom_below (Nat.le_refl _) (by omega)))
    (fun c => OwnFrom.and (OwnFrom.and (ownFrom_pure _ _) (Own.from (blk_own _ _ _) _)) (ownFrom_below (Nat.le_refl _) (by omega)))
    ⟨⟨⟨by simp, b2⟩, b1⟩, hB0⟩
    (fun x a' W => ∃ Bx, w.heap.size + 1 + 1 < Bx ∧ W.heap[Bx]? = some (.cells #[.int .i64 x.1, .int .i64 x.2.1, .int .i64 x.2.2] 47 (0, 0)) ∧ ∃ t6 t7 t8, a' = { tmps := #[.agg #[.int .i64 num, .int .i64 til, .slice a l.length cap], .agg #[.int .i64 n, .int .i64 v, .int .i64 s], .pointer (some ⟨w.heap.size, 0, none⟩), .pointer (some ⟨w.heap.size + 1, 0, none⟩), .pointer (some ⟨w.heap.size + 1 + 1, 0, none⟩), .pointer (some ⟨Bx, 0, none⟩), t6, t7, t8, undef, undef, undef], defers := [] })
    (fun x a' _ X Y row hs hg hr => by obtain ⟨Bx, e1, e2, e3⟩ := hs; exact ⟨Bx, e1, blk_own Bx 47 (fun (_ : Unit) => #[.int .i64 x.1, .int .i64 x.2.1, .int .i64 x.2.2]) () X Y row e2 hg (fun r e => (hr r e).2), e3⟩)
    ?assign ?body ?done ?stop
  case assign =>
    rintro l0 pre x W K ⟨⟨⟨hp, e1⟩, e2⟩, hB1⟩ hK
    gi_wp2
    exact hK _ _ ((KeepsOthers.alloc _ _).from _) ((Below.refl _ W).alloc hB1.size _) ⟨⟨⟨hp, (Below.heap_alloc W _ _ (heapLt e1)).trans e1⟩, (Below.heap_alloc W _ _ (heapLt e2)).trans e2⟩, hB1.alloc hB1.size _⟩ ⟨W.heap.size, heapLt e1, heap_alloc_new W _, _, _, _, rfl⟩
  case body =>
    rintro l0 pre x a' W hl ⟨r, hr⟩ ⟨⟨⟨hp, e1⟩, e2⟩, hB1⟩ ⟨Bx, hBx, bX, t6, t7, t8, rfl⟩ hlt
    have x0 := cellOf bX 0
    have x1 := cellOf bX 1
    have x2 := cellOf bX 2
    have y0 := cellOf e2 0
    have y1 := cellOf e2 1
    have y2 := cellOf e2 2
    have r0 := cellOf e1 0
    have r1 := frozenOf e1 0
    have HE1 := hide e1
    have HE2 := hide e2
    have HB1 := hide hB1
    have HR := hide hr
    have HP := hide hp
    clear e1 e2 bX hB1 hr b1 b2 b3 hB0 HT hp
    obtain ⟨xa, xb, xc⟩ := x
    dsimp only at x0 x1 x2
    by_cases ha : xa = n
    · by_cases hb : xb = v
      · by_cases hc : xc = s
        · have HX : Hid ((xa, xb, xc) = (n, v, s)) := by show _ = _; rw [ha, hb, hc]
          rw [ha] at x0
          rw [hb] at x1
          rw [hc] at x2
          clear ha hb hc
          gi_wp2_with fail
          exact ⟨(KeepsOthers.setCell _ _ _).from _, ⟨⟨rfl, by rw [unhide HX]; simp⟩, heapSet (unhide HE1)⟩, (unhide HB1).setCell (p := ⟨w.heap.size + 1 + 1, 0, none⟩) (by simp; omega) _⟩
        · have HX : Hid ((xa, xb, xc) ≠ (n, v, s)) := fun e => hc (congrArg (fun x : Ix.M => x.2.2) e)
          gi_wp2_with fail
          exact ⟨(KeepsOthers.refl _).from _, Below.refl _ _, ⟨⟨mem_snoc (unhide HP) (unhide HX), unhide HE1⟩, unhide HE2⟩, unhide HB1⟩
      · have HX : Hid ((xa, xb, xc) ≠ (n, v, s)) := fun e => hb (congrArg (fun x : Ix.M => x.2.1) e)
        gi_wp2_with fail
        exact ⟨(KeepsOthers.refl _).from _, Below.refl _ _, ⟨⟨mem_snoc (unhide HP) (unhide HX), unhide HE1⟩, unhide HE2⟩, unhide HB1⟩
    · have HX : Hid ((xa, xb, xc) ≠ (n, v, s)) := fun e => ha (congrArg (fun x : Ix.M => x.1) e)
      gi_wp2_with fail
      exact ⟨(KeepsOthers.refl _).from _, Below.refl _ _, ⟨⟨mem_snoc (unhide HP) (unhide HX), unhide HE1⟩, unhide HE2⟩, unhide HB1⟩
  case done =>
    rintro D zs W hD rfl ⟨⟨⟨hp, e1⟩, e2⟩, hB1⟩ hK
    have cR := cellOf e1 0
    have fR := frozenOf e1 0
    gi_wp2
    have hK' := (KeepsOthers.setCell W ⟨w.heap.size + 1 + 1, 0, none⟩ (.bool false)).same D _ hK rfl
    refine ⟨by simp, .inl ⟨_, _, rfl, run_takeDeferred hK', ?_⟩⟩
    have hc5 := cell_kept (cellOf (heapSet (v := .bool false) (o := 0) e1) 0) (grownBy_putObj' _ D (.deferred none)) (fun r e => by cases e; exact ⟨_, hK', rfl⟩)
    refine ⟨.bool false, ?_, by rw [decide_eq_false hp], (hB1.setCell (p := ⟨w.heap.size + 1 + 1, 0, none⟩) (by simp; omega) _).trans (belowK_b (w := w) (Nat.le_refl _) _ D _ _ (by omega) hK' rfl rfl)⟩
    simp [results, Tryz.f37, go_sem, hc5]
  case stop =>
    rintro D c pre W hD hpre ⟨⟨⟨rfl, hin⟩, e1⟩, hB1⟩ hK
    gi_wp2
    refine ⟨by simp, .inl ⟨_, _, rfl, run_takeDeferred hK, ?_⟩⟩
    have hc5 := cell_kept (cellOf e1 0) (grownBy_putObj' _ D (.deferred none)) (fun r e => by cases e; exact ⟨_, hK, rfl⟩)
    refine ⟨.bool true, ?_, by rw [decide_eq_true (mem_pre hpre hin)], hB1.trans (belowK_b (w := w) (Nat.le_refl _) W D _ _ (by omega) hK rfl rfl)⟩
    simp [results, Tryz.f37, go_sem, hc5]
theorem tells_any (w : World) (num til : Int) (mv : Value) (l : List Ix.M) (n v s : Int) (h : Trs w mv l) :
    Calls Tryz.prog 37 #[.agg #[.int .i64 num, .int .i64 til, mv], .agg #[.int .i64 n, .int .i64 v, .int .i64 s]] w fun e w' => e = .returned (.bool (decide ((n, v, s) ∈ l))) ∧ Below w.heap.size w w' := callsIn_wide.1 (tells_in w num til mv l n v s h)
end Go.Proofs.YtjehpeojdcaklaaGreatDoor
