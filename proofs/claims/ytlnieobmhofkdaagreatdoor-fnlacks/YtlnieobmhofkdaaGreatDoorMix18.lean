import Derived.Test.YtlnieobmhofkdaaGreatDoorIndexOfW
import Derived.Test.YtlnieobmhofkdaaGreatDoorMix15
import Derived.Test.YtlnieobmhofkdaaGreatDoorMix14
import Derived.Test.YtlnieobmhofkdaaGreatDoorMix11
import Derived.Laws.StructEq
/- What impl.metaOf and impl.IndexOf return: what is told of a package; an index of packages, its row the call's own; for every row of packages. -/
namespace Go.Proofs.YtlnieobmhofkdaaGreatDoor
open Go.RowKit

attribute [local go_sem ↓] Go.wp_at_zero Go.wp_at_succ

set_option maxHeartbeats 4000000 in
set_option maxRecDepth 100000 in
theorem metaOf_any (w : World) (nm vr : Int) (fv dv : Value) (fs ds : List (Int × Int)) (hf : Prs w fv fs) (hd : Prs w dv ds) :
    Calls Tryz.prog 53 #[.agg #[.int .i64 nm, .int .i64 vr, fv, dv]] w fun e w' => e = .returned (.agg #[.int .i64 nm, .int .i64 vr, .int .i64 (Sm.sum (Pk.text nm vr fs ds))]) ∧ Below w.heap.size w w' := by
  obtain ⟨fa, fc, hfv⟩ := hf.slice
  obtain ⟨da, dc, hdv⟩ := hd.slice
  subst hfv hdv
  have B1 := below1 w (.cells #[.int .i64 nm, .int .i64 vr, .slice fa fs.length fc, .slice da ds.length dc] 42)
  have hx1 := heap_alloc_new w (.cells #[.int .i64 nm, .int .i64 vr, .slice fa fs.length fc, .slice da ds.length dc] 42)
  have z1 := sz1' w (.cells #[.int .i64 nm, .int .i64 vr, .slice fa fs.length fc, .slice da ds.length dc] 42)
  have b2 := below1 (w.alloc (.cells #[.int .i64 nm, .int .i64 vr, .slice fa fs.length fc, .slice da ds.length dc] 42)) (.cells #[.int .i64 0, .int .i64 0, .int .i64 0] 55)
  have hr2 := heap_alloc_new (w.alloc (.cells #[.int .i64 nm, .int .i64 vr, .slice fa fs.length fc, .slice da ds.length dc] 42)) (.cells #[.int .i64 0, .int .i64 0, .int .i64 0] 55)
  rw [z1] at hr2
  have B2 := B1.trans (b2.mono B1.size)
  have H2 := hide (And.intro B2 (And.intro ((b2.block _ (heapLt hx1)).trans hx1) hr2))
  have HF := hide (And.intro (hf.later B2) (hd.later B2))
  clear B1 hx1 z1 b2 hr2 B2 hf hd
  obtain ⟨s, hs⟩ : ∃ s : ByteArray, s = ⟨(Pk.text nm vr fs ds).toArray⟩ := ⟨_, rfl⟩
  have hsz : s.size ≤ maxLen := by rw [hs]; have := Pk.text_len nm vr fs ds; unfold maxLen; show (Pk.text nm vr fs ds).toArray.size ≤ _; simp; omega
  have hsum : Sm.sum s.data.toList = Sm.sum (Pk.text nm vr fs ds) := by rw [hs]
  have HSM := hide hsum
  have HS := hide hs
  clear hs hsum
  go_enter Tryz.func53, Tryz.ntmps53
  go_wp2_with fail
  generalize World.alloc _ _ = W2 at *
  have sOf : ∀ w', Below W2.heap.size W2 w' → (w'.cell? ⟨w.heap.size, 0, none⟩ = some (.int .i64 nm) ∧ w'.cell? ⟨w.heap.size, 1, none⟩ = some (.int .i64 vr) ∧ w'.cell? ⟨w.heap.size, 2, none⟩ = some (.slice fa fs.length fc) ∧ w'.cell? ⟨w.heap.size, 3, none⟩ = some (.slice da ds.length dc)) := fun w' hb => by
    have hx := (hb.block _ (heapLt (unhide H2).2.1)).trans (unhide H2).2.1
    exact ⟨cellOf hx 0, cellOf hx 1, cellOf hx 2, cellOf hx 3⟩
  have SOF := hide sOf
  clear sOf
  refine wl_region (S := fun w' => w'.cell? ⟨w.heap.size, 0, none⟩ = some (.int .i64 nm) ∧ w'.cell? ⟨w.heap.size, 1, none⟩ = some (.int .i64 vr) ∧ w'.cell? ⟨w.heap.size, 2, none⟩ = some (.slice fa fs.length fc) ∧ w'.cell? ⟨w.heap.size, 3, none⟩ = some (.slice da ds.length dc)) (s := 8) (by kernel_rfl) (unhide SOF _ (below_drew W2)) (fun hHeld => ?_)
  refine wl_take (i := 0) (d := some 3) rfl rfl (by kernel_rfl) (by kernel_rfl) (by kernel_rfl) (by kernel_rfl) (by kernel_rfl) (fun _ _ _ h => h) (by rfl) (v := ?_) ?_ (by assumption) ?_
  rotate_left
  · (intro w hSw; (try dsimp only at hSw); go_simp <;> with_reducible rfl)
  simp only [Act.put, List.setIfInBounds_toArray, List.set_cons_zero, List.set_cons_succ]
  refine wl_take (i := 1) (d := some 4) rfl rfl (by kernel_rfl) (by kernel_rfl) (by kernel_rfl) (by kernel_rfl) (by kernel_rfl) (fun _ _ _ h => h) (by rfl) (v := ?_) ?_ (by assumption) ?_
  rotate_left
  · (intro w hSw; (try dsimp only at hSw); go_simp <;> with_reducible rfl)
  simp only [Act.put, List.setIfInBounds_toArray, List.set_cons_zero, List.set_cons_succ]
  refine wl_take (i := 2) (d := some 5) rfl rfl (by kernel_rfl) (by kernel_rfl) (by kernel_rfl) (by kernel_rfl) (by kernel_rfl) (fun _ _ _ h => h) (by rfl) (v := ?_) ?_ (by assumption) ?_
  rotate_left
  · (intro w hSw; (try dsimp only at hSw); go_simp <;> with_reducible rfl)
  simp only [Act.put, List.setIfInBounds_toArray, List.set_cons_zero, List.set_cons_succ]
  refine wl_take (i := 3) (d := some 6) rfl rfl (by kernel_rfl) (by kernel_rfl) (by kernel_rfl) (by kernel_rfl) (by kernel_rfl) (fun _ _ _ h => h) (by rfl) (v := ?_) ?_ (by assumption) ?_
  rotate_left
  · (intro w hSw; (try dsimp only at hSw); go_simp <;> with_reducible rfl)
  simp only [Act.put, List.setIfInBounds_toArray, List.set_cons_zero, List.set_cons_succ]
  refine wl_take (i := 4) (d := some 7) rfl rfl (by kernel_rfl) (by kernel_rfl) (by kernel_rfl) (by kernel_rfl) (by kernel_rfl) (fun _ _ _ h => h) (by rfl) (v := ?_) ?_ (by assumption) ?_
  rotate_left
  · (intro w hSw; (try dsimp only at hSw); go_simp <;> with_reducible rfl)
  simp only [Act.put, List.setIfInBounds_toArray, List.set_cons_zero, List.set_cons_succ]
  refine wl_one (i := 5) (by kernel_rfl) rfl (by rfl) (fun K hK => ?_)
  go_simp
  clear hHeld
  have hd0 := below_drew W2
  refine (implText_any _ nm vr _ _ fs ds ((unhide HF).1.later hd0) ((unhide HF).2.later hd0)).mono ?_
  rw [← unhide HS]
  rintro e w3 ⟨rfl, b3⟩
  have hb3 : Below W2.heap.size W2 w3 := hd0.trans b3
  have hH3 := unhide SOF _ hb3
  have HB3 := hide hb3
  clear hb3 b3 hd0
  go_wp2_with fail
  refine hK.out _ _ (fun _ => (by assumption)) ?_
  clear hK K
  try simp only [Act.put, List.setIfInBounds_toArray, List.set_cons_zero, List.set_cons_succ]
  refine wl_one (i := 6) (by kernel_rfl) rfl (by rfl) (fun K hK => ?_)
  go_simp
  refine (implSum_any s _ hsz).mono ?_
  rintro e w4 ⟨rfl, rfl⟩
  rw [unhide HSM]
  have hr4 := ((unhide HB3).block _ (heapLt (unhide H2).2.2)).trans (unhide H2).2.2
  obtain ⟨r0, r1, r2⟩ : _ ∧ _ ∧ _ := ⟨cellOf hr4 0, cellOf hr4 1, cellOf hr4 2⟩
  obtain ⟨s0, s1, s2⟩ : _ ∧ _ ∧ _ := ⟨frozenOf hr4 0, frozenOf hr4 1, frozenOf hr4 2⟩
  have HR4 := hide hr4
  clear hr4
  go_wp2_with fail
  refine hK.out _ _ (fun _ => (by assumption)) ?_
  clear hK K
  try simp only [Act.put, List.setIfInBounds_toArray, List.set_cons_zero, List.set_cons_succ]
  refine wl_take (i := 7) (d := some 10) rfl rfl (by kernel_rfl) (by kernel_rfl) (by kernel_rfl) (by kernel_rfl) (by kernel_rfl) (fun _ _ _ h => h) (by rfl) (v := ?_) ?_ (by assumption) ?_
  rotate_left
  · (intro w hSw; (try dsimp only at hSw); go_simp <;> with_reducible rfl)
  simp only [Act.put, List.setIfInBounds_toArray, List.set_cons_zero, List.set_cons_succ]
  refine wl_one (i := 8) (by kernel_rfl) rfl (by rfl) (fun K hK => ?_)
  go_simp
  refine hK.out _ _ (fun h => absurd rfl h) ?_
  clear hK K
  refine wl_done (by kernel_rfl) ?_
  go_wp2
  have hBw := (unhide H2).1.trans ((unhide HB3).mono (unhide H2).1.size)
  obtain ⟨⟨q0, q1, q2⟩, hbel, _⟩ := fin3 (a := .int .i64 nm) (b := .int .i64 vr) (c := .int .i64 (Sm.sum (Pk.text nm vr fs ds))) (W := w) (unhide HR4) (by omega) hBw rfl
  exact bodyPost_ret (v := .agg #[.int .i64 nm, .int .i64 vr, .int .i64 (Sm.sum (Pk.text nm vr fs ds))]) (by simp [results, Tryz.results53, go_sem, q0, q1, q2]) rfl ⟨rfl, hbel⟩
theorem Ix.nm_map (l : List Ix.Pg) (i : Nat) (hi : i < l.length) : Ix.nm (l.map Ix.metaP) i = (Ix.pg l i).1 ∧ Ix.vr (l.map Ix.metaP) i = (Ix.pg l i).2.1 := by
  unfold Ix.nm Ix.vr Ix.pg
  rw [List.getD_eq_getElem?_getD, List.getD_eq_getElem?_getD, List.getElem?_map, List.getElem?_eq_getElem hi]
  exact ⟨rfl, rfl⟩
/-- Packages that are ok ascend just if what is told of them does. -/
theorem Ix.pkgs_of_metas {l : List Ix.Pg} (h1 : ∀ i, i < l.length → Ix.pOk (Ix.pg l i) = true) (h2 : Ix.metasOk (l.map Ix.metaP) = true) : Ix.pkgsOk l = true := by
  refine Ix.pkgsOk_good (fun i hi => ?_)
  unfold Ix.pkgGood
  rw [h1 i hi, Bool.true_and]
  have hg := Ix.metasOk_at h2 i (by rw [List.length_map]; exact hi)
  unfold Ix.good at hg
  rw [Bool.and_eq_true] at hg
  rw [(Ix.nm_map l i hi).1, (Ix.nm_map l i hi).2, (Ix.nm_map l (i - 1) (by omega)).1, (Ix.nm_map l (i - 1) (by omega)).2] at hg
  exact hg.2
theorem Xs.startI (w : World) (num til : Int) : Xs w ((w.alloc (.cells #[.int .i64 0, .int .i64 0, .slice none 0 0] 28)).alloc (.cells #[.int .i64 num, .int .i64 til, .slice none 0 0] 28)) (w.heap.size + 1) w.heap.size num til (.slice none 0 0) [] := by
  refine ⟨?_, ?_, by omega, Nat.le_refl _, by omega, World.ownsRow_nil _ _ _ _, (below1 w _).trans ((below1 _ _).mono (below1 w _).size)⟩
  · rw [at_new _ _ _ (by rw [sz1])]
  · rw [at_old _ _ _ (by rw [sz1]; omega), at_new _ _ _ rfl]

end Go.Proofs.YtlnieobmhofkdaaGreatDoor

/- What impl.tells returns: whether an index has a meta among its own; for every index; nothing old is written. -/
namespace Go.Proofs.YtlnieobmhofkdaaGreatDoor
open Go.RowKit Go.Shelf

attribute [local go_sem] Oper.semAt_some

theorem mem_snoc {l : List Ix.M} {x m : Ix.M} (h : m ∉ l) (hx : x ≠ m) : m ∉ l ++ [x] := by simp [h, Ne.symm hx]
theorem mem_pre {p l : List Ix.M} {m : Ix.M} (h : p <+: l) (hm : m ∈ p) : m ∈ l := by obtain ⟨t, rfl⟩ := h; exact List.mem_append_left _ hm

set_option maxRecDepth 100000 in
set_option maxHeartbeats 4000000 in
theorem tells_in (w : World) (num til : Int) (mv : Value) (l : List Ix.M) (n v s : Int) (h : Trs w mv l) :
    CallsIn Fence.wide 5 Tryz.prog 52 #[.agg #[.int .i64 num, .int .i64 til, mv], .agg #[.int .i64 n, .int .i64 v, .int .i64 s]] w fun e w' => e = .returned (.bool (decide ((n, v, s) ∈ l))) ∧ Below w.heap.size w w' := by
  obtain ⟨a, cap, hmv⟩ := h.slice
  have HT := hide h
  clear h
  subst hmv
  refine callsIn_of_wp_marks Tryz.func52 rfl trivial ?_ rfl
  simp only [Tryz.ntmps52, List.size_toArray, List.length_cons, List.length_nil, Nat.reduceAdd, Nat.reduceSub, Array.replicate_succ, Array.replicate_zero, List.push_toArray, List.append_toArray, List.nil_append, List.cons_append]
  gi_wp2_with (refine ⟨trivial, ?_⟩; gi_at_call 59; refine (metasOf_in _ _ _ _ _ _ _).mono ?_; rintro e w' ⟨rfl, rfl⟩)
  obtain ⟨X, hX⟩ : ∃ X : Obj, X = .cells #[.int .i64 num, .int .i64 til, .slice a l.length cap] 28 := ⟨_, rfl⟩
  obtain ⟨Y, hY⟩ : ∃ X : Obj, X = .cells #[.int .i64 n, .int .i64 v, .int .i64 s] 55 := ⟨_, rfl⟩
  rw [← hX, ← hY]
  have hsz : ((((w.alloc X).alloc Y).alloc (.cells #[.bool false] 4)).alloc X).heap.size = w.heap.size + 4 := by simp
  have b1 : ((((w.alloc X).alloc Y).alloc (.cells #[.bool false] 4)).alloc X).heap[w.heap.size + 1]? = some (.cells #[.int .i64 n, .int .i64 v, .int .i64 s] 55 (0, 0)) := by
    have b := heap_alloc_new (w.alloc X) Y
    simp only [World.size_alloc] at b
    rw [← hY]
    exact (Below.heap_alloc _ X (w.heap.size + 1) (by simp)).trans ((Below.heap_alloc _ (.cells #[.bool false] 4) (w.heap.size + 1) (by simp)).trans b)
  have b2 : ((((w.alloc X).alloc Y).alloc (.cells #[.bool false] 4)).alloc X).heap[w.heap.size + 1 + 1]? = some (.cells #[.bool false] 4 (0, 0)) := by
    have b := heap_alloc_new ((w.alloc X).alloc Y) (.cells #[.bool false] 4)
    simp only [World.size_alloc] at b
    exact (Below.heap_alloc _ X (w.heap.size + 1 + 1) (by simp)).trans b
  have b3 : ((((w.alloc X).alloc Y).alloc (.cells #[.bool false] 4)).alloc X).heap[w.heap.size + 1 + 1 + 1]? = some (.cells #[.int .i64 num, .int .i64 til, .slice a l.length cap] 28 (0, 0)) := by
    have b := heap_alloc_new (((w.alloc X).alloc Y).alloc (.cells #[.bool false] 4)) X
    simp only [World.size_alloc] at b
    rw [← hX]
    exact b
  have hB0 : Below w.heap.size w ((((w.alloc X).alloc Y).alloc (.cells #[.bool false] 4)).alloc X) := ((((Below.refl _ w).alloc (Nat.le_refl _) _).alloc (by simp) _).alloc (by simp; omega) _).alloc (by simp; omega) _
  obtain ⟨W0, hW0⟩ : ∃ W0, (((w.alloc X).alloc Y).alloc (.cells #[.bool false] 4)).alloc X = W0 := ⟨_, rfl⟩
  rw [hW0] at b1 b2 b3 hB0 hsz ⊢
  clear hW0 hX hY
  clear X Y
  refine wpIn_rangeFunc_ownH rfl (by omega) (gf := 111) (lb := #[.pointer (some ⟨w.heap.size + 1 + 1 + 1, 0, none⟩)]) rfl trivial (enters_of Tryz.func111 (by kernel_rfl) rfl)
    (metas_stops 4 (by omega) (w.heap.size + 1 + 1 + 1) w.heap.size _ l W0 (by omega) (by omega) (cellOf b3 2) w rfl (unhide HT) hB0) belowK_t (belowK_b (by omega)) (Below.refl _ _) (fun _ => rfl)
    (fun pre W => (((n, v, s) ∉ pre ∧ W.heap[w.heap.size + 1 + 1]? = some (.cells #[.bool false] 4 (0, 0))) ∧ W.heap[w.heap.size + 1]? = some (.cells #[.int .i64 n, .int .i64 v, .int .i64 s] 55 (0, 0))) ∧ Below w.heap.size w W)
    (fun c pre W => ((c = .ret ∧ (n, v, s) ∈ pre) ∧ W.heap[w.heap.size + 1 + 1]? = some (.cells #[.bool true] 4 (0, 0))) ∧ Below w.heap.size w W)
    (OwnFrom.and (OwnFrom.and (OwnFrom.and (ownFrom_pure _ _) (Own.from (blk_own _ _ _) _)) (Own.from (blk_own _ _ _) _)) (ownFrom_below (Nat.le_refl _) (by omega)))
    (fun c => OwnFrom.and (OwnFrom.and (ownFrom_pure _ _) (Own.from (blk_own _ _ _) _)) (ownFrom_below (Nat.le_refl _) (by omega)))
    ⟨⟨⟨by simp, b2⟩, b1⟩, hB0⟩
    (fun x a' W => ∃ Bx, w.heap.size + 1 + 1 < Bx ∧ W.heap[Bx]? = some (.cells #[.int .i64 x.1, .int .i64 x.2.1, .int .i64 x.2.2] 55 (0, 0)) ∧ ∃ t6 t7 t8, a' = { tmps := #[.agg #[.int .i64 num, .int .i64 til, .slice a l.length cap], .agg #[.int .i64 n, .int .i64 v, .int .i64 s], .pointer (some ⟨w.heap.size, 0, none⟩), .pointer (some ⟨w.heap.size + 1, 0, none⟩), .pointer (some ⟨w.heap.size + 1 + 1, 0, none⟩), .pointer (some ⟨Bx, 0, none⟩), t6, t7, t8, undef, undef, undef], defers := [] })
    (fun x a' _ X Y row hs hg hr => by obtain ⟨Bx, e1, e2, e3⟩ := hs; exact ⟨Bx, e1, blk_own Bx 55 (fun (_ : Unit) => #[.int .i64 x.1, .int .i64 x.2.1, .int .i64 x.2.2]) () X Y row e2 hg (fun r e => (hr r e).2), e3⟩)
    ?assign ?body ?done ?stop
  case assign =>
    rintro l0 pre x W K ⟨⟨⟨hp, e1⟩, e2⟩, hB1⟩ hK
    gi_wp2
    exact hK _ _ ((KeepsOthers.alloc _ _).from _) ((Below.refl _ W).alloc hB1.size _) ⟨⟨⟨hp, (Below.heap_alloc W _ _ (heapLt e1)).trans e1⟩, (Below.heap_alloc W _ _ (heapLt e2)).trans e2⟩, hB1.alloc hB1.size _⟩ ⟨W.heap.size, heapLt e1, heap_alloc_new W _, _, _, _, rfl⟩
  case body =>
    rintro l0 pre x a' W hl ⟨r, hr⟩ ⟨⟨⟨hp, e1⟩, e2⟩, hB1⟩ ⟨Bx, hBx, bX, t6, t7, t8, rfl⟩ hlt
    have x0 := cellOf bX 0
    have x1 := cellOf bX 1
    have x2 := cellOf bX 2
    have y0 := cellOf e2 0
    have y1 := cellOf e2 1
    have y2 := cellOf e2 2
    have r0 := cellOf e1 0
    have r1 := frozenOf e1 0
    have HE1 := hide e1
    have HE2 := hide e2
    have HB1 := hide hB1
    have HR := hide hr
    have HP := hide hp
    clear e1 e2 bX hB1 hr b1 b2 b3 hB0 HT hp
    obtain ⟨xa, xb, xc⟩ := x
    dsimp only at x0 x1 x2
    by_cases ha : xa = n
    · by_cases hb : xb = v
      · by_cases hc : xc = s
        · have HX : Hid ((xa, xb, xc) = (n, v, s)) := by show _ = _; rw [ha, hb, hc]
          rw [ha] at x0
          rw [hb] at x1
          rw [hc] at x2
          clear ha hb hc
          gi_wp2_with fail
          exact ⟨(KeepsOthers.setCell _ _ _).from _, ⟨⟨rfl, by rw [unhide HX]; simp⟩, heapSet (unhide HE1)⟩, (unhide HB1).setCell (p := ⟨w.heap.size + 1 + 1, 0, none⟩) (by simp; omega) _⟩
        · have HX : Hid ((xa, xb, xc) ≠ (n, v, s)) := fun e => hc (congrArg (fun x : Ix.M => x.2.2) e)
          gi_wp2_with fail
          exact ⟨(KeepsOthers.refl _).from _, Below.refl _ _, ⟨⟨mem_snoc (unhide HP) (unhide HX), unhide HE1⟩, unhide HE2⟩, unhide HB1⟩
      · have HX : Hid ((xa, xb, xc) ≠ (n, v, s)) := fun e => hb (congrArg (fun x : Ix.M => x.2.1) e)
        gi_wp2_with fail
        exact ⟨(KeepsOthers.refl _).from _, Below.refl _ _, ⟨⟨mem_snoc (unhide HP) (unhide HX), unhide HE1⟩, unhide HE2⟩, unhide HB1⟩
    · have HX : Hid ((xa, xb, xc) ≠ (n, v, s)) := fun e => ha (congrArg (fun x : Ix.M => x.1) e)
      gi_wp2_with fail
      exact ⟨(KeepsOthers.refl _).from _, Below.refl _ _, ⟨⟨mem_snoc (unhide HP) (unhide HX), unhide HE1⟩, unhide HE2⟩, unhide HB1⟩
  case done =>
    rintro D zs W hD rfl ⟨⟨⟨hp, e1⟩, e2⟩, hB1⟩ hK
    have cR := cellOf e1 0
    have fR := frozenOf e1 0
    gi_wp2
    have hK' := (KeepsOthers.setCell W ⟨w.heap.size + 1 + 1, 0, none⟩ (.bool false)).same D _ hK rfl
    refine ⟨by simp, .inl ⟨_, _, rfl, run_takeDeferred hK', ?_⟩⟩
    have hc5 := cell_kept (cellOf (heapSet (v := .bool false) (o := 0) e1) 0) (grownBy_putObj' _ D (.deferred none)) (fun r e => by cases e; exact ⟨_, hK', rfl⟩)
    refine ⟨.bool false, ?_, by rw [decide_eq_false hp], (hB1.setCell (p := ⟨w.heap.size + 1 + 1, 0, none⟩) (by simp; omega) _).trans (belowK_b (w := w) (Nat.le_refl _) _ D _ _ (by omega) hK' rfl rfl)⟩
    simp [results, Tryz.f52, go_sem, hc5]
  case stop =>
    rintro D c pre W hD hpre ⟨⟨⟨rfl, hin⟩, e1⟩, hB1⟩ hK
    gi_wp2
    refine ⟨by simp, .inl ⟨_, _, rfl, run_takeDeferred hK, ?_⟩⟩
    have hc5 := cell_kept (cellOf e1 0) (grownBy_putObj' _ D (.deferred none)) (fun r e => by cases e; exact ⟨_, hK, rfl⟩)
    refine ⟨.bool true, ?_, by rw [decide_eq_true (mem_pre hpre hin)], hB1.trans (belowK_b (w := w) (Nat.le_refl _) W D _ _ (by omega) hK rfl rfl)⟩
    simp [results, Tryz.f52, go_sem, hc5]
theorem tells_any (w : World) (num til : Int) (mv : Value) (l : List Ix.M) (n v s : Int) (h : Trs w mv l) :
    Calls Tryz.prog 52 #[.agg #[.int .i64 num, .int .i64 til, mv], .agg #[.int .i64 n, .int .i64 v, .int .i64 s]] w fun e w' => e = .returned (.bool (decide ((n, v, s) ∈ l))) ∧ Below w.heap.size w w' := callsIn_wide.1 (tells_in w num til mv l n v s h)
end Go.Proofs.YtlnieobmhofkdaaGreatDoor
