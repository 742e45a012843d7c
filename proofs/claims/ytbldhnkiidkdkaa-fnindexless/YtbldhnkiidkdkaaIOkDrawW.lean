/- What spec's DrawIndexOk returns: an index that can be read. -/
import Derived.Test.YtbldhnkiidkdkaaIndexDrawW
import Derived.Test.YtbldhnkiidkdkaaSkipW
import Derived.Test.YtbldhnkiidkdkaaOpenW
namespace Go.Proofs.Ytbldhnkiidkdkaa
open Go.RowKit

attribute [local go_sem ↓] Go.wp_at_zero Go.wp_at_succ

/-- An index that a call drew: its box, its row, the reader. -/
structure Iq (B : Nat) (W : World) (blk : Nat) (w : World) (p X : Nat) (num til : Int) (mv : Value) (ms : List Ix.M) : Prop where
  dr : Dr B W blk w p
  hX : w.heap[X]? = some (.cells #[.int .i64 num, .int .i64 til, mv] 25 (0, 0))
  lX : W.heap.size ≤ X
  own : w.ownsRow W.heap.size 29 3 mv ms.length (flat3 ms)
section
variable {B : Nat} {W w w' : World} {blk p p' X R : Nat} {o : Obj} {num til : Int} {mv : Value} {ms : List Ix.M}
theorem Iq.keep (h : Iq B W blk w p X num til mv ms) (hk : Kp w.heap.size blk w w') (hr : Rd B w' blk p') : Iq B W blk w' p' X num til mv ms :=
  ⟨h.dr.keep hk hr, h.dr.box hk h.lX h.hX, h.lX, h.dr.row hk h.own⟩
theorem Iq.later (h : Iq B W blk w p X num til mv ms) (hb : Below w.heap.size w w') : Iq B W blk w' p X num til mv ms := h.keep (Kp.of_below hb) (h.dr.later hb).rd
theorem Iq.box0 (h : Iq B W blk w p X num til mv ms) (hR : W.heap[R]? = some o) (hne : R ≠ blk) : w.heap[R]? = some o := (h.dr.kp.block R (heapLt hR) hne).trans hR
theorem Iq.below {w0 : World} (h : Iq B W blk w p X num til mv ms) (hb : Below w0.heap.size w0 W) (hblk : w0.heap.size ≤ blk) : Below w0.heap.size w0 w := hb.trans ((h.dr.kp.mono hb.size).below hblk)
theorem Iq.app {w2 : World} {g cap : Nat} {x : Ix.M} (h : Iq B W blk w p X num til mv ms) (hg : w.grownBy w2 mv.ownBlock)
    (ho : w2.ownsRow W.heap.size 29 3 (.slice (some ⟨g, 0, none⟩) (ms.length + 1) cap) (ms.length + 1) (flat3 ms ++ [.int .i64 x.1, .int .i64 x.2.1, .int .i64 x.2.2])) :
    Iq B W blk (w2.setCell ⟨X, 2, none⟩ (.slice (some ⟨g, 0, none⟩) (ms.length + 1) cap)) p X num til (.slice (some ⟨g, 0, none⟩) (ms.length + 1) cap) (ms ++ [x]) := by
  have hX2 := (grown_other h.own hg h.hX (by decide)).trans h.hX
  refine ⟨(h.dr.grown h.own hg).set h.lX, by rw [heapSet hX2]; rfl, h.lX, ?_⟩
  rw [flat3_snoc, List.length_append]
  exact own_set ho hX2 (by decide)
end
/-- A slice of so many has the room that it says. -/
def RoomI (v : Value) (n : Nat) : Prop := ∃ a c, v = .slice a n c ∧ n ≤ c ∧ c ≤ maxLen
theorem own_roomI {w : World} {B sz n : Nat} {t : TypeId} {v : Value} {xs : List Value} (h : w.ownsRow B t sz v n xs) : RoomI v n := by
  rcases h.2 with ⟨rfl, rfl⟩ | ⟨g, cap, cur, rfl, _, _, h1, h2, _⟩
  · exact ⟨_, _, rfl, Nat.le_refl _, Nat.zero_le _⟩
  · exact ⟨_, _, rfl, h1, h2⟩

set_option maxHeartbeats 4000000 in
set_option maxRecDepth 100000 in
theorem drawIndexOk_any (w : World) (a : Option Addr) (len cap : Nat) (h : Bytes w a len cap) :
    Calls Try.prog 4 #[.slice a len cap] w fun e w' => ∃ (num til : Int) (mv : Value) (ms : List Ix.M), e = .returned (.agg #[.int .i64 num, .int .i64 til, mv]) ∧ ms.length ≤ 10 ∧ Trs w' mv ms ∧ RoomI mv ms.length ∧ Below w.heap.size w w' := by
  obtain ⟨i0, hI0, hz0, hz1, hz2⟩ := info_parts infoMeta
  have CO := hide (open_behind w a len cap h (.cells #[.int .i64 0, .int .i64 0, .slice none 0 0] 25))
  clear h
  go_enter Try.func4, Try.ntmps4
  go_wp2_with fail
  refine (unhide CO).mono ?_
  generalize w.alloc _ = W0 at *
  rintro e w1 ⟨rfl, hr1, hR1, b1, hs1⟩
  have HR1 := hide hR1
  have B1 := hide b1
  have HRD := hide hr1
  clear hR1 b1 hr1 CO
  clear W0
  go_wp2_with fail
  refine (l71Index_any _ (w.heap.size + 1) 0 (unhide HRD) (by omega) (by omega)).mono ?_
  rintro e w2 ⟨num, til, mv, ms, q2, rfl, m0, m1, t0, t1, hms, hq2, hdr, hom⟩
  obtain ⟨ma, mc, hmv⟩ := own_formS hom
  subst hmv
  have hs2 := hdr.size
  have T2 : Hid (Iq (w.heap.size + 1) w1 (w.heap.size + 1) (w2.alloc (.cells #[.int .i64 num, .int .i64 til, .slice ma ms.length mc] 25)) q2 w2.heap.size num til (.slice ma ms.length mc) ms) :=
    ⟨hdr.later (below1 _ _), heap_alloc_new _ _, hs2, own_later hom (below1 _ _)⟩
  have hXR : w.heap.size < w2.heap.size := by omega
  clear hdr hom HRD
  go_wp2_with fail
  refine (pick_any _ (w.heap.size + 1) q2 3 (unhide T2).dr.rd (by omega) (by omega) (by omega)).mono ?_
  generalize w2.heap.size = X at *
  generalize w2.alloc _ = W2 at *
  clear w2
  rintro e w3 ⟨v3, rfl, v30, v31, hr3, hk3⟩
  have T3 := hide ((unhide T2).keep hk3 hr3)
  clear hr3 hk3 T2
  have hv3 : v3 = 0 ∨ ¬ v3 = 0 := by omega
  rcases hv3 with rfl | hv3
  rotate_left
  · have hv3' : (v3 == 0) = false := by simpa using hv3
    have hR3 := (unhide T3).box0 (unhide HR1) (by omega)
    obtain ⟨x0, x1, x2⟩ : _ ∧ _ ∧ _ := ⟨cellOf (unhide T3).hX 0, cellOf (unhide T3).hX 1, cellOf (unhide T3).hX 2⟩
    obtain ⟨r0, r1, r2⟩ : _ ∧ _ ∧ _ := ⟨cellOf hR3 0, cellOf hR3 1, cellOf hR3 2⟩
    obtain ⟨f0, f1, f2⟩ : _ ∧ _ ∧ _ := ⟨frozenOf hR3 0, frozenOf hR3 1, frozenOf hR3 2⟩
    have HR3 := hide hR3
    have hne : X ≠ w.heap.size := by omega
    clear hR3
    go_wp2
    obtain ⟨⟨q0, q1, q2'⟩, hb9, hfar⟩ := fin3 (W := w) (a := .int .i64 num) (b := .int .i64 til) (c := .slice ma ms.length mc) (unhide HR3) (Nat.le_refl _) ((unhide T3).below (unhide B1) (by omega)) rfl
    exact bodyPost_ret (v := .agg #[.int .i64 num, .int .i64 til, .slice ma ms.length mc]) (by simp [results, Try.results4, go_sem, q0, q1, q2']) rfl ⟨_, _, _, ms, rfl, by omega, Trs.own (B := w1.heap.size) (own_keepS (unhide T3).own (fun g _ _ hg _ => hfar g (by omega))) (by omega), own_roomI (unhide T3).own, hb9⟩
  · go_wp2_with fail
    have x2 := cellOf (unhide T3).hX 2
    refine wl_region (S := fun w' => w'.cell? ⟨X, 2, none⟩ = some (.slice ma ms.length mc)) (s := 13) (by kernel_rfl) x2 (fun hHeld => ?_)
    refine wl_take (i := 0) (d := some 12) rfl rfl (by kernel_rfl) (by kernel_rfl) (by kernel_rfl) (by kernel_rfl) (by kernel_rfl) (fun _ _ _ h => h) (by rfl) (v := ?_) ?_ (by assumption) ?_
    rotate_left
    · (intro w hSw; (try dsimp only at hSw); go_simp <;> with_reducible rfl)
    simp only [Act.put, List.setIfInBounds_toArray, List.set_cons_zero, List.set_cons_succ]
    refine wl_take (i := 1) (d := some 13) rfl rfl (by kernel_rfl) (by kernel_rfl) (by kernel_rfl) (by kernel_rfl) (by kernel_rfl) (fun _ _ _ h => h) (by rfl) (v := ?_) ?_ (by assumption) ?_
    rotate_left
    · (intro w hSw; (try dsimp only at hSw); go_simp <;> with_reducible rfl)
    simp only [Act.put, List.setIfInBounds_toArray, List.set_cons_zero, List.set_cons_succ]
    refine wl_take (i := 2) (d := some 14) rfl rfl (by kernel_rfl) (by kernel_rfl) (by kernel_rfl) (by kernel_rfl) (by kernel_rfl) (fun _ _ _ h => h) (by rfl) (fun w _ => run_move rfl rfl w) (by assumption) ?_
    simp only [Act.put, List.setIfInBounds_toArray, List.set_cons_zero, List.set_cons_succ, List.getElem_toArray, List.getElem_cons_zero, List.getElem_cons_succ]
    refine wl_take (i := 4) (d := some 16) rfl rfl (by kernel_rfl) (by kernel_rfl) (by kernel_rfl) (by kernel_rfl) (by kernel_rfl) (fun _ _ _ h => h) (by rfl) (fun w _ => run_move rfl rfl w) (by assumption) ?_
    simp only [Act.put, List.setIfInBounds_toArray, List.set_cons_zero, List.set_cons_succ, List.getElem_toArray, List.getElem_cons_zero, List.getElem_cons_succ]
    refine wl_take (i := 7) (d := some 19) rfl rfl (by kernel_rfl) (by kernel_rfl) (by kernel_rfl) (by kernel_rfl) (by kernel_rfl) (fun _ _ _ h => h) (by rfl) (fun w _ => run_move rfl rfl w) (by assumption) ?_
    simp only [Act.put, List.setIfInBounds_toArray, List.set_cons_zero, List.set_cons_succ, List.getElem_toArray, List.getElem_cons_zero, List.getElem_cons_succ]
    refine wl_one (i := 3) (by kernel_rfl) rfl (by rfl) (fun K hK => ?_)
    go_simp
    have T3d := hide ((unhide T3).later (below_drew w3))
    clear T3 x2 hHeld
    refine (pick_any _ (w.heap.size + 1) (q2 + 1) 6 (by exact (unhide T3d).dr.rd) (by omega) (by omega) (by omega)).mono ?_
    rintro e w7 ⟨v7, rfl, v70, v71, hr7, hk7⟩
    have T7 := hide ((unhide T3d).keep hk7 hr7)
    have hH7 := cellOf (unhide T7).hX 2
    clear hr7 hk7 T3d
    go_wp2_with fail
    refine hK.out _ _ (fun _ => (by assumption)) ?_
    clear hK K
    try simp only [Act.put, List.setIfInBounds_toArray, List.set_cons_zero, List.set_cons_succ]
    refine wl_one (i := 5) (by kernel_rfl) rfl (by rfl) (fun K hK => ?_)
    go_simp
    refine (pick_any _ (w.heap.size + 1) (q2 + 1 + 1) 4 (by exact (unhide T7).dr.rd) (by omega) (by omega) (by omega)).mono ?_
    rintro e w8 ⟨v8, rfl, v80, v81, hr8, hk8⟩
    have T8 := hide ((unhide T7).keep hk8 hr8)
    have hH8 := cellOf (unhide T8).hX 2
    have e8 : IntKind.i64.wrap (1 + v8) = 1 + v8 := wrap_small v80 (by omega)
    clear hr8 hk8 T7 hH7
    go_wp2_with fail
    refine hK.out _ _ (fun _ => (by assumption)) ?_
    clear hK K
    try simp only [Act.put, List.setIfInBounds_toArray, List.set_cons_zero, List.set_cons_succ]
    refine wl_take (i := 6) (d := some 18) rfl rfl (by kernel_rfl) (by kernel_rfl) (by kernel_rfl) (by kernel_rfl) (by kernel_rfl) (fun _ _ _ h => h) (by rfl) (v := ?_) ?_ (by assumption) ?_
    rotate_left
    · (intro w hSw; (try dsimp only at hSw); go_simp <;> with_reducible rfl)
    simp only [Act.put, List.setIfInBounds_toArray, List.set_cons_zero, List.set_cons_succ]
    refine wl_one (i := 8) (by kernel_rfl) rfl (by rfl) (fun K hK => ?_)
    go_simp
    refine (pick_any _ (w.heap.size + 1) (q2 + 1 + 1 + 1) 9974 (by exact (unhide T8).dr.rd) (by omega) (by omega) (by omega)).mono ?_
    rintro e w9 ⟨v9, rfl, v90, v91, hr9, hk9⟩
    have T9 := hide ((unhide T8).keep hk9 hr9)
    have hH9 := cellOf (unhide T9).hX 2
    clear hr9 hk9 T8 hH8
    go_wp2_with fail
    refine hK.out _ _ (fun _ => (by assumption)) ?_
    clear hK K
    try simp only [Act.put, List.setIfInBounds_toArray, List.set_cons_zero, List.set_cons_succ]
    refine wl_take (i := 9) (d := some 21) rfl rfl (by kernel_rfl) (by kernel_rfl) (by kernel_rfl) (by kernel_rfl) (by kernel_rfl) (fun _ _ _ h => h) (by rfl) (v := ?_) ?_ (by assumption) ?_
    rotate_left
    · (intro w hSw; (try dsimp only at hSw); go_simp <;> with_reducible rfl)
    simp only [Act.put, List.setIfInBounds_toArray, List.set_cons_zero, List.set_cons_succ]
    refine wl_one (i := 10) (by kernel_rfl) rfl (by rfl) (fun K hK => ?_)
    go_simp
    have T10 := hide ((unhide T9).later (below1 w9 (.cells #[.int .i64 v7, .int .i64 (1 + v8), .int .i64 v9] 29)))
    have hH10 := cellOf (unhide T10).hX 2
    have hnw := World.news_of_block (cs := #[.int .i64 v7, .int .i64 (1 + v8), .int .i64 v9]) (t := 29) (fr := (0, 0)) (heap_alloc_new w9 (.cells #[.int .i64 v7, .int .i64 (1 + v8), .int .i64 v9] 29))
    clear hH9 T9
    refine hK.out _ _ (fun _ => (by assumption)) ?_
    clear hK K
    try simp only [Act.put, List.setIfInBounds_toArray, List.set_cons_zero, List.set_cons_succ]
    refine wl_one (i := 11) (by kernel_rfl) rfl (by rfl) (fun K hK => ?_)
    refine wp_append_lies _ _ _ _ (by rfl) w1.heap.size 29 i0 _ 3 24 Try.underlying23 hI0 hz0 hz1 hz2 rfl (by omega) (.slice ma ms.length mc) ms.length (flat3 ms) (by rfl) (unhide T10).own
      ⟨w9.heap.size, 0, none⟩ 1 1 [.int .i64 v7, .int .i64 (1 + v8), .int .i64 v9] (by rfl) (by rfl) hnw (by simp [Value.oneCell']) (by omega) (by unfold maxLen; omega) (by omega) (unhide T10).dr.size (w9.heap.size + 1) (by simp) ?_
    intro gg gcap w11 hown hgrow hat hlt11
    have hX11 := (grown_other (unhide T10).own hgrow (unhide T10).hX (by decide)).trans (unhide T10).hX
    have hH11 := cellOf hX11 2
    have fX := frozenOf hX11 2
    have HY := hide (Iq.app (x := (v7, 1 + v8, v9)) (unhide T10) hgrow hown)
    have hlm : (ms ++ [(v7, 1 + v8, v9)]).length ≤ 10 := by rw [List.length_append]; simp only [List.length_cons, List.length_nil]; omega
    clear hH10 T10 hgrow hown hat hnw hX11
    change K (Act.put _ (some 23) _) _
    refine hK.out _ _ (fun _ => (by assumption)) ?_
    clear hK K
    try simp only [Act.put, List.setIfInBounds_toArray, List.set_cons_zero, List.set_cons_succ]
    refine wl_take (i := 12) (d := some 24) rfl rfl (by kernel_rfl) (by kernel_rfl) (by kernel_rfl) (by kernel_rfl) (by kernel_rfl) (fun _ _ _ h => h) (by rfl) (v := ?_) ?_ (by assumption) ?_
    rotate_left
    · (intro w hSw; (try dsimp only at hSw); go_simp <;> with_reducible rfl)
    simp only [Act.put, List.setIfInBounds_toArray, List.set_cons_zero, List.set_cons_succ]
    refine wl_one (i := 13) (by kernel_rfl) rfl (by rfl) (fun K hK => ?_)
    go_simp
    generalize w11.setCell _ _ = w12 at *
    refine hK.out _ _ (fun h => absurd rfl h) ?_
    clear hK K
    refine wl_done (by kernel_rfl) ?_
    clear hH11 fX
    have hR3 := (unhide HY).box0 (unhide HR1) (by omega)
    obtain ⟨x0, x1, x2⟩ : _ ∧ _ ∧ _ := ⟨cellOf (unhide HY).hX 0, cellOf (unhide HY).hX 1, cellOf (unhide HY).hX 2⟩
    obtain ⟨r0, r1, r2⟩ : _ ∧ _ ∧ _ := ⟨cellOf hR3 0, cellOf hR3 1, cellOf hR3 2⟩
    obtain ⟨f0, f1, f2⟩ : _ ∧ _ ∧ _ := ⟨frozenOf hR3 0, frozenOf hR3 1, frozenOf hR3 2⟩
    have HR3 := hide hR3
    have hne : X ≠ w.heap.size := by omega
    clear hR3
    go_wp2
    obtain ⟨⟨q0, q1, q2'⟩, hb9, hfar⟩ := fin3 (W := w) (a := .int .i64 num) (b := .int .i64 til) (c := .slice (some ⟨gg, 0, none⟩) (ms.length + 1) gcap) (unhide HR3) (Nat.le_refl _) ((unhide HY).below (unhide B1) (by omega)) rfl
    exact bodyPost_ret (v := .agg #[.int .i64 num, .int .i64 til, .slice (some ⟨gg, 0, none⟩) (ms.length + 1) gcap]) (by simp [results, Try.results4, go_sem, q0, q1, q2']) rfl ⟨_, _, _, (ms ++ [(v7, 1 + v8, v9)]), rfl, hlm, Trs.own (B := w1.heap.size) (own_keepS (unhide HY).own (fun g _ _ hg _ => hfar g (by omega))) (by omega), own_roomI (unhide HY).own, hb9⟩
end Go.Proofs.Ytbldhnkiidkdkaa
