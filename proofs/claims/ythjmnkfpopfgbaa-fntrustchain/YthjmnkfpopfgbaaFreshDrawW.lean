/- What spec's DrawTrustFresh returns: trust that can be read, and a small number. -/
import Derived.Test.YthjmnkfpopfgbaaTrustDrawW
import Derived.Test.YthjmnkfpopfgbaaTrustOkW
import Derived.Test.YthjmnkfpopfgbaaSkipW
import Derived.Test.YthjmnkfpopfgbaaBox7W
import Derived.Deep.DrawnRows
namespace Go.Proofs.Ythjmnkfpopfgbaa
open Go.RowKit

attribute [local go_sem ↓] Go.wp_at_zero Go.wp_at_succ

theorem wrap_in' {v : Int} (h0 : -1000 ≤ v) (h1 : v ≤ 1000) : IntKind.i64.wrap v = v := by simp [IntKind.wrap, IntKind.bits, IntKind.signed]; omega
theorem quo_in' {v : Int} (h0 : 0 ≤ v) (h1 : v < 12) : ∃ q, IntKind.i64.wrap (v.tdiv 11) = q ∧ 0 ≤ q ∧ q ≤ 1 := by
  refine ⟨v.tdiv 11, wrap_in' ?_ ?_, ?_, ?_⟩ <;> rw [Int.tdiv_eq_ediv_of_nonneg h0] <;> omega
/-- Trust that a call drew: its box, its rows, the reader. -/
structure Td (B : Nat) (W : World) (blk : Nat) (w : World) (p X : Nat) (n d : Int) (kv : Value) (ks : List Int) (has : Bool) (num til : Int) (mv : Value) (ms : List Ix.M) : Prop where
  dr : Dr B W blk w p
  hX : w.heap[X]? = some (.cells #[.int .i64 n, kv, .int .i64 d, .bool has, .int .i64 num, .int .i64 til, mv] 31 (0, 0))
  lX : W.heap.size ≤ X
  keys : w.ownsRow W.heap.size 3 1 kv ks.length (ks.map (Value.int .i64))
  own : w.ownsRow W.heap.size 125 3 mv ms.length (flat3 ms)
section
variable {B : Nat} {W w w' : World} {blk p p' X R : Nat} {o : Obj} {n d num til : Int} {kv mv : Value} {ks : List Int} {has : Bool} {ms : List Ix.M}
theorem Td.keep (h : Td B W blk w p X n d kv ks has num til mv ms) (hk : Kp w.heap.size blk w w') (hr : Rd B w' blk p') : Td B W blk w' p' X n d kv ks has num til mv ms :=
  ⟨h.dr.keep hk hr, h.dr.box hk h.lX h.hX, h.lX, h.dr.row hk h.keys, h.dr.row hk h.own⟩
theorem Td.later (h : Td B W blk w p X n d kv ks has num til mv ms) (hb : Below w.heap.size w w') : Td B W blk w' p X n d kv ks has num til mv ms := h.keep (Kp.of_below hb) (h.dr.later hb).rd
theorem Td.box0 (h : Td B W blk w p X n d kv ks has num til mv ms) (hR : W.heap[R]? = some o) (hne : R ≠ blk) : w.heap[R]? = some o := (h.dr.kp.block R (heapLt hR) hne).trans hR
/-- The rows, read in a world where all but one elder block stay. -/
theorem Td.reads (h : Td B W blk w p X n d kv ks has num til mv ms) (hf : ∀ k, k ≠ R → w'.heap[k]? = w.heap[k]?) (hR : R < W.heap.size) (hk7 : ks.length ≤ 7) (hm9 : ms.length ≤ 9) : Ins w' kv ks ∧ Trs w' mv ms := by
  refine ⟨OwnI.ins (B := W.heap.size) (own_keepS h.keys (fun g _ _ hb _ => hf g (by omega))) (by omega), Trs.own (B := W.heap.size) (own_keepS h.own (fun g _ _ hb _ => hf g (by omega))) (by omega)⟩
theorem Td.below {w0 : World} (h : Td B W blk w p X n d kv ks has num til mv ms) (hb : Below w0.heap.size w0 W) (hblk : w0.heap.size ≤ blk) : Below w0.heap.size w0 w := hb.trans ((h.dr.kp.mono hb.size).below hblk)
end
set_option maxHeartbeats 4000000 in
set_option maxRecDepth 100000 in
theorem drawTrustFresh_any (w : World) (a : Option Addr) (len cap : Nat) (h : Bytes w a len cap) :
    Calls Try.prog 33 #[.slice a len cap] w fun e w' => ∃ (n d : Int) (kv : Value) (ks : List Int) (has : Bool) (num til : Int) (mv : Value) (ms : List Ix.M) (now : Int), e = .returned (.tuple #[tv n d kv has num til mv, .int .i64 now]) ∧ -100 ≤ now ∧ now ≤ 100 ∧ ks.length ≤ 7 ∧ ms.length ≤ 9 ∧ Ins w' kv ks ∧ Trs w' mv ms ∧ Below w.heap.size w w' := by
  unfold tv
  have CO := hide (open_behind w a len cap h (.cells #[.int .i64 0, .slice none 0 0, .int .i64 0, .bool false, .int .i64 0, .int .i64 0, .slice none 0 0] 31))
  clear h
  go_enter Try.func33, Try.ntmps33
  go_wp2_with fail
  refine (unhide CO).mono ?_
  generalize w.alloc _ = W0 at *
  rintro e w1 ⟨rfl, hr1, hR1, b1, hs1⟩
  have HR1 := hide hR1
  have B1 := hide b1
  have HRD := hide hr1
  clear hR1 b1 hr1 CO
  clear W0
  go_wp2_with fail
  refine (l71Trust_any _ (w.heap.size + 1) 0 (unhide HRD) (by omega) (by omega)).mono ?_
  rintro e w2 ⟨n, d, kv, ks, has, num, til, mv, ms, pv, l, q2, rfl, ⟨n0, n1⟩, ⟨d0, d1⟩, ⟨m0, m1⟩, ⟨t0, t1⟩, hks, hms, hl, hq2, hdr, hok, hom, _⟩
  obtain ⟨ka, kc, hkv⟩ := own_formS hok
  obtain ⟨ma, mc, hmv⟩ := own_formS hom
  subst hkv hmv
  have hs2 := hdr.size
  have TD : Hid (Td (w.heap.size + 1) w1 (w.heap.size + 1) (w2.alloc (.cells #[.int .i64 n, .slice ka ks.length kc, .int .i64 d, .bool has, .int .i64 num, .int .i64 til, .slice ma ms.length mc] 31)) q2 w2.heap.size n d (.slice ka ks.length kc) ks has num til (.slice ma ms.length mc) ms) :=
    ⟨hdr.later (below1 _ _), heap_alloc_new _ _, hs2, own_later hok (below1 _ _), own_later hom (below1 _ _)⟩
  have hXR : w.heap.size < w2.heap.size := by omega
  clear hdr hok hom HRD
  go_wp2_with fail
  generalize w2.heap.size = X at *
  generalize w2.alloc _ = w3 at *
  obtain ⟨x0, x1, x2, x3, x4, x5, x6⟩ := box7 (unhide TD).hX
  refine wp_region_held_drew (S := fun w' => w'.cell? ⟨X, 0, none⟩ = some (.int .i64 n) ∧ w'.cell? ⟨X, 1, none⟩ = some (.slice ka ks.length kc) ∧ w'.cell? ⟨X, 2, none⟩ = some (.int .i64 d) ∧ w'.cell? ⟨X, 3, none⟩ = some (.bool has) ∧ w'.cell? ⟨X, 4, none⟩ = some (.int .i64 num) ∧ w'.cell? ⟨X, 5, none⟩ = some (.int .i64 til) ∧ w'.cell? ⟨X, 6, none⟩ = some (.slice ma ms.length mc)) (by kernel_rfl) ?_ (fun hHeld => ?_)
  · exact ⟨x0, x1, x2, x3, x4, x5, x6⟩
  clear x0 x1 x2 x3 x4 x5 x6
  refine anyH_at (i := 0) (d := some 14) rfl rfl (by kernel_rfl) (by kernel_rfl) (by kernel_rfl) (fun _ _ _ h => h) (by rfl) (v := ?_) ?_ (by assumption) ?_
  rotate_left
  · (intro w hSw; (try dsimp only at hSw); go_simp <;> with_reducible rfl)
  simp only [Act.put, List.setIfInBounds_toArray, List.set_cons_zero, List.set_cons_succ]
  refine anyH_at (i := 1) (d := some 15) rfl rfl (by kernel_rfl) (by kernel_rfl) (by kernel_rfl) (fun _ _ _ h => h) (by rfl) (v := ?_) ?_ (by assumption) ?_
  rotate_left
  · (intro w hSw; (try dsimp only at hSw); go_simp <;> with_reducible rfl)
  simp only [Act.put, List.setIfInBounds_toArray, List.set_cons_zero, List.set_cons_succ]
  refine anyH_at (i := 3) (d := some 17) rfl rfl (by kernel_rfl) (by kernel_rfl) (by kernel_rfl) (fun _ _ _ h => h) (by rfl) (v := ?_) ?_ (by assumption) ?_
  rotate_left
  · (intro w hSw; (try dsimp only at hSw); go_simp <;> with_reducible rfl)
  simp only [Act.put, List.setIfInBounds_toArray, List.set_cons_zero, List.set_cons_succ]
  refine wpAnyH_ready (rs := [2]) (by kernel_rfl) (by simp) ?_
  refine AllReadyH.cons rfl (fun K hK => ?_) AllReadyH.nil
  go_simp
  have TD3 := hide ((unhide TD).later (below_drew w3))
  clear TD
  refine (pick_any _ (w.heap.size + 1) q2 10 (by exact (unhide TD3).dr.rd) (by omega) (by omega) (by omega)).mono ?_
  rintro e w4 ⟨v4, rfl, v40, v41, hr4, hk4⟩
  have TD4 := hide ((unhide TD3).keep hk4 hr4)
  clear hr4 hk4 TD3
  go_wp2_with fail
  refine hK.out _ _ ?_ (fun hHeldN => ?_)
  · exact box7 (unhide TD4).hX
  clear hHeld
  have hHeld := hHeldN
  clear hHeldN
  clear hK K
  try simp only [Act.put, List.setIfInBounds_toArray, List.set_cons_zero, List.set_cons_succ]
  refine wpAnyH_ready (rs := [4]) (by kernel_rfl) (by simp) ?_
  refine AllReadyH.cons rfl (fun K hK => ?_) AllReadyH.nil
  go_simp
  refine (pick_any _ (w.heap.size + 1) (q2 + 1) 12 (by exact (unhide TD4).dr.rd) (by omega) (by omega) (by omega)).mono ?_
  rintro e w5 ⟨v5, rfl, v50, v51, hr5, hk5⟩
  have TD5 := hide ((unhide TD4).keep hk5 hr5)
  clear hr5 hk5 TD4
  obtain ⟨qq, hqq, q0, q1⟩ := quo_in' v50 (by omega)
  have hm9 : IntKind.i64.wrap (qq * 9) = qq * 9 := wrap_in' (by omega) (by omega)
  have hs9 : IntKind.i64.wrap (v4 - qq * 9) = v4 - qq * 9 := wrap_in' (by omega) (by omega)
  go_wp2_with fail
  refine hK.out _ _ ?_ (fun hHeldN => ?_)
  · exact box7 (unhide TD5).hX
  have hR5 := (unhide TD5).box0 (unhide HR1) (by omega)
  obtain ⟨s0, s1, s2, s3, s4, s5, s6⟩ := frz7 hR5
  obtain ⟨r0, r1, r2, r3, r4, r5, r6⟩ := box7 hR5
  have HR5 := hide hR5
  clear hR5
  clear hHeld
  have hHeld := hHeldN
  clear hHeldN
  clear hK K
  try simp only [Act.put, List.setIfInBounds_toArray, List.set_cons_zero, List.set_cons_succ]
  refine anyH_at (i := 5) (d := some 19) rfl rfl (by kernel_rfl) (by kernel_rfl) (by kernel_rfl) (fun _ _ _ h => h) (by rfl) (v := ?_) ?_ (by assumption) ?_
  rotate_left
  · (intro w hSw; (try dsimp only at hSw); go_simp <;> with_reducible rfl)
  simp only [Act.put, List.setIfInBounds_toArray, List.set_cons_zero, List.set_cons_succ]
  refine anyH_at (i := 6) (d := some 20) rfl rfl (by kernel_rfl) (by kernel_rfl) (by kernel_rfl) (fun _ _ _ h => h) (by rfl) (v := ?_) ?_ (by assumption) ?_
  rotate_left
  · (intro w hSw; (try dsimp only at hSw); go_simp <;> with_reducible rfl)
  simp only [Act.put, List.setIfInBounds_toArray, List.set_cons_zero, List.set_cons_succ]
  refine anyH_at (i := 7) (d := some 21) rfl rfl (by kernel_rfl) (by kernel_rfl) (by kernel_rfl) (fun _ _ _ h => h) (by rfl) (v := ?_) ?_ (by assumption) ?_
  rotate_left
  · (intro w hSw; (try dsimp only at hSw); go_simp <;> with_reducible rfl)
  simp only [Act.put, List.setIfInBounds_toArray, List.set_cons_zero, List.set_cons_succ]
  refine wpAnyH_ready (rs := [8]) (by kernel_rfl) (by simp) ?_
  refine AllReadyH.cons rfl (fun K hK => ?_) AllReadyH.nil
  go_simp
  obtain ⟨hR6, hfar, hsz6, ho6, ht6, hp6⟩ := fin7 (a := .int .i64 n) (b := .slice ka ks.length kc) (c := .int .i64 d) (d := .bool has) (e := .int .i64 num) (f := .int .i64 til) (g := .slice ma ms.length mc) (unhide HR5) rfl
  generalize World.setCell _ _ _ = w6 at *
  clear s0 s1 s2 s3 s4 s5 s6 r0 r1 r2 r3 r4 r5 r6
  refine hK.out _ _ ?_ (fun hHeldN => ?_)
  · exact box7 ((hfar X (by omega)).trans (unhide TD5).hX)
  obtain ⟨hi, ht⟩ := (unhide TD5).reads hfar (by omega) hks hms
  have hb6 := below_far ((unhide TD5).below (unhide B1) (by omega)) (Nat.le_refl _) hfar hsz6 ho6 ht6 hp6
  obtain ⟨y0, y1, y2, y3, y4, y5, y6⟩ := box7 hR6
  clear hHeld
  have hHeld := hHeldN
  clear hHeldN
  clear hK K
  try simp only [Act.put, List.setIfInBounds_toArray, List.set_cons_zero, List.set_cons_succ]
  refine anyH_at (i := 9) (d := some 3) rfl rfl (by kernel_rfl) (by kernel_rfl) (by kernel_rfl) (fun _ _ _ h => h) (by rfl) (v := ?_) ?_ (by assumption) ?_
  rotate_left
  · (intro w hSw; (try dsimp only at hSw); go_simp <;> with_reducible rfl)
  simp only [Act.put, List.setIfInBounds_toArray, List.set_cons_zero, List.set_cons_succ]
  refine wpAnyH_done (by kernel_rfl) ?_ _
  go_wp2
  exact bodyPost_ret (v := .tuple #[.agg #[.int .i64 n, .slice ka ks.length kc, .int .i64 d, .bool has, .int .i64 num, .int .i64 til, .slice ma ms.length mc], .int .i64 (v4 - qq * 9)]) (by simp [results, Try.results33, go_sem, y0, y1, y2, y3, y4, y5, y6]) rfl ⟨_, _, _, ks, _, _, _, _, ms, _, rfl, by omega, by omega, hks, hms, hi, ht, hb6⟩
end Go.Proofs.Ythjmnkfpopfgbaa
