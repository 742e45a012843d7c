import Derived.Test.YtlnieobmhofkdaaGreatDoorMix20
import Derived.Test.YtlnieobmhofkdaaGreatDoorMix11
/- What spec's l71Root returns: a root in memory of its own, its numbers small; the reader goes on. -/
namespace Go.Proofs.YtlnieobmhofkdaaGreatDoor
open Go.RowKit

variable {B : Nat} {W w w' : World} {blk : Nat} {v : Value} {l : List Int} {p p' : Nat}

/-- From a later base to an earlier one. -/
theorem KSt.base {W0 : World} (h : KSt B W0 blk w v l p) (hb : Below W.heap.size W W0) (hB : B ≤ W.heap.size) (hblk : blk < W.heap.size) : KSt B W blk w v l p :=
  ⟨h.rd, hB, hblk, (Kp.of_below hb).trans h.kp hb.size, h.own.mono hb.size⟩

/-- A store into a box that is no row of numbers. -/
theorem KSt.set (h : KSt B W blk w v l p) {X o : Nat} {c : Array Value} {t : TypeId} (u : Value) (hX : w.heap[X]? = some (.cells c t (0, 0))) (ht : t ≠ 3) (hXW : W.heap.size ≤ X) : KSt B W blk (w.setCell ⟨X, o, none⟩ u) v l p := by
  have hlt := h.lt
  have lB := h.lB
  have far : ∀ k, k ≠ X → (w.setCell ⟨X, o, none⟩ u).heap[k]? = w.heap[k]? := fun k hk => Below.heap_setCell _ _ _ _ hk
  refine ⟨h.rd.keep (fun k hk _ => far k (by omega)) (far blk (by omega)), lB, hlt, ?_, ?_⟩
  · exact ⟨h.kp.os, h.kp.tape, h.kp.output, by simp only [World.setCell, Array.size_modify]; exact h.kp.size, fun k hk hne => (far k (by omega)).trans (h.kp.block k hk hne)⟩
  · exact h.own.keep (fun g cur _ _ hg => far g (fun e => by
      subst e
      rw [hX] at hg
      injection hg with hg
      injection hg with _ hg _
      exact ht hg))

/-- A row of one number that is new. -/
theorem KSt.one {v0 : Value} {l0 : List Int} (h : KSt B W blk w v0 l0 p) (x : Int) : KSt B W blk (w.alloc (.cells #[.int .i64 x] 3)) (.slice (some ⟨w.heap.size, 0, none⟩) 1 1) [x] p :=
  ⟨(h.alloc _).rd, h.lB, h.lt, (h.alloc _).kp, ⟨rfl, .inr ⟨w.heap.size, 1, #[.int .i64 x], rfl, h.kp.size, heap_alloc_new w _, Nat.le_refl _, by unfold maxLen; omega, rfl, rfl⟩⟩⟩

/-- What a box of three reads as. -/
theorem root_box {g : Nat} {a b c : Value} {t : TypeId} (h : w.heap[g]? = some (.cells #[a, b, c] t (0, 0))) : w.cell? ⟨g, 0, none⟩ = some a ∧ w.cell? ⟨g, 1, none⟩ = some b ∧ w.cell? ⟨g, 2, none⟩ = some c := ⟨cellOf h 0, cellOf h 1, cellOf h 2⟩
theorem root_box6 {g : Nat} {a b c : Value} {t : TypeId} (h : w.heap[g]? = some (.cells #[a, b, c] t (0, 0))) : w.cell? ⟨g, 0, none⟩ = some a ∧ w.cell? ⟨g, 1, none⟩ = some b ∧ w.cell? ⟨g, 2, none⟩ = some c ∧ w.frozen? ⟨g, 0, none⟩ = false ∧ w.frozen? ⟨g, 1, none⟩ = false ∧ w.frozen? ⟨g, 2, none⟩ = false := ⟨cellOf h 0, cellOf h 1, cellOf h 2, frozenOf h 0, frozenOf h 1, frozenOf h 2⟩

/-- The answer is laid into its box. -/
theorem root_fin0 {R : Nat} {a b c a' b' c' : Value} (h : KSt B W blk w v l p) (hR : w.heap[R]? = some (.cells #[a', b', c'] 25 (0, 0))) (hRW : W.heap.size ≤ R) (hw : w' = ((w.setCell ⟨R, 0, none⟩ a).setCell ⟨R, 1, none⟩ b).setCell ⟨R, 2, none⟩ c) :
    w'.cell? ⟨R, 0, none⟩ = some a ∧ w'.cell? ⟨R, 1, none⟩ = some b ∧ w'.cell? ⟨R, 2, none⟩ = some c ∧ KSt B W blk w' v l p := by
  subst hw
  have h1 := heapSet (o := 0) (v := a) hR
  have h2 := heapSet (o := 1) (v := b) h1
  have h3 := heapSet (o := 2) (v := c) h2
  exact ⟨cellOf h3 0, cellOf h3 1, cellOf h3 2, ((h.set a hR (by decide) hRW).set b h1 (by decide) hRW).set c h2 (by decide) hRW⟩
theorem root_fin1 {X R : Nat} {a b c x0 x1 x2 a' b' c' : Value} (h : KSt B W blk w v l p) (hX : w.heap[X]? = some (.cells #[x0, x1, x2] 25 (0, 0))) (hR : w.heap[R]? = some (.cells #[a', b', c'] 25 (0, 0))) (hne : X ≠ R) (hRW : W.heap.size ≤ R ∧ W.heap.size ≤ X) (hw : w' = (((w.setCell ⟨X, 0, none⟩ a).setCell ⟨R, 0, none⟩ a).setCell ⟨R, 1, none⟩ b).setCell ⟨R, 2, none⟩ c) :
    w'.cell? ⟨R, 0, none⟩ = some a ∧ w'.cell? ⟨R, 1, none⟩ = some b ∧ w'.cell? ⟨R, 2, none⟩ = some c ∧ KSt B W blk w' v l p :=
  root_fin0 (h.set a hX (by decide) hRW.2) ((Below.heap_setCell _ _ _ _ (fun e => hne e.symm)).trans hR) hRW.1 hw
theorem root_fin2 {X R : Nat} {a b c x0 x1 x2 a' b' c' : Value} (h : KSt B W blk w v l p) (hX : w.heap[X]? = some (.cells #[x0, x1, x2] 25 (0, 0))) (hR : w.heap[R]? = some (.cells #[a', b', c'] 25 (0, 0))) (hne : X ≠ R) (hRW : W.heap.size ≤ R ∧ W.heap.size ≤ X) (hw : w' = (((w.setCell ⟨X, 2, none⟩ c).setCell ⟨R, 0, none⟩ a).setCell ⟨R, 1, none⟩ b).setCell ⟨R, 2, none⟩ c) :
    w'.cell? ⟨R, 0, none⟩ = some a ∧ w'.cell? ⟨R, 1, none⟩ = some b ∧ w'.cell? ⟨R, 2, none⟩ = some c ∧ KSt B W blk w' v l p :=
  root_fin0 (h.set c hX (by decide) hRW.2) ((Below.heap_setCell _ _ _ _ (fun e => hne e.symm)).trans hR) hRW.1 hw

theorem wrap1 {v : Int} (h0 : 0 ≤ v) (h1 : v ≤ 1000000000) : IntKind.i64.wrap (1 + v) = 1 + v := by simp [IntKind.wrap, IntKind.bits, IntKind.signed]; omega

set_option maxHeartbeats 2000000 in
set_option maxRecDepth 100000 in
theorem l71Root_any {B : Nat} (w : World) (blk p : Nat) (h : Rd B w blk p) (hB : B ≤ w.heap.size) (hp : p ≤ 800000000) :
    Calls Tryz.prog 80 #[.pointer (some ⟨blk, 0, none⟩)] w fun e w' => ∃ n d v l p', e = .returned (.agg #[.int .i64 n, v, .int .i64 d]) ∧ 0 ≤ n ∧ n ≤ 10 ∧ 0 ≤ d ∧ d ≤ 8 ∧ l.length ≤ 7 ∧ p' ≤ p + 20 ∧ KSt B w blk w' v l p' := by
  have hblt := h.lt
  have hR0 : (w.alloc (.cells #[.int .i64 0, .slice none 0 0, .int .i64 0] 25)).heap[w.heap.size]? = some (.cells #[.int .i64 0, .slice none 0 0, .int .i64 0] 25 (0, 0)) := heap_alloc_new _ _
  have HB0 := hide (below1 w (.cells #[.int .i64 0, .slice none 0 0, .int .i64 0] 25))
  have HR0 := hide hR0
  have HD0 := hide (h.later hB (unhide HB0))
  clear h hR0
  go_enter Tryz.func80, Tryz.ntmps80
  go_wp2_with fail
  refine (l71Keys_any _ blk p (unhide HD0) (Nat.le_trans hB (unhide HB0).size) (by omega)).mono ?_
  generalize w.alloc _ = W0 at *
  rintro e w1 ⟨v1, l, p1, rfl, hl, hx, hp1, hs1⟩
  have HS1 := hide (hs1.base (unhide HB0) hB hblt)
  have HR1 := hide ((hs1.kp.block _ (heapLt (unhide HR0)) (by omega)).trans (unhide HR0))
  obtain ⟨va, vc, hv⟩ := hs1.own.form
  subst hv
  clear hs1 HB0 HR0 HD0
  clear W0
  by_cases h0 : l.length = 0
  · have h0' : ((l.length : Int) == 0) = true := by rw [h0]; rfl
    go_wp2_with fail
    refine (pick_any _ blk p1 6 (unhide HS1).rd (by omega) (by omega) (by omega)).mono ?_
    rintro e w2 ⟨v2, rfl, v20, v21, hr2, hk2⟩
    have ew : IntKind.i64.wrap (1 + v2) = 1 + v2 := wrap1 v20 (by omega)
    have HR2 := hide ((hk2.block _ (heapLt (unhide HR1)) (by omega)).trans (unhide HR1))
    have HK2 := hide ((unhide HS1).keep hk2 hr2)
    have HK := hide ((unhide HK2).one (1 + v2))
    have HR := hide ((Below.heap_alloc w2 (.cells #[.int .i64 (1 + v2)] 3) _ (heapLt (unhide HR2))).trans (unhide HR2))
    clear hr2 hk2 HS1 HR1 HK2 HR2
    obtain ⟨q, hq, hqq⟩ : ∃ q, q = p1 + 1 ∧ q ≤ p + 9 := ⟨_, rfl, by omega⟩
    rw [← hq] at HK
    clear hq
    go_wp2_with fail
    refine (pick_any _ blk q 3 (unhide HK).rd (by omega) (by omega) (by omega)).mono ?_
    rintro e w4 ⟨v4, rfl, v40, v41, hr4, hk4⟩
    have HR4 := hide ((hk4.block _ (heapLt (unhide HR)) (by omega)).trans (unhide HR))
    have HK4 := hide ((unhide HK).keep hk4 hr4)
    clear hr4 hk4 HK HR
    go_wp2_with fail
    refine (pick_any _ blk (q + 1) 1 (unhide HK4).rd (by omega) (by omega) (by omega)).mono ?_
    rintro e w5 ⟨v5, rfl, v50, v51, hr5, hk5⟩
    have HR5 := hide ((hk5.block _ (heapLt (unhide HR4)) (by omega)).trans (unhide HR4))
    have HK5 := hide ((unhide HK4).keep hk5 hr5)
    clear hr5 hk5 HK4 HR4
    have hge5 := (unhide HK5).kp.size
    have HK6 := hide ((unhide HK5).alloc (.cells #[.int .i64 (1 + v4), .slice (some ⟨w2.heap.size, 0, none⟩) 1 1, .int .i64 (1 + v5)] 25))
    have HR6 := hide ((Below.heap_alloc w5 (.cells #[.int .i64 (1 + v4), .slice (some ⟨w2.heap.size, 0, none⟩) 1 1, .int .i64 (1 + v5)] 25) _ (heapLt (unhide HR5))).trans (unhide HR5))
    have HX6 := hide (heap_alloc_new w5 (.cells #[.int .i64 (1 + v4), .slice (some ⟨w2.heap.size, 0, none⟩) 1 1, .int .i64 (1 + v5)] 25))
    have hgne : w5.heap.size ≠ w.heap.size := by have := heapLt (unhide HR5); omega
    clear HK5 HR5
    go_wp2_with fail
    refine (pick_any _ blk (q + 1 + 1) 20 (unhide HK6).rd (by omega) (by omega) (by omega)).mono ?_
    generalize w5.alloc _ = W6 at *
    rintro e w7 ⟨v7, rfl, v70, v71, hr7, hk7⟩
    have HR7 := hide ((hk7.block _ (heapLt (unhide HR6)) (by omega)).trans (unhide HR6))
    have HX7 := hide ((hk7.block _ (heapLt (unhide HX6)) (by omega)).trans (unhide HX6))
    have HK7 := hide ((unhide HK6).keep hk7 hr7)
    clear hr7 hk7 HK6 HR6 HX6
    clear W6
    generalize w5.heap.size = g at *
    obtain ⟨X0, X1, X2⟩ := root_box (unhide HX7)
    obtain ⟨R0, R1, R2⟩ := root_box (unhide HR7)
    by_cases hc0 : v7 = 0
    · subst hc0
      go_wp2_with fail
      refine (pick_any _ blk (q + 1 + 1 + 1) 3 ((unhide HK7).alloc _).rd (by omega) (by omega) (by omega)).mono ?_
      have HK8 := hide ((unhide HK7).alloc (.cells #[.int .i64 0, .int .i64 9, .int .i64 10] 3))
      have HR8 := hide ((Below.heap_alloc w7 (.cells #[.int .i64 0, .int .i64 9, .int .i64 10] 3) _ (heapLt (unhide HR7))).trans (unhide HR7))
      have HX8 := hide ((Below.heap_alloc w7 (.cells #[.int .i64 0, .int .i64 9, .int .i64 10] 3) _ (heapLt (unhide HX7))).trans (unhide HX7))
      have n0 : (w7.alloc (.cells #[.int .i64 0, .int .i64 9, .int .i64 10] 3)).heap[w7.heap.size]? = some (.cells #[.int .i64 0, .int .i64 9, .int .i64 10] 3 (0, 0)) := heap_alloc_new _ _
      have hge7 := (unhide HK7).kp.size
      clear HK7 HR7 HX7 X0 X1 X2 R0 R1 R2
      generalize w7.alloc _ = W7 at *
      rintro e w8 ⟨v8, rfl, v80, v81, hr8, hk8⟩
      have n1 := hk8.block _ (heapLt n0) (by omega)
      rw [n0] at n1
      have HR9 := hide ((hk8.block _ (heapLt (unhide HR8)) (by omega)).trans (unhide HR8))
      have HX9 := hide ((hk8.block _ (heapLt (unhide HX8)) (by omega)).trans (unhide HX8))
      have HK9 := hide ((unhide HK8).keep hk8 hr8)
      have c0 : w8.cell? ⟨w7.heap.size, 0, none⟩ = _ := cellOf n1 0
      have c1 : w8.cell? ⟨w7.heap.size, 1, none⟩ = _ := cellOf n1 1
      have c2 : w8.cell? ⟨w7.heap.size, 2, none⟩ = _ := cellOf n1 2
      clear HK8 HR8 HX8 hr8 hk8 n0 n1
      clear W7
      obtain ⟨X0, X1, X2, F0, F1, F2⟩ := root_box6 (unhide HX9)
      obtain ⟨R0, R1, R2, G0, G1, G2⟩ := root_box6 (unhide HR9)
      have hcase : (v8 = 0) ∨ (v8 = 1) ∨ (v8 = 2) := by omega
      rcases hcase with rfl | rfl | rfl
      · go_wp2
        obtain ⟨y0, y1, y2, hk⟩ := root_fin1 (unhide HK9) (unhide HX9) (unhide HR9) hgne (by omega) rfl
        exact bodyPost_ret (v := .agg #[.int .i64 0, .slice (some ⟨w2.heap.size, 0, none⟩) 1 1, .int .i64 (1 + v5)]) (by simp [results, Tryz.results80, go_sem, y0, y1, y2]) rfl ⟨0, 1 + v5, _, [1 + v2], q + 1 + 1 + 1 + 1, rfl, by omega, by omega, by omega, by omega, by simp, by omega, hk⟩
      · go_wp2
        obtain ⟨y0, y1, y2, hk⟩ := root_fin1 (unhide HK9) (unhide HX9) (unhide HR9) hgne (by omega) rfl
        exact bodyPost_ret (v := .agg #[.int .i64 9, .slice (some ⟨w2.heap.size, 0, none⟩) 1 1, .int .i64 (1 + v5)]) (by simp [results, Tryz.results80, go_sem, y0, y1, y2]) rfl ⟨9, 1 + v5, _, [1 + v2], q + 1 + 1 + 1 + 1, rfl, by omega, by omega, by omega, by omega, by simp, by omega, hk⟩
      · go_wp2
        obtain ⟨y0, y1, y2, hk⟩ := root_fin1 (unhide HK9) (unhide HX9) (unhide HR9) hgne (by omega) rfl
        exact bodyPost_ret (v := .agg #[.int .i64 10, .slice (some ⟨w2.heap.size, 0, none⟩) 1 1, .int .i64 (1 + v5)]) (by simp [results, Tryz.results80, go_sem, y0, y1, y2]) rfl ⟨10, 1 + v5, _, [1 + v2], q + 1 + 1 + 1 + 1, rfl, by omega, by omega, by omega, by omega, by simp, by omega, hk⟩
    have hb0 : (v7 == 0) = false := by simp [hc0]
    by_cases hc1 : v7 = 1
    · subst hc1
      go_wp2_with fail
      refine (pick_any _ blk (q + 1 + 1 + 1) 2 ((unhide HK7).alloc _).rd (by omega) (by omega) (by omega)).mono ?_
      have HK8 := hide ((unhide HK7).alloc (.cells #[.int .i64 0, .int .i64 (2)] 3))
      have HR8 := hide ((Below.heap_alloc w7 (.cells #[.int .i64 0, .int .i64 (2)] 3) _ (heapLt (unhide HR7))).trans (unhide HR7))
      have HX8 := hide ((Below.heap_alloc w7 (.cells #[.int .i64 0, .int .i64 (2)] 3) _ (heapLt (unhide HX7))).trans (unhide HX7))
      have n0 : (w7.alloc (.cells #[.int .i64 0, .int .i64 (2)] 3)).heap[w7.heap.size]? = some (.cells #[.int .i64 0, .int .i64 (2)] 3 (0, 0)) := heap_alloc_new _ _
      have hge7 := (unhide HK7).kp.size
      clear HK7 HR7 HX7 X0 X1 X2 R0 R1 R2
      generalize w7.alloc _ = W7 at *
      rintro e w8 ⟨v8, rfl, v80, v81, hr8, hk8⟩
      have n1 := hk8.block _ (heapLt n0) (by omega)
      rw [n0] at n1
      have HR9 := hide ((hk8.block _ (heapLt (unhide HR8)) (by omega)).trans (unhide HR8))
      have HX9 := hide ((hk8.block _ (heapLt (unhide HX8)) (by omega)).trans (unhide HX8))
      have HK9 := hide ((unhide HK8).keep hk8 hr8)
      have c0 : w8.cell? ⟨w7.heap.size, 0, none⟩ = _ := cellOf n1 0
      have c1 : w8.cell? ⟨w7.heap.size, 1, none⟩ = _ := cellOf n1 1
      clear HK8 HR8 HX8 hr8 hk8 n0 n1
      clear W7
      obtain ⟨X0, X1, X2, F0, F1, F2⟩ := root_box6 (unhide HX9)
      obtain ⟨R0, R1, R2, G0, G1, G2⟩ := root_box6 (unhide HR9)
      have hcase : (v8 = 0) ∨ (v8 = 1) := by omega
      rcases hcase with rfl | rfl
      · go_wp2
        obtain ⟨y0, y1, y2, hk⟩ := root_fin2 (unhide HK9) (unhide HX9) (unhide HR9) hgne (by omega) rfl
        exact bodyPost_ret (v := .agg #[.int .i64 (1 + v4), .slice (some ⟨w2.heap.size, 0, none⟩) 1 1, .int .i64 0]) (by simp [results, Tryz.results80, go_sem, y0, y1, y2]) rfl ⟨1 + v4, 0, _, [1 + v2], q + 1 + 1 + 1 + 1, rfl, by omega, by omega, by omega, by omega, by simp, by omega, hk⟩
      · go_wp2
        obtain ⟨y0, y1, y2, hk⟩ := root_fin2 (unhide HK9) (unhide HX9) (unhide HR9) hgne (by omega) rfl
        exact bodyPost_ret (v := .agg #[.int .i64 (1 + v4), .slice (some ⟨w2.heap.size, 0, none⟩) 1 1, .int .i64 (2)]) (by simp [results, Tryz.results80, go_sem, y0, y1, y2]) rfl ⟨1 + v4, 2, _, [1 + v2], q + 1 + 1 + 1 + 1, rfl, by omega, by omega, by omega, by omega, by simp, by omega, hk⟩
    have hb1 : (v7 == 1) = false := by simp [hc1]
    obtain ⟨_, _, _, F0, F1, F2⟩ := root_box6 (unhide HX7)
    obtain ⟨_, _, _, G0, G1, G2⟩ := root_box6 (unhide HR7)
    go_wp2
    obtain ⟨y0, y1, y2, hk⟩ := root_fin0 (unhide HK7) (unhide HR7) (Nat.le_refl _) rfl
    exact bodyPost_ret (v := .agg #[.int .i64 (1 + v4), .slice (some ⟨w2.heap.size, 0, none⟩) 1 1, .int .i64 (1 + v5)]) (by simp [results, Tryz.results80, go_sem, y0, y1, y2]) rfl ⟨1 + v4, 1 + v5, _, [1 + v2], q + 1 + 1 + 1, rfl, by omega, by omega, by omega, by omega, by simp, by omega, hk⟩
  · have h0' : ((l.length : Int) == 0) = false := by rw [beq_eq_false_iff_ne]; omega
    have h1 : (1 : Int) ≤ (l.length : Int) := by omega
    have HK := HS1
    have HR := HR1
    clear HS1 HR1
    obtain ⟨q, hq, hqq⟩ : ∃ q, q = p1 ∧ q ≤ p + 9 := ⟨_, rfl, by omega⟩
    rw [← hq] at HK
    clear hq
    go_wp2_with fail
    refine (pick_any _ blk q 3 (unhide HK).rd (by omega) (by omega) (by omega)).mono ?_
    rintro e w4 ⟨v4, rfl, v40, v41, hr4, hk4⟩
    have HR4 := hide ((hk4.block _ (heapLt (unhide HR)) (by omega)).trans (unhide HR))
    have HK4 := hide ((unhide HK).keep hk4 hr4)
    clear hr4 hk4 HK HR
    go_wp2_with fail
    refine (pick_any _ blk (q + 1) (l.length : Int) (unhide HK4).rd (by omega) (by omega) (by omega)).mono ?_
    rintro e w5 ⟨v5, rfl, v50, v51, hr5, hk5⟩
    have HR5 := hide ((hk5.block _ (heapLt (unhide HR4)) (by omega)).trans (unhide HR4))
    have HK5 := hide ((unhide HK4).keep hk5 hr5)
    clear hr5 hk5 HK4 HR4
    have hge5 := (unhide HK5).kp.size
    have HK6 := hide ((unhide HK5).alloc (.cells #[.int .i64 (1 + v4), .slice va l.length vc, .int .i64 (1 + v5)] 25))
    have HR6 := hide ((Below.heap_alloc w5 (.cells #[.int .i64 (1 + v4), .slice va l.length vc, .int .i64 (1 + v5)] 25) _ (heapLt (unhide HR5))).trans (unhide HR5))
    have HX6 := hide (heap_alloc_new w5 (.cells #[.int .i64 (1 + v4), .slice va l.length vc, .int .i64 (1 + v5)] 25))
    have hgne : w5.heap.size ≠ w.heap.size := by have := heapLt (unhide HR5); omega
    clear HK5 HR5
    go_wp2_with fail
    refine (pick_any _ blk (q + 1 + 1) 20 (unhide HK6).rd (by omega) (by omega) (by omega)).mono ?_
    generalize w5.alloc _ = W6 at *
    rintro e w7 ⟨v7, rfl, v70, v71, hr7, hk7⟩
    have HR7 := hide ((hk7.block _ (heapLt (unhide HR6)) (by omega)).trans (unhide HR6))
    have HX7 := hide ((hk7.block _ (heapLt (unhide HX6)) (by omega)).trans (unhide HX6))
    have HK7 := hide ((unhide HK6).keep hk7 hr7)
    clear hr7 hk7 HK6 HR6 HX6
    clear W6
    generalize w5.heap.size = g at *
    obtain ⟨X0, X1, X2⟩ := root_box (unhide HX7)
    obtain ⟨R0, R1, R2⟩ := root_box (unhide HR7)
    by_cases hc0 : v7 = 0
    · subst hc0
      go_wp2_with fail
      refine (pick_any _ blk (q + 1 + 1 + 1) 3 ((unhide HK7).alloc _).rd (by omega) (by omega) (by omega)).mono ?_
      have HK8 := hide ((unhide HK7).alloc (.cells #[.int .i64 0, .int .i64 9, .int .i64 10] 3))
      have HR8 := hide ((Below.heap_alloc w7 (.cells #[.int .i64 0, .int .i64 9, .int .i64 10] 3) _ (heapLt (unhide HR7))).trans (unhide HR7))
      have HX8 := hide ((Below.heap_alloc w7 (.cells #[.int .i64 0, .int .i64 9, .int .i64 10] 3) _ (heapLt (unhide HX7))).trans (unhide HX7))
      have n0 : (w7.alloc (.cells #[.int .i64 0, .int .i64 9, .int .i64 10] 3)).heap[w7.heap.size]? = some (.cells #[.int .i64 0, .int .i64 9, .int .i64 10] 3 (0, 0)) := heap_alloc_new _ _
      have hge7 := (unhide HK7).kp.size
      clear HK7 HR7 HX7 X0 X1 X2 R0 R1 R2
      generalize w7.alloc _ = W7 at *
      rintro e w8 ⟨v8, rfl, v80, v81, hr8, hk8⟩
      have n1 := hk8.block _ (heapLt n0) (by omega)
      rw [n0] at n1
      have HR9 := hide ((hk8.block _ (heapLt (unhide HR8)) (by omega)).trans (unhide HR8))
      have HX9 := hide ((hk8.block _ (heapLt (unhide HX8)) (by omega)).trans (unhide HX8))
      have HK9 := hide ((unhide HK8).keep hk8 hr8)
      have c0 : w8.cell? ⟨w7.heap.size, 0, none⟩ = _ := cellOf n1 0
      have c1 : w8.cell? ⟨w7.heap.size, 1, none⟩ = _ := cellOf n1 1
      have c2 : w8.cell? ⟨w7.heap.size, 2, none⟩ = _ := cellOf n1 2
      clear HK8 HR8 HX8 hr8 hk8 n0 n1
      clear W7
      obtain ⟨X0, X1, X2, F0, F1, F2⟩ := root_box6 (unhide HX9)
      obtain ⟨R0, R1, R2, G0, G1, G2⟩ := root_box6 (unhide HR9)
      have hcase : (v8 = 0) ∨ (v8 = 1) ∨ (v8 = 2) := by omega
      rcases hcase with rfl | rfl | rfl
      · go_wp2
        obtain ⟨y0, y1, y2, hk⟩ := root_fin1 (unhide HK9) (unhide HX9) (unhide HR9) hgne (by omega) rfl
        exact bodyPost_ret (v := .agg #[.int .i64 0, .slice va l.length vc, .int .i64 (1 + v5)]) (by simp [results, Tryz.results80, go_sem, y0, y1, y2]) rfl ⟨0, 1 + v5, _, l, q + 1 + 1 + 1 + 1, rfl, by omega, by omega, by omega, by omega, hl, by omega, hk⟩
      · go_wp2
        obtain ⟨y0, y1, y2, hk⟩ := root_fin1 (unhide HK9) (unhide HX9) (unhide HR9) hgne (by omega) rfl
        exact bodyPost_ret (v := .agg #[.int .i64 9, .slice va l.length vc, .int .i64 (1 + v5)]) (by simp [results, Tryz.results80, go_sem, y0, y1, y2]) rfl ⟨9, 1 + v5, _, l, q + 1 + 1 + 1 + 1, rfl, by omega, by omega, by omega, by omega, hl, by omega, hk⟩
      · go_wp2
        obtain ⟨y0, y1, y2, hk⟩ := root_fin1 (unhide HK9) (unhide HX9) (unhide HR9) hgne (by omega) rfl
        exact bodyPost_ret (v := .agg #[.int .i64 10, .slice va l.length vc, .int .i64 (1 + v5)]) (by simp [results, Tryz.results80, go_sem, y0, y1, y2]) rfl ⟨10, 1 + v5, _, l, q + 1 + 1 + 1 + 1, rfl, by omega, by omega, by omega, by omega, hl, by omega, hk⟩
    have hb0 : (v7 == 0) = false := by simp [hc0]
    by_cases hc1 : v7 = 1
    · subst hc1
      go_wp2_with fail
      refine (pick_any _ blk (q + 1 + 1 + 1) 2 ((unhide HK7).alloc _).rd (by omega) (by omega) (by omega)).mono ?_
      have HK8 := hide ((unhide HK7).alloc (.cells #[.int .i64 0, .int .i64 ((l.length : Int) + 1)] 3))
      have HR8 := hide ((Below.heap_alloc w7 (.cells #[.int .i64 0, .int .i64 ((l.length : Int) + 1)] 3) _ (heapLt (unhide HR7))).trans (unhide HR7))
      have HX8 := hide ((Below.heap_alloc w7 (.cells #[.int .i64 0, .int .i64 ((l.length : Int) + 1)] 3) _ (heapLt (unhide HX7))).trans (unhide HX7))
      have n0 : (w7.alloc (.cells #[.int .i64 0, .int .i64 ((l.length : Int) + 1)] 3)).heap[w7.heap.size]? = some (.cells #[.int .i64 0, .int .i64 ((l.length : Int) + 1)] 3 (0, 0)) := heap_alloc_new _ _
      have hge7 := (unhide HK7).kp.size
      clear HK7 HR7 HX7 X0 X1 X2 R0 R1 R2
      generalize w7.alloc _ = W7 at *
      rintro e w8 ⟨v8, rfl, v80, v81, hr8, hk8⟩
      have n1 := hk8.block _ (heapLt n0) (by omega)
      rw [n0] at n1
      have HR9 := hide ((hk8.block _ (heapLt (unhide HR8)) (by omega)).trans (unhide HR8))
      have HX9 := hide ((hk8.block _ (heapLt (unhide HX8)) (by omega)).trans (unhide HX8))
      have HK9 := hide ((unhide HK8).keep hk8 hr8)
      have c0 : w8.cell? ⟨w7.heap.size, 0, none⟩ = _ := cellOf n1 0
      have c1 : w8.cell? ⟨w7.heap.size, 1, none⟩ = _ := cellOf n1 1
      clear HK8 HR8 HX8 hr8 hk8 n0 n1
      clear W7
      obtain ⟨X0, X1, X2, F0, F1, F2⟩ := root_box6 (unhide HX9)
      obtain ⟨R0, R1, R2, G0, G1, G2⟩ := root_box6 (unhide HR9)
      have hcase : (v8 = 0) ∨ (v8 = 1) := by omega
      rcases hcase with rfl | rfl
      · go_wp2
        obtain ⟨y0, y1, y2, hk⟩ := root_fin2 (unhide HK9) (unhide HX9) (unhide HR9) hgne (by omega) rfl
        exact bodyPost_ret (v := .agg #[.int .i64 (1 + v4), .slice va l.length vc, .int .i64 0]) (by simp [results, Tryz.results80, go_sem, y0, y1, y2]) rfl ⟨1 + v4, 0, _, l, q + 1 + 1 + 1 + 1, rfl, by omega, by omega, by omega, by omega, hl, by omega, hk⟩
      · go_wp2
        obtain ⟨y0, y1, y2, hk⟩ := root_fin2 (unhide HK9) (unhide HX9) (unhide HR9) hgne (by omega) rfl
        exact bodyPost_ret (v := .agg #[.int .i64 (1 + v4), .slice va l.length vc, .int .i64 ((l.length : Int) + 1)]) (by simp [results, Tryz.results80, go_sem, y0, y1, y2]) rfl ⟨1 + v4, (l.length : Int) + 1, _, l, q + 1 + 1 + 1 + 1, rfl, by omega, by omega, by omega, by omega, hl, by omega, hk⟩
    have hb1 : (v7 == 1) = false := by simp [hc1]
    obtain ⟨_, _, _, F0, F1, F2⟩ := root_box6 (unhide HX7)
    obtain ⟨_, _, _, G0, G1, G2⟩ := root_box6 (unhide HR7)
    go_wp2
    obtain ⟨y0, y1, y2, hk⟩ := root_fin0 (unhide HK7) (unhide HR7) (Nat.le_refl _) rfl
    exact bodyPost_ret (v := .agg #[.int .i64 (1 + v4), .slice va l.length vc, .int .i64 (1 + v5)]) (by simp [results, Tryz.results80, go_sem, y0, y1, y2]) rfl ⟨1 + v4, 1 + v5, _, l, q + 1 + 1 + 1, rfl, by omega, by omega, by omega, by omega, hl, by omega, hk⟩
end Go.Proofs.YtlnieobmhofkdaaGreatDoor
