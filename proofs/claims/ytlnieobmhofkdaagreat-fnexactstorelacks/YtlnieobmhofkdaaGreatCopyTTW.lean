import Derived.Test.YtlnieobmhofkdaaGreatMix13
import Derived.Test.YtlnieobmhofkdaaGreatCopyRW
import Derived.Test.YtlnieobmhofkdaaGreatCopyMW
import Derived.Test.YtlnieobmhofkdaaGreatEqMW
/- What laws.toTrust, szTrust and eqTrust return: a copy, a count, and true of the same. -/
namespace Go.Proofs.YtlnieobmhofkdaaGreat
open Go.RowKit

theorem Ins.far {w w' : World} {g n c : Nat} {l : List Int} (h : Ins w (.slice (some ⟨g, 0, none⟩) n c) l) (hs : w.heap.size ≤ w'.heap.size) (hg : w'.heap[g]? = w.heap[g]?) : Ins w' (.slice (some ⟨g, 0, none⟩) n c) l := by
  obtain ⟨a, cap, e, hl, hr⟩ := h
  refine ⟨a, cap, e, hl, fun hp => ?_⟩
  obtain ⟨b, off, ha, hb, hc⟩ := hr hp
  injection e with e _ _
  rw [ha] at e
  injection e with e
  injection e with e1 e2 _
  subst e1
  exact ⟨g, off, ha, by omega, fun i hi => by rw [World.cell?_of_block hg]; exact hc i hi⟩
theorem Trs.far {w w' : World} {g n c : Nat} {l : List Ix.M} (h : Trs w (.slice (some ⟨g, 0, none⟩) n c) l) (hs : w.heap.size ≤ w'.heap.size) (hg : w'.heap[g]? = w.heap[g]?) : Trs w' (.slice (some ⟨g, 0, none⟩) n c) l := by
  obtain ⟨a, cap, e, hl, hr⟩ := h
  refine ⟨a, cap, e, hl, fun hp => ?_⟩
  obtain ⟨b, off, ha, hb, hc⟩ := hr hp
  injection e with e _ _
  rw [ha] at e
  injection e with e
  injection e with e1 e2 _
  subst e1
  have e : ∀ o, w'.cell? ⟨g, o, none⟩ = w.cell? ⟨g, o, none⟩ := fun o => World.cell?_of_block hg
  exact ⟨g, off, ha, by omega, fun i hi => by rw [e, e, e]; exact hc i hi⟩
theorem fin0123 {w w' : World} {X : Nat} {a0 b0 c0 d0 a b c d e f g : Value} {t : TypeId} (h : w.heap[X]? = some (.cells #[a0, b0, c0, d0, e, f, g] t (0, 0))) (hw : w' = (((w.setCell ⟨X, 0, none⟩ a).setCell ⟨X, 1, none⟩ b).setCell ⟨X, 2, none⟩ c).setCell ⟨X, 3, none⟩ d) :
    w'.heap[X]? = some (.cells #[a, b, c, d, e, f, g] t (0, 0)) ∧ (∀ k, k ≠ X → w'.heap[k]? = w.heap[k]?) ∧ w'.heap.size = w.heap.size ∧ w'.os = w.os ∧ w'.tape = w.tape ∧ w'.output = w.output := by
  refine ⟨by rw [hw, heapSet (heapSet (heapSet (heapSet h)))]; rfl, fun k hk => ?_, by rw [hw]; simp [World.setCell], by rw [hw]; simp [World.setCell], by rw [hw]; simp [World.setCell], by rw [hw]; simp [World.setCell]⟩
  rw [hw, Below.heap_setCell _ _ _ _ hk, Below.heap_setCell _ _ _ _ hk, Below.heap_setCell _ _ _ _ hk, Below.heap_setCell _ _ _ _ hk]
theorem fin456' {w w' : World} {X : Nat} {a b c d e0 f0 g0 e f g : Value} {t : TypeId} (h : w.heap[X]? = some (.cells #[a, b, c, d, e0, f0, g0] t (0, 0))) (hw : w' = ((w.setCell ⟨X, 4, none⟩ e).setCell ⟨X, 5, none⟩ f).setCell ⟨X, 6, none⟩ g) :
    w'.heap[X]? = some (.cells #[a, b, c, d, e, f, g] t (0, 0)) ∧ (∀ k, k ≠ X → w'.heap[k]? = w.heap[k]?) ∧ w'.heap.size = w.heap.size ∧ w'.os = w.os ∧ w'.tape = w.tape ∧ w'.output = w.output := by
  refine ⟨by rw [hw, heapSet (heapSet (heapSet h))]; rfl, fun k hk => ?_, by rw [hw]; simp [World.setCell], by rw [hw]; simp [World.setCell], by rw [hw]; simp [World.setCell], by rw [hw]; simp [World.setCell]⟩
  rw [hw, Below.heap_setCell _ _ _ _ hk, Below.heap_setCell _ _ _ _ hk, Below.heap_setCell _ _ _ _ hk]

set_option maxHeartbeats 4000000 in
set_option maxRecDepth 100000 in
theorem toTrust_fill (w : World) (t : Tr.T) (kv mv : Value) (hk : Ins w kv t.ks) (hm : Trs w mv t.ms) (hlk : t.ks.length ≤ 1048576) (hlm : t.ms.length ≤ 1048576) :
    Calls Tryz.prog 7 #[tvT t kv mv] w fun e w' => ∃ g1 g2, w.heap.size ≤ g1 ∧ w.heap.size ≤ g2 ∧ e = .returned (tvT t (.slice (some ⟨g1, 0, none⟩) t.ks.length t.ks.length) (.slice (some ⟨g2, 0, none⟩) t.ms.length t.ms.length)) ∧ FillI w' g1 t.ks t.ks.length ∧ FillM w' g2 t.ms t.ms.length ∧ Below w.heap.size w w' := by
  obtain ⟨n, ks, d, has, num, til, ms⟩ := t
  dsimp only [tvT, tv] at *
  obtain ⟨ka, kc, e1⟩ := hk.slice
  obtain ⟨ma, mc, e2⟩ := hm.slice
  subst e1 e2
  obtain ⟨B2, x2, r2, o2⟩ := three_boxesT w (.cells #[.int .i64 n, .slice ka ks.length kc, .int .i64 d, .bool has, .int .i64 num, .int .i64 til, .slice ma ms.length mc] 29) (.cells #[.int .i64 0, .slice none 0 0, .int .i64 0, .bool false, .int .i64 0, .int .i64 0, .slice none 0 0] 39) (.cells #[.int .i64 0, .slice none 0 0, .int .i64 0, .bool false, .int .i64 0, .int .i64 0, .slice none 0 0] 39)
  have H2 := hide (And.intro B2 (And.intro x2 (And.intro r2 o2)))
  have ENT := hide (And.intro hk hm)
  clear B2 x2 r2 o2 hk hm
  go_enter Tryz.func7, Tryz.ntmps7
  go_wp2_with fail
  refine (toRoot_fill _ n d _ ks ((unhide ENT).1.later (unhide H2).1) hlk).mono ?_
  generalize World.alloc _ _ = W2 at *
  rintro e w3 ⟨g3, hg3, rfl, i3, b3⟩
  have x3 := (b3.block _ (heapLt (unhide H2).2.1)).trans (unhide H2).2.1
  have r3 := (b3.block _ (heapLt (unhide H2).2.2.1)).trans (unhide H2).2.2.1
  have o3 := (b3.block _ (heapLt (unhide H2).2.2.2)).trans (unhide H2).2.2.2
  have B3 := (unhide H2).1.trans (b3.mono (unhide H2).1.size)
  have hgo : w.heap.size + 1 + 1 < g3 := by have := heapLt (unhide H2).2.2.2; omega
  obtain ⟨o4, hf4, hs4, ho4, ht4, hp4⟩ := fin0123 (a := .int .i64 n) (b := .slice (some ⟨g3, 0, none⟩) ks.length ks.length) (c := .int .i64 d) (d := .bool has) o3 rfl
  have B4 := below_far B3 (by omega : w.heap.size ≤ w.heap.size + 1 + 1) hf4 hs4 ho4 ht4 hp4
  have x4 := (hf4 w.heap.size (by omega)).trans x3
  have r4 := (hf4 (w.heap.size + 1) (by omega)).trans r3
  have i4 := i3.keep (hf4 g3 (by omega))
  have H4 := hide (And.intro B4 (And.intro x4 (And.intro r4 (And.intro o4 i4))))
  obtain ⟨x0, x1, x2, x3', x4', x5, x6⟩ := box7 x3
  obtain ⟨y0, y1, y2, y3, y4, y5, y6⟩ := box7 o3
  obtain ⟨f0, f1, f2, f3, f4, f5, f6⟩ := frz7 o3
  have hne : w.heap.size ≠ w.heap.size + 1 + 1 := by omega
  have hne' : w.heap.size + 1 + 1 ≠ w.heap.size := by omega
  clear x3 r3 o3 B3 B4 x4 r4 o4 i4 hf4 hs4 ho4 ht4 hp4 i3 b3 hg3 H2
  go_wp2_with fail
  refine (toIndex_fill _ num til _ ms ((unhide ENT).2.later (unhide H4).1) hlm).mono ?_
  clear x0 x1 x2 x3' x4' x5 x6 y0 y1 y2 y3 y4 y5 y6 f0 f1 f2 f3 f4 f5 f6
  generalize World.setCell _ _ _ = w4 at *
  rintro e w5 ⟨g5, hg5, rfl, j5, b5⟩
  have o5 := (b5.block _ (heapLt (unhide H4).2.2.2.1)).trans (unhide H4).2.2.2.1
  have r5 := (b5.block _ (heapLt (unhide H4).2.2.1)).trans (unhide H4).2.2.1
  have B5 := (unhide H4).1.trans (b5.mono (unhide H4).1.size)
  have i5 := (unhide H4).2.2.2.2.later b5
  have hgo5 : w.heap.size + 1 + 1 < g5 := by have := heapLt (unhide H4).2.2.2.1; omega
  obtain ⟨o6, hf6, hs6, ho6, ht6, hp6⟩ := fin456' (e := .int .i64 num) (f := .int .i64 til) (g := .slice (some ⟨g5, 0, none⟩) ms.length ms.length) o5 rfl
  have B6 := below_far B5 (by omega : w.heap.size ≤ w.heap.size + 1 + 1) hf6 hs6 ho6 ht6 hp6
  have r6 := (hf6 (w.heap.size + 1) (by omega)).trans r5
  have i6 := i5.keep (hf6 g3 (by omega))
  have j6 := j5.keep (hf6 g5 (by omega))
  have H6 := hide (And.intro B6 (And.intro r6 (And.intro i6 j6)))
  obtain ⟨y0, y1, y2, y3, y4, y5, y6⟩ := box7 o5
  obtain ⟨f0, f1, f2, f3, f4, f5, f6⟩ := frz7 o5
  obtain ⟨z0, z1, z2, z3, z4, z5, z6⟩ := box7 r5
  obtain ⟨k0, k1, k2, k3, k4, k5, k6⟩ := frz7 r5
  have hn1 : w.heap.size + 1 ≠ w.heap.size + 1 + 1 := by omega
  have hn2 : w.heap.size + 1 + 1 ≠ w.heap.size + 1 := by omega
  clear o5 r5 B5 i5 o6 hf6 hs6 ho6 ht6 hp6 B6 r6 i6 j6 j5 b5 hg5 H4
  go_wp2
  obtain ⟨hR, hfar, hsz, ho, ht, hp⟩ := fin7 (a := .int .i64 n) (b := .slice (some ⟨g3, 0, none⟩) ks.length ks.length) (c := .int .i64 d) (d := .bool has) (e := .int .i64 num) (f := .int .i64 til) (g := .slice (some ⟨g5, 0, none⟩) ms.length ms.length) (unhide H6).2.1 rfl
  obtain ⟨q0, q1, q2, q3, q4, q5, q6⟩ := box7 hR
  exact bodyPost_ret (v := .agg #[.int .i64 n, .slice (some ⟨g3, 0, none⟩) ks.length ks.length, .int .i64 d, .bool has, .int .i64 num, .int .i64 til, .slice (some ⟨g5, 0, none⟩) ms.length ms.length]) (by simp [results, Tryz.results7, go_sem, q0, q1, q2, q3, q4, q5, q6]) rfl ⟨g3, g5, by omega, by omega, rfl, (unhide H6).2.2.1.keep (hfar g3 (by omega)), (unhide H6).2.2.2.keep (hfar g5 (by omega)), below_far (unhide H6).1 (by omega) hfar hsz ho ht hp⟩
theorem toTrust_any (w : World) (t : Tr.T) (kv mv : Value) (hk : Ins w kv t.ks) (hm : Trs w mv t.ms) (hlk : t.ks.length ≤ 1048576) (hlm : t.ms.length ≤ 1048576) :
    Calls Tryz.prog 7 #[tvT t kv mv] w fun e w' => ∃ kv' mv', e = .returned (tvT t kv' mv') ∧ Ins w' kv' t.ks ∧ Trs w' mv' t.ms ∧ Below w.heap.size w w' :=
  (toTrust_fill w t kv mv hk hm hlk hlm).mono fun _ _ ⟨_, _, _, _, h1, h2, h3, h4⟩ => ⟨_, _, h1, h2.ins hlk, h3.trs hlm, h4⟩

set_option maxHeartbeats 2000000 in
set_option maxRecDepth 100000 in
theorem eqTrust_any (w : World) (t : Tr.T) (k1 m1 k2 m2 : Value) (hk1 : Ins w k1 t.ks) (hm1 : Trs w m1 t.ms) (hk2 : Ins w k2 t.ks) (hm2 : Trs w m2 t.ms) :
    Calls Tryz.prog 11 #[tvT t k1 m1, tvT t k2 m2] w fun e w' => e = .returned (.bool true) ∧ Below w.heap.size w w' := by
  obtain ⟨n, ks, d, has, num, til, ms⟩ := t
  dsimp only [tvT, tv] at *
  obtain ⟨a1, c1, e1⟩ := hk1.slice
  obtain ⟨a2, c2, e2⟩ := hm1.slice
  obtain ⟨a3, c3, e3⟩ := hk2.slice
  obtain ⟨a4, c4, e4⟩ := hm2.slice
  subst e1 e2 e3 e4
  obtain ⟨B2, x2, y2⟩ := two_boxesT w (.cells #[.int .i64 n, .slice a1 ks.length c1, .int .i64 d, .bool has, .int .i64 num, .int .i64 til, .slice a2 ms.length c2] 39) (.cells #[.int .i64 n, .slice a3 ks.length c3, .int .i64 d, .bool has, .int .i64 num, .int .i64 til, .slice a4 ms.length c4] 39)
  have H2 := hide (And.intro B2 (And.intro x2 (And.intro y2 (And.intro (And.intro (hk1.later B2) (hm1.later B2)) (And.intro (hk2.later B2) (hm2.later B2))))))
  clear B2 x2 y2 hk1 hm1 hk2 hm2
  have hh : (has != has) = false := by simp
  go_enter Tryz.func11, Tryz.ntmps11
  go_wp2_with fail
  refine (eqRoot_any _ n d _ _ ks (unhide H2).2.2.2.1.1 (unhide H2).2.2.2.2.1).mono ?_
  generalize World.alloc _ _ = W2 at *
  rintro e w3 ⟨rfl, b3⟩
  have x3 := (b3.block _ (heapLt (unhide H2).2.1)).trans (unhide H2).2.1
  have y3 := (b3.block _ (heapLt (unhide H2).2.2.1)).trans (unhide H2).2.2.1
  have T3 := hide (And.intro ((unhide H2).2.2.2.1.2.later b3) ((unhide H2).2.2.2.2.2.later b3))
  have B3 := hide ((unhide H2).1.trans (b3.mono (unhide H2).1.size))
  obtain ⟨p0, p1, p2, p3, p4, p5, p6⟩ := box7 x3
  obtain ⟨q0, q1, q2, q3, q4, q5, q6⟩ := box7 y3
  clear x3 y3 b3 H2
  go_wp2_with fail
  refine (eqIndex_any _ num til _ _ ms (unhide T3).1 (unhide T3).2).mono ?_
  rintro e w4 ⟨rfl, b4⟩
  have B4 := hide ((unhide B3).trans (b4.mono (unhide B3).size))
  clear b4
  go_wp2
  go_ret
  exact ⟨rfl, unhide B4⟩

set_option maxHeartbeats 2000000 in
set_option maxRecDepth 100000 in
theorem szTrust_any (w : World) (n d : Int) (a : Option Addr) (m c : Nat) (has : Bool) (num til : Int) (a2 : Option Addr) (m2 c2 : Nat) (left : Int) (h0 : 0 ≤ left) (h1 : left ≤ 1048576) (hn : m ≤ 9223372036854775807) (hn2 : m2 ≤ 9223372036854775807) :
    Calls Tryz.prog 4 #[.agg #[.int .i64 n, .slice a m c, .int .i64 d, .bool has, .int .i64 num, .int .i64 til, .slice a2 m2 c2], .int .i64 left] w fun e w' => Below w.heap.size w w' ∧ ((m ≤ 1048576 ∧ m2 ≤ 1048576 ∧ ∃ r : Int, e = .returned (.int .i64 r) ∧ 0 ≤ r ∧ r ≤ left) ∨ e = .returned (.int .i64 (-1))) := by
  have B1 := below1 w (.cells #[.int .i64 n, .slice a m c, .int .i64 d, .bool has, .int .i64 num, .int .i64 til, .slice a2 m2 c2] 29)
  have x1 := heap_alloc_new w (.cells #[.int .i64 n, .slice a m c, .int .i64 d, .bool has, .int .i64 num, .int .i64 til, .slice a2 m2 c2] 29)
  have H1 := hide (And.intro B1 x1)
  clear B1 x1
  go_enter Tryz.func4, Tryz.ntmps4
  go_wp2_with fail
  refine (szRoot_any _ n d a m c left h0 h1 hn).mono ?_
  generalize w.alloc _ = W1 at *
  rintro e w2 ⟨b2, ⟨hm, r, rfl, r0, r1⟩ | rfl⟩
  · have x2 := (b2.block _ (heapLt (unhide H1).2)).trans (unhide H1).2
    have B2 := hide ((unhide H1).1.trans (b2.mono (unhide H1).1.size))
    obtain ⟨p0, p1, p2, p3, p4, p5, p6⟩ := box7 x2
    clear x2 b2 H1
    go_wp2_with fail
    refine (szIndex_any _ num til a2 m2 c2 r r0 (by omega) hn2).mono ?_
    rintro e w3 ⟨r', rfl, hr', b3⟩
    have B3 := hide ((unhide B2).trans (b3.mono (unhide B2).size))
    clear b3 B2 p0 p1 p2 p3 p4 p5 p6
    rcases hr' with ⟨hle, rfl⟩ | ⟨hgt, rfl⟩
    · have hpos : ¬ r - (m2 : Int) < 0 := by omega
      go_wp2
      go_ret
      exact ⟨unhide B3, .inl ⟨hm, by omega, _, rfl, by omega, by omega⟩⟩
    · go_wp2
      go_ret
      exact ⟨unhide B3, .inr rfl⟩
  · have B2 := hide ((unhide H1).1.trans (b2.mono (unhide H1).1.size))
    clear b2 H1
    go_wp2
    go_ret
    exact ⟨unhide B2, .inr rfl⟩
end Go.Proofs.YtlnieobmhofkdaaGreat
