/- What the laws' own helpers for signed roots return: toSigRoot a copy in memory of its own, eqSigRoot true of two that read the same, szSigRoot how much is left. -/
import Derived.Test.YtkgeekjclcpbpaaCopyRW
namespace Go.Proofs.Ytkgeekjclcpbpaa
open Go.RowKit

set_option maxHeartbeats 1000000 in
set_option maxRecDepth 100000 in
/-- toSigRoot: a copy. -/
theorem toSigRoot_fill (w : World) (n d : Int) (v vb : Value) (k by' : List Int) (h : Ins w v k) (hb : Ins w vb by') (hl : k.length ≤ 1048576) (hlb : by'.length ≤ 1048576) :
    Calls Try.prog 33 #[.agg #[.int .i64 n, v, .int .i64 d, vb]] w fun e w' => ∃ g1 g2, w.heap.size ≤ g1 ∧ g1 < g2 ∧ e = .returned (.agg #[.int .i64 n, .slice (some ⟨g1, 0, none⟩) k.length k.length, .int .i64 d, .slice (some ⟨g2, 0, none⟩) by'.length by'.length]) ∧ FillI w' g1 k k.length ∧ FillI w' g2 by' by'.length ∧ Below w.heap.size w w' := by
  have HF : Hid (Ins _ _ _) := h
  have HG : Hid (Ins _ _ _) := hb
  obtain ⟨fa, fc, hfv⟩ := h.slice
  obtain ⟨ga, gc, hgv⟩ := hb.slice
  clear h hb
  subst hfv hgv
  go_enter Try.func33, Try.ntmps33
  go_wp2_with fail
  obtain ⟨z0, hb0, hr0, ho0, hbel⟩ := three' w (.cells #[.int .i64 n, .slice fa k.length fc, .int .i64 d, .slice ga by'.length gc] 61) (.cells #[.int .i64 0, .slice none 0 0, .int .i64 0, .slice none 0 0] 46) (.cells #[.int .i64 0, .slice none 0 0, .int .i64 0, .slice none 0 0] 46)
  refine (toRoot_fill _ n d _ k ((unhide HF).later hbel) hl).mono ?_
  generalize ((w.alloc _).alloc _).alloc _ = W0 at *
  rintro e w1 ⟨g1, hg0, rfl, hp1, hb1⟩
  have B1 := hb1.block _ (heapLt hb0)
  have R1 := hb1.block _ (heapLt hr0)
  have O1 := hb1.block _ (heapLt ho0)
  rw [hb0] at B1
  rw [hr0] at R1
  rw [ho0] at O1
  have hbel1 : Below w.heap.size w w1 := hbel.trans (hb1.mono (by omega))
  have hz1 := hb1.size
  have P1 : Hid (FillI _ _ _ _) := hp1
  rw [z0] at hz1 hg0
  have OO1 := hide O1
  have RR1 := hide R1
  have HB1 := hide hbel1
  have b3 : w1.cell? ⟨w.heap.size, 3, none⟩ = _ := cellOf B1 3
  have o0 : w1.cell? ⟨w.heap.size + 1 + 1, 0, none⟩ = _ := cellOf O1 0
  have o1 : w1.cell? ⟨w.heap.size + 1 + 1, 1, none⟩ = _ := cellOf O1 1
  have o2 : w1.cell? ⟨w.heap.size + 1 + 1, 2, none⟩ = _ := cellOf O1 2
  have f0 := frozenOf O1 0
  have f1 := frozenOf O1 1
  have f2 := frozenOf O1 2
  clear hb0 hr0 ho0 hbel hb1 B1 R1 O1 hp1 hbel1
  clear W0 z0
  go_wp2_with fail
  have O2 : (((w1.setCell ⟨w.heap.size + 1 + 1, 0, none⟩ (.int .i64 n)).setCell ⟨w.heap.size + 1 + 1, 1, none⟩ (.slice (some ⟨g1, 0, none⟩) k.length k.length)).setCell ⟨w.heap.size + 1 + 1, 2, none⟩ (.int .i64 d)).heap[w.heap.size + 1 + 1]? = _ := heapSet (heapSet (heapSet (unhide OO1)))
  have far2 : ∀ j, j ≠ w.heap.size + 1 + 1 → (((w1.setCell ⟨w.heap.size + 1 + 1, 0, none⟩ (.int .i64 n)).setCell ⟨w.heap.size + 1 + 1, 1, none⟩ (.slice (some ⟨g1, 0, none⟩) k.length k.length)).setCell ⟨w.heap.size + 1 + 1, 2, none⟩ (.int .i64 d)).heap[j]? = w1.heap[j]? := fun j hj => by rw [Below.heap_setCell _ _ _ _ hj, Below.heap_setCell _ _ _ _ hj, Below.heap_setCell _ _ _ _ hj]
  have R2 := (far2 (w.heap.size + 1) (by omega)).trans (unhide RR1)
  have sz2 : (((w1.setCell ⟨w.heap.size + 1 + 1, 0, none⟩ (.int .i64 n)).setCell ⟨w.heap.size + 1 + 1, 1, none⟩ (.slice (some ⟨g1, 0, none⟩) k.length k.length)).setCell ⟨w.heap.size + 1 + 1, 2, none⟩ (.int .i64 d)).heap.size = w1.heap.size := by simp [World.setCell]
  have P2 : Hid (FillI _ _ _ _) := (unhide P1).keep (far2 g1 (by omega))
  have hg12 : g1 < w1.heap.size := by obtain ⟨C, h, _⟩ := unhide P1; exact heapLt h
  have HB2 : Hid (Below w.heap.size w _) := (((unhide HB1).setCell (p := ⟨w.heap.size + 1 + 1, 0, none⟩) (by show w.heap.size ≤ w.heap.size + 1 + 1; omega) (.int .i64 n)).setCell (p := ⟨w.heap.size + 1 + 1, 1, none⟩) (by show w.heap.size ≤ w.heap.size + 1 + 1; omega) (.slice (some ⟨g1, 0, none⟩) k.length k.length)).setCell (p := ⟨w.heap.size + 1 + 1, 2, none⟩) (by show w.heap.size ≤ w.heap.size + 1 + 1; omega) (.int .i64 d)
  refine (toIntS_fill _ _ by' ((unhide HG).later (unhide HB2)) hlb).mono ?_
  generalize ((w1.setCell _ _).setCell _ _).setCell _ _ = W2 at *
  rintro e w3 ⟨rfl, hp3, hb3⟩
  have O3 := hb3.block _ (heapLt O2)
  have R3 := hb3.block _ (heapLt R2)
  rw [O2] at O3
  rw [R2] at R3
  have P3 : Hid (FillI _ _ _ _) := (unhide P2).later hb3
  have P4 : Hid (FillI _ _ _ _) := hp3
  have HB3 : Hid (Below w.heap.size w w3) := (unhide HB2).trans (hb3.mono (unhide HB2).size)
  have o0 : w3.cell? ⟨w.heap.size + 1 + 1, 0, none⟩ = _ := cellOf O3 0
  have o1 : w3.cell? ⟨w.heap.size + 1 + 1, 1, none⟩ = _ := cellOf O3 1
  have o2 : w3.cell? ⟨w.heap.size + 1 + 1, 2, none⟩ = _ := cellOf O3 2
  have o3 : w3.cell? ⟨w.heap.size + 1 + 1, 3, none⟩ = _ := cellOf O3 3
  have f3 := frozenOf O3 3
  have r0 : w3.cell? ⟨w.heap.size + 1, 0, none⟩ = _ := cellOf R3 0
  have r1 : w3.cell? ⟨w.heap.size + 1, 1, none⟩ = _ := cellOf R3 1
  have r2 : w3.cell? ⟨w.heap.size + 1, 2, none⟩ = _ := cellOf R3 2
  have r3 : w3.cell? ⟨w.heap.size + 1, 3, none⟩ = _ := cellOf R3 3
  have s0 := frozenOf R3 0
  have s1 := frozenOf R3 1
  have s2 := frozenOf R3 2
  have s3 := frozenOf R3 3
  have RR3 := hide R3
  generalize W2.heap.size = g2 at *
  have hg2 : w.heap.size + 1 + 1 < g2 := by omega
  have hg13 : g1 < g2 := by omega
  clear R3 O3 O2 R2 far2 hb3 hp3 P2 HB2 sz2
  clear W2
  go_wp2
  obtain ⟨W5, hW5⟩ : ∃ W5, ((((w3.setCell ⟨w.heap.size + 1 + 1, 3, none⟩ (.slice (some ⟨g2, 0, none⟩) by'.length by'.length)).setCell ⟨w.heap.size + 1, 0, none⟩ (.int .i64 n)).setCell ⟨w.heap.size + 1, 1, none⟩ (.slice (some ⟨g1, 0, none⟩) k.length k.length)).setCell ⟨w.heap.size + 1, 2, none⟩ (.int .i64 d)).setCell ⟨w.heap.size + 1, 3, none⟩ (.slice (some ⟨g2, 0, none⟩) by'.length by'.length) = W5 := ⟨_, rfl⟩
  have hR5 : W5.heap[w.heap.size + 1]? = some (.cells #[.int .i64 n, .slice (some ⟨g1, 0, none⟩) k.length k.length, .int .i64 d, .slice (some ⟨g2, 0, none⟩) by'.length by'.length] 46 (0, 0)) := by
    have e0 : (w3.setCell ⟨w.heap.size + 1 + 1, 3, none⟩ (.slice (some ⟨g2, 0, none⟩) by'.length by'.length)).heap[w.heap.size + 1]? = _ := (Below.heap_setCell _ _ _ _ (by show w.heap.size + 1 ≠ w.heap.size + 1 + 1; omega)).trans (unhide RR3)
    rw [← hW5, heapSet (heapSet (heapSet (heapSet e0)))]
    rfl
  have far5 : ∀ j, j ≠ w.heap.size + 1 → j ≠ w.heap.size + 1 + 1 → W5.heap[j]? = w3.heap[j]? := fun j h1 h2 => by
    rw [← hW5, Below.heap_setCell _ _ _ _ h1, Below.heap_setCell _ _ _ _ h1, Below.heap_setCell _ _ _ _ h1, Below.heap_setCell _ _ _ _ h1, Below.heap_setCell _ _ _ _ h2]
  have hbe5 : Below w.heap.size w W5 := by
    rw [← hW5]
    exact (((((unhide HB3).setCell (by show w.heap.size ≤ w.heap.size + 1 + 1; omega) _).setCell (by show w.heap.size ≤ w.heap.size + 1; omega) _).setCell (by show w.heap.size ≤ w.heap.size + 1; omega) _).setCell (by show w.heap.size ≤ w.heap.size + 1; omega) _).setCell (by show w.heap.size ≤ w.heap.size + 1; omega) _
  have q0 : W5.cell? ⟨w.heap.size + 1, 0, none⟩ = _ := cellOf hR5 0
  have q1 : W5.cell? ⟨w.heap.size + 1, 1, none⟩ = _ := cellOf hR5 1
  have q2 : W5.cell? ⟨w.heap.size + 1, 2, none⟩ = _ := cellOf hR5 2
  have q3 : W5.cell? ⟨w.heap.size + 1, 3, none⟩ = _ := cellOf hR5 3
  rw [hW5]
  exact bodyPost_ret (v := .agg #[.int .i64 n, .slice (some ⟨g1, 0, none⟩) k.length k.length, .int .i64 d, .slice (some ⟨g2, 0, none⟩) by'.length by'.length]) (by simp [results, Try.results33, go_sem, q0, q1, q2, q3]) rfl
    ⟨g1, g2, by omega, by omega, rfl, (unhide P3).keep (far5 g1 (by omega) (by omega)), (unhide P4).keep (far5 g2 (by omega) (by omega)), hbe5⟩
/-- toSigRoot: a copy. -/
theorem toSigRoot_any (w : World) (n d : Int) (v vb : Value) (k by' : List Int) (h : Ins w v k) (hb : Ins w vb by') (hl : k.length ≤ 1048576) (hlb : by'.length ≤ 1048576) :
    Calls Try.prog 33 #[.agg #[.int .i64 n, v, .int .i64 d, vb]] w fun e w' => ∃ v' vb', e = .returned (.agg #[.int .i64 n, v', .int .i64 d, vb']) ∧ Ins w' v' k ∧ Ins w' vb' by' ∧ Below w.heap.size w w' :=
  (toSigRoot_fill w n d v vb k by' h hb hl hlb).mono fun _ _ ⟨_, _, _, _, h1, h2, h3, h4⟩ => ⟨_, _, h1, h2.ins hl, h3.ins hlb, h4⟩

set_option maxHeartbeats 1000000 in
theorem szSigRoot_any (w : World) (n d : Int) (a b : Option Addr) (m c m2 c2 : Nat) (left : Int) (h0 : 0 ≤ left) (h1 : left ≤ 1048576) (hn : m ≤ 9223372036854775807) (hn2 : m2 ≤ 9223372036854775807) :
    Calls Try.prog 30 #[.agg #[.int .i64 n, .slice a m c, .int .i64 d, .slice b m2 c2], .int .i64 left] w fun e w' => Below w.heap.size w w' ∧ ((m ≤ 1048576 ∧ m2 ≤ 1048576 ∧ ∃ r : Int, e = .returned (.int .i64 r) ∧ 0 ≤ r ∧ r ≤ left) ∨ e = .returned (.int .i64 (-1))) := by
  obtain ⟨z, x0, x1, x2, x3⟩ := box4i w (.int .i64 n) (.slice a m c) (.int .i64 d) (.slice b m2 c2) 61
  have HB := hide (below1 w (.cells #[.int .i64 n, .slice a m c, .int .i64 d, .slice b m2 c2] 61))
  have H0 := hide (And.intro z x3)
  clear z x0 x1 x2 x3
  go_enter Try.func30, Try.ntmps30
  go_wp2_with fail
  refine (szRoot_any _ n d a m c left h0 h1 hn).mono ?_
  generalize w.alloc _ = W0 at *
  rintro e w1 ⟨b1, ⟨hm, r, rfl, r0, r1⟩ | rfl⟩
  · obtain ⟨z, x3⟩ := unhide H0
    have hlt : w.heap.size < W0.heap.size := by omega
    have k3 : w1.cell? ⟨w.heap.size, 3, none⟩ = _ := (b1.cell hlt).trans x3
    have HB1 := hide ((unhide HB).trans (b1.mono (unhide HB).size))
    clear b1 z x3 HB H0 hlt
    clear W0
    go_wp2_with fail
    refine (szIntS_any _ b m2 c2 r r0 (by omega) hn2).mono ?_
    rintro e w2 ⟨rfl, ⟨hm2, r2, rfl, r20, r21⟩ | rfl⟩
    · go_wp2
      go_ret
      exact ⟨unhide HB1, .inl ⟨hm, hm2, r2, rfl, r20, by omega⟩⟩
    · go_wp2
      go_ret
      exact ⟨unhide HB1, .inr rfl⟩
  · have HB1 := hide ((unhide HB).trans (b1.mono (unhide HB).size))
    clear b1 H0
    go_wp2
    go_ret
    exact ⟨unhide HB1, .inr rfl⟩

theorem two_sx {w : World} {n d : Int} {v v' vb vb' : Value} {k by' : List Int} (h : Ins w v k) (hb : Ins w vb by') (h' : Ins w v' k) (hb' : Ins w vb' by') (t : TypeId) :
    Sx ((w.alloc (.cells #[.int .i64 n, v, .int .i64 d, vb] t)).alloc (.cells #[.int .i64 n, v', .int .i64 d, vb'] t)) w.heap.size n d v vb k by' ∧ Sx ((w.alloc (.cells #[.int .i64 n, v, .int .i64 d, vb] t)).alloc (.cells #[.int .i64 n, v', .int .i64 d, vb'] t)) (w.heap.size + 1) n d v' vb' k by' ∧ Below w.heap.size w ((w.alloc (.cells #[.int .i64 n, v, .int .i64 d, vb] t)).alloc (.cells #[.int .i64 n, v', .int .i64 d, vb'] t)) := by
  have B1 := below1 w (.cells #[.int .i64 n, v, .int .i64 d, vb] t)
  have X1 := Sx.new (n := n) (d := d) h hb t
  generalize hW : w.alloc (.cells #[.int .i64 n, v, .int .i64 d, vb] t) = W at *
  have hz : W.heap.size = w.heap.size + 1 := by rw [← hW]; simp
  have B2 := below1 W (.cells #[.int .i64 n, v', .int .i64 d, vb'] t)
  refine ⟨X1.later B2, ?_, B1.trans (B2.mono B1.size)⟩
  rw [← hz]
  exact Sx.new (h'.later B1) (hb'.later B1) t

set_option maxHeartbeats 1000000 in
theorem eqSigRoot_any (w : World) (n d : Int) (v v' vb vb' : Value) (k by' : List Int) (h : Ins w v k) (hb : Ins w vb by') (h' : Ins w v' k) (hb' : Ins w vb' by') :
    Calls Try.prog 34 #[.agg #[.int .i64 n, v, .int .i64 d, vb], .agg #[.int .i64 n, v', .int .i64 d, vb']] w fun e w' => e = .returned (.bool true) ∧ Below w.heap.size w w' := by
  obtain ⟨a, c, hv⟩ := h.slice
  obtain ⟨a', c', hv'⟩ := h'.slice
  obtain ⟨b, e, hvb⟩ := hb.slice
  obtain ⟨b', e', hvb'⟩ := hb'.slice
  subst hv hv' hvb hvb'
  have X0 := hide (two_sx (n := n) (d := d) h hb h' hb' 46)
  clear h h' hb hb'
  go_enter Try.func34, Try.ntmps34
  go_wp2_with fail
  refine (eqRoot_any _ n d _ _ k (unhide X0).1.ins (unhide X0).2.1.ins).mono ?_
  generalize (w.alloc _).alloc _ = W0 at *
  rintro e w1 ⟨rfl, b1⟩
  have X1 : Hid (_ ∧ _ ∧ _) := ⟨(unhide X0).1.later b1, (unhide X0).2.1.later b1, (unhide X0).2.2.trans (b1.mono (unhide X0).2.2.size)⟩
  obtain ⟨⟨_, p0, p1, p2, p3, _, _⟩, ⟨_, q0, q1, q2, q3, _, _⟩, _⟩ := unhide X1
  clear b1 X0
  clear W0
  go_wp2_with fail
  refine (eqIntS_any _ _ _ by' (unhide X1).1.inb (unhide X1).2.1.inb).mono ?_
  rintro e w2 ⟨rfl, b2⟩
  have HB2 := hide ((unhide X1).2.2.trans (b2.mono (unhide X1).2.2.size))
  clear b2 X1 p0 p1 p2 p3 q0 q1 q2 q3
  go_wp2
  go_ret
  exact ⟨rfl, unhide HB2⟩
end Go.Proofs.Ytkgeekjclcpbpaa
