import Derived.Test.YtlnieobmhofkdaaGreatMix14
/- What the laws' own helpers for roots return: toRoot and toSigRoot copies in memory of their own, eqRoot and eqSigRoot true of two that read the same, szRoot and szSigRoot how much is left. -/
namespace Go.Proofs.YtlnieobmhofkdaaGreat
open Go.RowKit

theorem Ins.keep {w w' : World} {g off n c : Nat} {l : List Int} (h : Ins w (.slice (some ⟨g, off, none⟩) n c) l) (hb : w'.heap[g]? = w.heap[g]?) (hs : w.heap.size ≤ w'.heap.size) : Ins w' (.slice (some ⟨g, off, none⟩) n c) l := by
  obtain ⟨a, cap, hv, hl, hr⟩ := h
  refine ⟨a, cap, hv, hl, fun hp => ?_⟩
  obtain ⟨b, off', ha, hbs, hc⟩ := hr hp
  rw [ha] at hv
  injection hv with h1 _ _
  injection h1 with h1
  injection h1 with h1 h2 _
  rw [h1] at hb
  exact ⟨b, off', ha, Nat.lt_of_lt_of_le hbs hs, fun i hi => (World.cell?_of_block (a := ⟨b, off' + i, none⟩) hb).trans (hc i hi)⟩

/-- Three new blocks. -/
theorem three' (w : World) (o1 o2 o3 : Obj) : (((w.alloc o1).alloc o2).alloc o3).heap.size = w.heap.size + 3 ∧ (((w.alloc o1).alloc o2).alloc o3).heap[w.heap.size]? = some o1 ∧ (((w.alloc o1).alloc o2).alloc o3).heap[w.heap.size + 1]? = some o2 ∧ (((w.alloc o1).alloc o2).alloc o3).heap[w.heap.size + 1 + 1]? = some o3 ∧ Below w.heap.size w (((w.alloc o1).alloc o2).alloc o3) := by
  have old : ∀ (w : World) (o : Obj) (k : Nat), k < w.heap.size → (w.alloc o).heap[k]? = w.heap[k]? := fun w o k hk => Below.heap_alloc w o k hk
  have new : ∀ (w : World) (o : Obj) (k : Nat), k = w.heap.size → (w.alloc o).heap[k]? = some o := fun w o k hk => by rw [hk]; exact heap_alloc_new w o
  refine ⟨by rw [sz1', sz1', sz1'], ?_, ?_, ?_, (((Below.refl _ _).alloc (Nat.le_refl _) _).alloc (by rw [sz1']; omega) _).alloc (by rw [sz1', sz1']; omega) _⟩
  · rw [old _ _ _ (by rw [sz1', sz1']; omega), old _ _ _ (by rw [sz1']; omega), new _ _ _ rfl]
  · rw [old _ _ _ (by rw [sz1', sz1']; omega), new _ _ _ (by rw [sz1'])]
  · rw [new _ _ _ (by rw [sz1', sz1'])]

set_option maxHeartbeats 1000000 in
set_option maxRecDepth 100000 in
/-- toRoot: a copy. -/
theorem toRoot_fill (w : World) (n d : Int) (v : Value) (k : List Int) (h : Ins w v k) (hl : k.length ≤ 1048576) :
    Calls Tryz.prog 25 #[.agg #[.int .i64 n, v, .int .i64 d]] w fun e w' => ∃ g, w.heap.size ≤ g ∧ e = .returned (.agg #[.int .i64 n, .slice (some ⟨g, 0, none⟩) k.length k.length, .int .i64 d]) ∧ FillI w' g k k.length ∧ Below w.heap.size w w' := by
  have HF : Hid (Ins _ _ _) := h
  obtain ⟨fa, fc, hfv⟩ := h.slice
  clear h
  subst hfv
  go_enter Tryz.func25, Tryz.ntmps25
  go_wp2_with fail
  obtain ⟨z0, hb0, hr0, ho0, hbel⟩ := three' w (.cells #[.int .i64 n, .slice fa k.length fc, .int .i64 d] 24) (.cells #[.int .i64 0, .slice none 0 0, .int .i64 0] 35) (.cells #[.int .i64 n, .slice none 0 0, .int .i64 0] 35)
  refine (toIntS_fill _ _ k ((unhide HF).later hbel) hl).mono ?_
  generalize ((w.alloc _).alloc _).alloc _ = W0 at *
  rintro e w1 ⟨rfl, hp1, hb1⟩
  have B1 := hb1.block _ (heapLt hb0)
  have R1 := hb1.block _ (heapLt hr0)
  have O1 := hb1.block _ (heapLt ho0)
  rw [hb0] at B1
  rw [hr0] at R1
  rw [ho0] at O1
  have hbel1 : Below w.heap.size w w1 := hbel.trans (hb1.mono (by omega))
  have hz1 := hb1.size
  have P1 : Hid (FillI _ _ _ _) := hp1
  rw [z0] at hz1
  have b2 : w1.cell? ⟨w.heap.size, 2, none⟩ = _ := cellOf B1 2
  have o0 : w1.cell? ⟨w.heap.size + 1 + 1, 0, none⟩ = _ := cellOf O1 0
  have o1 : w1.cell? ⟨w.heap.size + 1 + 1, 1, none⟩ = _ := cellOf O1 1
  have o2 : w1.cell? ⟨w.heap.size + 1 + 1, 2, none⟩ = _ := cellOf O1 2
  have f1 := frozenOf O1 1
  have f2 := frozenOf O1 2
  have r0 : w1.cell? ⟨w.heap.size + 1, 0, none⟩ = _ := cellOf R1 0
  have r1 : w1.cell? ⟨w.heap.size + 1, 1, none⟩ = _ := cellOf R1 1
  have r2 : w1.cell? ⟨w.heap.size + 1, 2, none⟩ = _ := cellOf R1 2
  have s0 := frozenOf R1 0
  have s1 := frozenOf R1 1
  have s2 := frozenOf R1 2
  have RR1 := hide R1
  have HB1 := hide hbel1
  clear hb0 hr0 ho0 hbel hb1 B1 R1 O1 hp1 hbel1
  generalize W0.heap.size = g1 at *
  have hg1 : w.heap.size + 1 + 1 < g1 := by omega
  clear W0 z0
  go_wp2
  obtain ⟨W5, hW5⟩ : ∃ W5, ((((w1.setCell ⟨w.heap.size + 1 + 1, 1, none⟩ (.slice (some ⟨g1, 0, none⟩) k.length k.length)).setCell ⟨w.heap.size + 1 + 1, 2, none⟩ (.int .i64 d)).setCell ⟨w.heap.size + 1, 0, none⟩ (.int .i64 n)).setCell ⟨w.heap.size + 1, 1, none⟩ (.slice (some ⟨g1, 0, none⟩) k.length k.length)).setCell ⟨w.heap.size + 1, 2, none⟩ (.int .i64 d) = W5 := ⟨_, rfl⟩
  have hR5 : W5.heap[w.heap.size + 1]? = some (.cells #[.int .i64 n, .slice (some ⟨g1, 0, none⟩) k.length k.length, .int .i64 d] 35 (0, 0)) := by
    have e0 : ((w1.setCell ⟨w.heap.size + 1 + 1, 1, none⟩ (.slice (some ⟨g1, 0, none⟩) k.length k.length)).setCell ⟨w.heap.size + 1 + 1, 2, none⟩ (.int .i64 d)).heap[w.heap.size + 1]? = _ := (Below.heap_setCell _ _ _ _ (by show w.heap.size + 1 ≠ w.heap.size + 1 + 1; omega)).trans ((Below.heap_setCell _ _ _ _ (by show w.heap.size + 1 ≠ w.heap.size + 1 + 1; omega)).trans (unhide RR1))
    rw [← hW5, heapSet (heapSet (heapSet e0))]
    rfl
  have far5 : ∀ j, j ≠ w.heap.size + 1 → j ≠ w.heap.size + 1 + 1 → W5.heap[j]? = w1.heap[j]? := fun j h1 h2 => by
    rw [← hW5, Below.heap_setCell _ _ _ _ h1, Below.heap_setCell _ _ _ _ h1, Below.heap_setCell _ _ _ _ h1, Below.heap_setCell _ _ _ _ h2, Below.heap_setCell _ _ _ _ h2]
  have hbe5 : Below w.heap.size w W5 := by
    rw [← hW5]
    exact (((((unhide HB1).setCell (by show w.heap.size ≤ w.heap.size + 1 + 1; omega) _).setCell (by show w.heap.size ≤ w.heap.size + 1 + 1; omega) _).setCell (by show w.heap.size ≤ w.heap.size + 1; omega) _).setCell (by show w.heap.size ≤ w.heap.size + 1; omega) _).setCell (by show w.heap.size ≤ w.heap.size + 1; omega) _
  have q0 : W5.cell? ⟨w.heap.size + 1, 0, none⟩ = _ := cellOf hR5 0
  have q1 : W5.cell? ⟨w.heap.size + 1, 1, none⟩ = _ := cellOf hR5 1
  have q2 : W5.cell? ⟨w.heap.size + 1, 2, none⟩ = _ := cellOf hR5 2
  rw [hW5]
  exact bodyPost_ret (v := .agg #[.int .i64 n, .slice (some ⟨g1, 0, none⟩) k.length k.length, .int .i64 d]) (by simp [results, Tryz.results25, go_sem, q0, q1, q2]) rfl
    ⟨_, by omega, rfl, (unhide P1).keep (far5 g1 (by omega) (by omega)), hbe5⟩
/-- toRoot: a copy. -/
theorem toRoot_any (w : World) (n d : Int) (v : Value) (k : List Int) (h : Ins w v k) (hl : k.length ≤ 1048576) :
    Calls Tryz.prog 25 #[.agg #[.int .i64 n, v, .int .i64 d]] w fun e w' => ∃ g, w.heap.size ≤ g ∧ e = .returned (.agg #[.int .i64 n, .slice (some ⟨g, 0, none⟩) k.length k.length, .int .i64 d]) ∧ Ins w' (.slice (some ⟨g, 0, none⟩) k.length k.length) k ∧ Below w.heap.size w w' :=
  (toRoot_fill w n d v k h hl).mono fun _ _ ⟨g, h1, h2, h3, h4⟩ => ⟨g, h1, h2, h3.ins hl, h4⟩

set_option maxHeartbeats 1000000 in
theorem szRoot_any (w : World) (n d : Int) (a : Option Addr) (m c : Nat) (left : Int) (h0 : 0 ≤ left) (h1 : left ≤ 1048576) (hn : m ≤ 9223372036854775807) :
    Calls Tryz.prog 17 #[.agg #[.int .i64 n, .slice a m c, .int .i64 d], .int .i64 left] w fun e w' => Below w.heap.size w w' ∧ ((m ≤ 1048576 ∧ ∃ r : Int, e = .returned (.int .i64 r) ∧ 0 ≤ r ∧ r ≤ left) ∨ e = .returned (.int .i64 (-1))) := by
  have HB := hide (below1 w (.cells #[.int .i64 n, .slice a m c, .int .i64 d] 24))
  go_enter Tryz.func17, Tryz.ntmps17
  go_wp2_with fail
  refine (szIntS_any _ a m c left h0 h1 hn).mono ?_
  generalize w.alloc _ = W0 at *
  rintro e w1 ⟨rfl, ⟨hm, r, rfl, r0, r1⟩ | rfl⟩
  · go_wp2
    go_ret
    exact ⟨unhide HB, .inl ⟨hm, r, rfl, r0, r1⟩⟩
  · go_wp2
    go_ret
    exact ⟨unhide HB, .inr rfl⟩

theorem two_bx {w : World} {n d : Int} {v v' : Value} {k : List Int} (h : Ins w v k) (h' : Ins w v' k) (t : TypeId) :
    Bx ((w.alloc (.cells #[.int .i64 n, v, .int .i64 d] t)).alloc (.cells #[.int .i64 n, v', .int .i64 d] t)) w.heap.size n d v k ∧ Bx ((w.alloc (.cells #[.int .i64 n, v, .int .i64 d] t)).alloc (.cells #[.int .i64 n, v', .int .i64 d] t)) (w.heap.size + 1) n d v' k ∧ Below w.heap.size w ((w.alloc (.cells #[.int .i64 n, v, .int .i64 d] t)).alloc (.cells #[.int .i64 n, v', .int .i64 d] t)) := by
  have B1 := below1 w (.cells #[.int .i64 n, v, .int .i64 d] t)
  have X1 := Bx.new (n := n) (d := d) h t
  generalize hW : w.alloc (.cells #[.int .i64 n, v, .int .i64 d] t) = W at *
  have hz : W.heap.size = w.heap.size + 1 := by rw [← hW]; simp
  have B2 := below1 W (.cells #[.int .i64 n, v', .int .i64 d] t)
  refine ⟨X1.later B2, ?_, B1.trans (B2.mono B1.size)⟩
  rw [← hz]
  exact Bx.new (h'.later B1) t

set_option maxHeartbeats 1000000 in
theorem eqRoot_any (w : World) (n d : Int) (v v' : Value) (k : List Int) (h : Ins w v k) (h' : Ins w v' k) :
    Calls Tryz.prog 34 #[.agg #[.int .i64 n, v, .int .i64 d], .agg #[.int .i64 n, v', .int .i64 d]] w fun e w' => e = .returned (.bool true) ∧ Below w.heap.size w w' := by
  obtain ⟨a, c, hv⟩ := h.slice
  obtain ⟨a', c', hv'⟩ := h'.slice
  subst hv hv'
  have X0 := hide (two_bx (n := n) (d := d) h h' 35)
  clear h h'
  have hn : (n != n) = false := by simp
  have hd : (d != d) = false := by simp
  go_enter Tryz.func34, Tryz.ntmps34
  go_wp2_with fail
  refine (eqIntS_any _ _ _ k (unhide X0).1.ins (unhide X0).2.1.ins).mono ?_
  generalize (w.alloc _).alloc _ = W0 at *
  rintro e w1 ⟨rfl, b1⟩
  have X1 : Hid (_ ∧ _ ∧ _) := ⟨(unhide X0).1.later b1, (unhide X0).2.1.later b1, (unhide X0).2.2.trans (b1.mono (unhide X0).2.2.size)⟩
  obtain ⟨⟨_, p0, p1, p2, _⟩, ⟨_, q0, q1, q2, _⟩, _⟩ := unhide X1
  clear b1 X0
  clear W0
  go_wp2
  go_ret
  exact ⟨rfl, (unhide X1).2.2⟩
end Go.Proofs.YtlnieobmhofkdaaGreat
