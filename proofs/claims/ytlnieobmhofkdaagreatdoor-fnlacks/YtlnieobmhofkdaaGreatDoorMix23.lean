import Derived.Test.YtlnieobmhofkdaaGreatDoorMix10
import Derived.Laws.MakeOwn
import Derived.Test.YtlnieobmhofkdaaGreatDoorMix11
/- What the laws' own helpers for rows of numbers return: toIntS a copy in memory of its own, eqIntS true of two that read the same, szIntS how much is left. -/
namespace Go.Proofs.YtlnieobmhofkdaaGreatDoor
open Go.RowKit



/-- A new row of n numbers. -/
theorem mk_ints (w : World) (n : Nat) (hn : n ≤ 1048576) :
    ∃ C : Array Value, C.size = n ∧ (Instr.makeSlice 23 (.int .i64 (n : Int)) (.int .i64 (n : Int))).run Tryz.prog w = .ok (.slice (some ⟨w.heap.size, 0, none⟩) n n) (w.alloc (.cells C 3)) := by
  obtain ⟨i, hi0, hz0, hz1, hz2⟩ := info_parts infoI
  have h := run_make (P := Tryz.prog) w 23 3 i (.int .i64 0) Tryz.underlying23 hi0 hz0 .i64 .i64 (n : Int) (n : Int) (by omega) (Int.le_refl _) (by rw [hz2]; omega) (by omega)
  rw [hz1] at h
  simp only [Int.toNat_natCast] at h
  exact ⟨_, by rw [size_madeCells, Nat.mul_one], h⟩

/-- The row that is filled: the first k numbers are there. -/
def FillI (w : World) (g : Nat) (l : List Int) (k : Nat) : Prop :=
  ∃ C : Array Value, w.heap[g]? = some (.cells C 3 (0, 0)) ∧ C.size = l.length ∧ ∀ i, i < k → C[i]? = some (.int .i64 (Ky.nth l i))

theorem FillI.more {w : World} {g : Nat} {l : List Int} {k : Nat} (h : FillI w g l k) (hk : k < l.length) :
    FillI (w.setCell ⟨g, k, none⟩ (.int .i64 (Ky.nth l k))) g l (k + 1) := by
  obtain ⟨C, h1, h2, h3⟩ := h
  refine ⟨_, heapSet h1, by simpa using h2, fun i hi => ?_⟩
  rcases Nat.lt_or_ge i k with hlt | hge
  · rw [Array.getElem?_setIfInBounds_ne (by omega)]
    exact h3 i hlt
  · obtain rfl : i = k := by omega
    rw [Array.getElem?_setIfInBounds_self_of_lt (by omega)]

theorem FillI.keep {w w' : World} {g k : Nat} {l : List Int} (h : FillI w g l k) (hb : w'.heap[g]? = w.heap[g]?) : FillI w' g l k := by
  obtain ⟨C, h1, h2, h3⟩ := h
  exact ⟨C, hb.trans h1, h2, h3⟩
theorem FillI.later {w w' : World} {g k : Nat} {l : List Int} (h : FillI w g l k) (hb : Below w.heap.size w w') : FillI w' g l k := by
  obtain ⟨C, h1, h2, h3⟩ := h
  exact ⟨C, (hb.block g (heapLt h1)).trans h1, h2, h3⟩
theorem FillI.ins {w : World} {g : Nat} {l : List Int} (h : FillI w g l l.length) (hl : l.length ≤ 1048576) : Ins w (.slice (some ⟨g, 0, none⟩) l.length l.length) l := by
  obtain ⟨C, h1, h2, h3⟩ := h
  refine ⟨_, _, rfl, by omega, fun _ => ⟨g, 0, rfl, heapLt h1, fun i hi => ?_⟩⟩
  rw [Nat.zero_add, cellOf h1]
  exact h3 i hi

set_option maxHeartbeats 1000000 in
theorem toIntS_fill (w : World) (v : Value) (l : List Int) (h : Ins w v l) (hl : l.length ≤ 1048576) :
    Calls Tryz.prog 120 #[v] w fun e w' => e = .returned (.slice (some ⟨w.heap.size, 0, none⟩) l.length l.length) ∧ FillI w' w.heap.size l l.length ∧ Below w.heap.size w w' := by
  obtain ⟨a, cap, rfl, _, hrow⟩ := h
  obtain ⟨C, hC, hmk⟩ := mk_ints w l.length hl
  have hl' : (l.length : Int) ≤ 1048576 := by omega
  have HC0 := hide hC
  clear hC
  go_enter Tryz.func120, Tryz.ntmps120
  go_wp2
  go_loopw [4] (fun i w' => ∃ k : Nat, k ≤ l.length ∧ i = .int .i64 k ∧ Below w.heap.size w w' ∧ FillI w' w.heap.size l k) (fun i _ => l.length - (intOf i).toNat)
  case atStart => exact ⟨0, Nat.zero_le _, rfl, (Below.refl _ _).alloc (Nat.le_refl _) _, C, heap_alloc_new w _, unhide HC0, fun i hi => by omega⟩
  case round =>
    obtain ⟨k, hk, rfl, hw, hfill⟩ := hrel
    clear hmk
    by_cases hlt : k < l.length
    · obtain ⟨b, off, rfl, hb, hc⟩ := hrow (by omega)
      have c1 := hc k hlt
      rw [← hw.cell hb] at c1
      have HW := hide hw
      have HF : Hid (FillI _ _ _ _) := hfill
      clear hc hrow hw
      obtain ⟨C', g1, g2, _⟩ := hfill
      have d1 : wr.cell? ⟨w.heap.size, k, none⟩ = some (C'[k]'(by omega)) := by rw [cellOf g1]; exact Array.getElem?_eq_getElem _
      have f1 := frozenOf g1 k
      generalize C'[k]'(by omega) = y1 at d1
      clear g1 g2
      have hi0 : (0 : Int) ≤ (k : Int) := Int.natCast_nonneg _
      have hi1 : (k : Int) < (l.length : Int) := by omega
      go_wp2
      go_roundw
      case rel => exact ⟨k + 1, by omega, by go_num, (unhide HW).setCell (Nat.le_refl _) _, (unhide HF).more hlt⟩
      case measure => simp [intOf]; omega
    · obtain rfl : k = l.length := by omega
      have HW := hide hw
      have HF : Hid (FillI _ _ _ _) := hfill
      clear hw hfill
      go_wp2
      go_ret
      exact ⟨rfl, unhide HF, unhide HW⟩
theorem toIntS_any (w : World) (v : Value) (l : List Int) (h : Ins w v l) (hl : l.length ≤ 1048576) :
    Calls Tryz.prog 120 #[v] w fun e w' => e = .returned (.slice (some ⟨w.heap.size, 0, none⟩) l.length l.length) ∧ Ins w' (.slice (some ⟨w.heap.size, 0, none⟩) l.length l.length) l ∧ Below w.heap.size w w' :=
  (toIntS_fill w v l h hl).mono fun _ _ ⟨h1, h2, h3⟩ => ⟨h1, h2.ins hl, h3⟩

set_option maxHeartbeats 1000000 in
theorem eqIntS_any (w : World) (v v' : Value) (l : List Int) (h : Ins w v l) (h' : Ins w v' l) :
    Calls Tryz.prog 126 #[v, v'] w fun e w' => e = .returned (.bool true) ∧ Below w.heap.size w w' := by
  obtain ⟨a, cap, rfl, hlen, hrow⟩ := h
  obtain ⟨a', cap', rfl, _, hrow'⟩ := h'
  have hne : ((l.length : Int) != (l.length : Int)) = false := by simp
  go_enter Tryz.func126, Tryz.ntmps126
  go_wp2
  go_loopw [5] (fun i w' => ∃ k : Nat, k ≤ l.length ∧ i = .int .i64 k ∧ Below w.heap.size w w') (fun i _ => l.length - (intOf i).toNat)
  case atStart => exact ⟨0, Nat.zero_le _, rfl, Below.refl _ _⟩
  case round =>
    obtain ⟨k, hk, rfl, hw⟩ := hrel
    have HW := hide hw
    by_cases hlt : k < l.length
    · obtain ⟨b, off, rfl, hb, hc⟩ := hrow (by omega)
      obtain ⟨b', off', rfl, hb', hc'⟩ := hrow' (by omega)
      have c1 := hc k hlt
      have d1 := hc' k hlt
      rw [← hw.cell hb] at c1
      rw [← hw.cell hb'] at d1
      clear hc hc' hrow hrow' hw
      have hi0 : (0 : Int) ≤ (k : Int) := Int.natCast_nonneg _
      have hi1 : (k : Int) < (l.length : Int) := by omega
      have hee : (Ky.nth l k != Ky.nth l k) = false := by simp
      go_wp2_with fail
      go_quiet (fail)
      go_wp2
      go_roundw
      case rel => exact ⟨k + 1, by omega, by go_num, below_drewN (unhide HW) _⟩
      case measure => simp [intOf]; omega
    · clear hw
      go_wp2
      go_ret
      exact ⟨rfl, unhide HW⟩

set_option maxHeartbeats 1000000 in
theorem szIntS_any (w : World) (a : Option Addr) (n c : Nat) (left : Int) (h0 : 0 ≤ left) (h1 : left ≤ 1048576) (hn : n ≤ 9223372036854775807) :
    Calls Tryz.prog 116 #[.slice a n c, .int .i64 left] w fun e w' => w' = w ∧ ((n ≤ 1048576 ∧ ∃ r : Int, e = .returned (.int .i64 r) ∧ 0 ≤ r ∧ r ≤ left) ∨ e = .returned (.int .i64 (-1))) := by
  have ew : IntKind.i64.wrap (left - (n : Int)) = left - (n : Int) := by simp [IntKind.wrap, IntKind.bits, IntKind.signed]; omega
  by_cases hlt : left - (n : Int) < 0
  · go_enter Tryz.func116, Tryz.ntmps116
    go_wp2
    go_ret
    exact ⟨rfl, .inr rfl⟩
  · go_enter Tryz.func116, Tryz.ntmps116
    go_wp2
    go_ret
    exact ⟨rfl, .inl ⟨by omega, _, rfl, by omega, by omega⟩⟩
end Go.Proofs.YtlnieobmhofkdaaGreatDoor

/- What spec.RootNext and impl.RootNext return: whether a root may come behind another one; for all roots; nothing old is written. -/
namespace Go.Proofs.YtlnieobmhofkdaaGreatDoor
open Go.RowKit

/-- A signed root in a box, its keys, and those that sign. -/
structure Sx (w : World) (g : Nat) (n d : Int) (v vb : Value) (k by' : List Int) : Prop where
  lt : g < w.heap.size
  c0 : w.cell? ⟨g, 0, none⟩ = some (.int .i64 n)
  c1 : w.cell? ⟨g, 1, none⟩ = some v
  c2 : w.cell? ⟨g, 2, none⟩ = some (.int .i64 d)
  c3 : w.cell? ⟨g, 3, none⟩ = some vb
  ins : Ins w v k
  inb : Ins w vb by'
theorem Sx.later {w w' : World} {g : Nat} {n d : Int} {v vb : Value} {k by' : List Int} (h : Sx w g n d v vb k by') (hb : Below w.heap.size w w') : Sx w' g n d v vb k by' :=
  ⟨Nat.lt_of_lt_of_le h.lt hb.size, (hb.cell h.lt).trans h.c0, (hb.cell h.lt).trans h.c1, (hb.cell h.lt).trans h.c2, (hb.cell h.lt).trans h.c3, h.ins.later hb, h.inb.later hb⟩
theorem Sx.new {w : World} {n d : Int} {v vb : Value} {k by' : List Int} (h : Ins w v k) (hb : Ins w vb by') (t : TypeId) : Sx (w.alloc (.cells #[.int .i64 n, v, .int .i64 d, vb] t)) w.heap.size n d v vb k by' := by
  obtain ⟨z, x0, x1, x2, x3⟩ := box4i w (.int .i64 n) v (.int .i64 d) vb t
  exact ⟨by omega, x0, x1, x2, x3, h.later (below1 _ _), hb.later (below1 _ _)⟩

/-- Both boxes behind each other. -/
theorem two_boxes {w : World} {n d n2 d2 : Int} {v v2 vb : Value} {k k2 by' : List Int} (h : Ins w v k) (h2 : Ins w v2 k2) (hb : Ins w vb by') (t t2 : TypeId) :
    Bx ((w.alloc (.cells #[.int .i64 n, v, .int .i64 d] t)).alloc (.cells #[.int .i64 n2, v2, .int .i64 d2, vb] t2)) w.heap.size n d v k ∧ Sx ((w.alloc (.cells #[.int .i64 n, v, .int .i64 d] t)).alloc (.cells #[.int .i64 n2, v2, .int .i64 d2, vb] t2)) (w.heap.size + 1) n2 d2 v2 vb k2 by' ∧ Below w.heap.size w ((w.alloc (.cells #[.int .i64 n, v, .int .i64 d] t)).alloc (.cells #[.int .i64 n2, v2, .int .i64 d2, vb] t2)) := by
  have B1 := below1 w (.cells #[.int .i64 n, v, .int .i64 d] t)
  have X1 := Bx.new (n := n) (d := d) h t
  generalize hW : w.alloc (.cells #[.int .i64 n, v, .int .i64 d] t) = W at *
  have hz : W.heap.size = w.heap.size + 1 := by rw [← hW]; simp
  have B2 := below1 W (.cells #[.int .i64 n2, v2, .int .i64 d2, vb] t2)
  refine ⟨X1.later B2, ?_, B1.trans (B2.mono B1.size)⟩
  rw [← hz]
  exact Sx.new (h2.later B1) (hb.later B1) t2

end Go.Proofs.YtlnieobmhofkdaaGreatDoor

/- What the laws' own helpers for roots return: toRoot and toSigRoot copies in memory of their own, eqRoot and eqSigRoot true of two that read the same, szRoot and szSigRoot how much is left. -/
namespace Go.Proofs.YtlnieobmhofkdaaGreatDoor
open Go.RowKit

theorem Ins.keep {w w' : World} {g off n c : Nat} {l : List Int} (h : Ins w (.slice (some ⟨g, off, none⟩) n c) l) (hb : w'.heap[g]? = w.heap[g]?) (hs : w.heap.size ≤ w'.heap.size) : Ins w' (.slice (some ⟨g, off, none⟩) n c) l := by
  obtain ⟨a, cap, hv, hl, hr⟩ := h
  refine ⟨a, cap, hv, hl, fun hp => ?_⟩
  obtain ⟨b, off', ha, hbs, hc⟩ := hr hp
  rw [ha] at hv
  injection hv with h1 _ _
  injection h1 with h1
  injection h1 with h1 h2 _
  rw [h1] at hb
  exact ⟨b, off', ha, Nat.lt_of_lt_of_le hbs hs, fun i hi => (World.cell?_of_block (a := ⟨b, off' + i, none⟩) hb).trans (hc i hi)⟩

/-- Three new blocks. -/
theorem three' (w : World) (o1 o2 o3 : Obj) : (((w.alloc o1).alloc o2).alloc o3).heap.size = w.heap.size + 3 ∧ (((w.alloc o1).alloc o2).alloc o3).heap[w.heap.size]? = some o1 ∧ (((w.alloc o1).alloc o2).alloc o3).heap[w.heap.size + 1]? = some o2 ∧ (((w.alloc o1).alloc o2).alloc o3).heap[w.heap.size + 1 + 1]? = some o3 ∧ Below w.heap.size w (((w.alloc o1).alloc o2).alloc o3) := by
  have old : ∀ (w : World) (o : Obj) (k : Nat), k < w.heap.size → (w.alloc o).heap[k]? = w.heap[k]? := fun w o k hk => Below.heap_alloc w o k hk
  have new : ∀ (w : World) (o : Obj) (k : Nat), k = w.heap.size → (w.alloc o).heap[k]? = some o := fun w o k hk => by rw [hk]; exact heap_alloc_new w o
  refine ⟨by rw [sz1', sz1', sz1'], ?_, ?_, ?_, (((Below.refl _ _).alloc (Nat.le_refl _) _).alloc (by rw [sz1']; omega) _).alloc (by rw [sz1', sz1']; omega) _⟩
  · rw [old _ _ _ (by rw [sz1', sz1']; omega), old _ _ _ (by rw [sz1']; omega), new _ _ _ rfl]
  · rw [old _ _ _ (by rw [sz1', sz1']; omega), new _ _ _ (by rw [sz1'])]
  · rw [new _ _ _ (by rw [sz1', sz1'])]

set_option maxHeartbeats 1000000 in
set_option maxRecDepth 100000 in
/-- toRoot: a copy. -/
theorem toRoot_fill (w : World) (n d : Int) (v : Value) (k : List Int) (h : Ins w v k) (hl : k.length ≤ 1048576) :
    Calls Tryz.prog 68 #[.agg #[.int .i64 n, v, .int .i64 d]] w fun e w' => ∃ g, w.heap.size ≤ g ∧ e = .returned (.agg #[.int .i64 n, .slice (some ⟨g, 0, none⟩) k.length k.length, .int .i64 d]) ∧ FillI w' g k k.length ∧ Below w.heap.size w w' := by
  have HF : Hid (Ins _ _ _) := h
  obtain ⟨fa, fc, hfv⟩ := h.slice
  clear h
  subst hfv
  go_enter Tryz.func68, Tryz.ntmps68
  go_wp2_with fail
  obtain ⟨z0, hb0, hr0, ho0, hbel⟩ := three' w (.cells #[.int .i64 n, .slice fa k.length fc, .int .i64 d] 58) (.cells #[.int .i64 0, .slice none 0 0, .int .i64 0] 25) (.cells #[.int .i64 n, .slice none 0 0, .int .i64 0] 25)
  refine (toIntS_fill _ _ k ((unhide HF).later hbel) hl).mono ?_
  generalize ((w.alloc _).alloc _).alloc _ = W0 at *
  rintro e w1 ⟨rfl, hp1, hb1⟩
  have B1 := hb1.block _ (heapLt hb0)
  have R1 := hb1.block _ (heapLt hr0)
  have O1 := hb1.block _ (heapLt ho0)
  rw [hb0] at B1
  rw [hr0] at R1
  rw [ho0] at O1
  have hbel1 : Below w.heap.size w w1 := hbel.trans (hb1.mono (by omega))
  have hz1 := hb1.size
  have P1 : Hid (FillI _ _ _ _) := hp1
  rw [z0] at hz1
  have b2 : w1.cell? ⟨w.heap.size, 2, none⟩ = _ := cellOf B1 2
  have o0 : w1.cell? ⟨w.heap.size + 1 + 1, 0, none⟩ = _ := cellOf O1 0
  have o1 : w1.cell? ⟨w.heap.size + 1 + 1, 1, none⟩ = _ := cellOf O1 1
  have o2 : w1.cell? ⟨w.heap.size + 1 + 1, 2, none⟩ = _ := cellOf O1 2
  have f1 := frozenOf O1 1
  have f2 := frozenOf O1 2
  have r0 : w1.cell? ⟨w.heap.size + 1, 0, none⟩ = _ := cellOf R1 0
  have r1 : w1.cell? ⟨w.heap.size + 1, 1, none⟩ = _ := cellOf R1 1
  have r2 : w1.cell? ⟨w.heap.size + 1, 2, none⟩ = _ := cellOf R1 2
  have s0 := frozenOf R1 0
  have s1 := frozenOf R1 1
  have s2 := frozenOf R1 2
  have RR1 := hide R1
  have HB1 := hide hbel1
  clear hb0 hr0 ho0 hbel hb1 B1 R1 O1 hp1 hbel1
  generalize W0.heap.size = g1 at *
  have hg1 : w.heap.size + 1 + 1 < g1 := by omega
  clear W0 z0
  go_wp2
  obtain ⟨W5, hW5⟩ : ∃ W5, ((((w1.setCell ⟨w.heap.size + 1 + 1, 1, none⟩ (.slice (some ⟨g1, 0, none⟩) k.length k.length)).setCell ⟨w.heap.size + 1 + 1, 2, none⟩ (.int .i64 d)).setCell ⟨w.heap.size + 1, 0, none⟩ (.int .i64 n)).setCell ⟨w.heap.size + 1, 1, none⟩ (.slice (some ⟨g1, 0, none⟩) k.length k.length)).setCell ⟨w.heap.size + 1, 2, none⟩ (.int .i64 d) = W5 := ⟨_, rfl⟩
  have hR5 : W5.heap[w.heap.size + 1]? = some (.cells #[.int .i64 n, .slice (some ⟨g1, 0, none⟩) k.length k.length, .int .i64 d] 25 (0, 0)) := by
    have e0 : ((w1.setCell ⟨w.heap.size + 1 + 1, 1, none⟩ (.slice (some ⟨g1, 0, none⟩) k.length k.length)).setCell ⟨w.heap.size + 1 + 1, 2, none⟩ (.int .i64 d)).heap[w.heap.size + 1]? = _ := (Below.heap_setCell _ _ _ _ (by show w.heap.size + 1 ≠ w.heap.size + 1 + 1; omega)).trans ((Below.heap_setCell _ _ _ _ (by show w.heap.size + 1 ≠ w.heap.size + 1 + 1; omega)).trans (unhide RR1))
    rw [← hW5, heapSet (heapSet (heapSet e0))]
    rfl
  have far5 : ∀ j, j ≠ w.heap.size + 1 → j ≠ w.heap.size + 1 + 1 → W5.heap[j]? = w1.heap[j]? := fun j h1 h2 => by
    rw [← hW5, Below.heap_setCell _ _ _ _ h1, Below.heap_setCell _ _ _ _ h1, Below.heap_setCell _ _ _ _ h1, Below.heap_setCell _ _ _ _ h2, Below.heap_setCell _ _ _ _ h2]
  have hbe5 : Below w.heap.size w W5 := by
    rw [← hW5]
    exact (((((unhide HB1).setCell (by show w.heap.size ≤ w.heap.size + 1 + 1; omega) _).setCell (by show w.heap.size ≤ w.heap.size + 1 + 1; omega) _).setCell (by show w.heap.size ≤ w.heap.size + 1; omega) _).setCell (by show w.heap.size ≤ w.heap.size + 1; omega) _).setCell (by show w.heap.size ≤ w.heap.size + 1; omega) _
  have q0 : W5.cell? ⟨w.heap.size + 1, 0, none⟩ = _ := cellOf hR5 0
  have q1 : W5.cell? ⟨w.heap.size + 1, 1, none⟩ = _ := cellOf hR5 1
  have q2 : W5.cell? ⟨w.heap.size + 1, 2, none⟩ = _ := cellOf hR5 2
  rw [hW5]
  exact bodyPost_ret (v := .agg #[.int .i64 n, .slice (some ⟨g1, 0, none⟩) k.length k.length, .int .i64 d]) (by simp [results, Tryz.results68, go_sem, q0, q1, q2]) rfl
    ⟨_, by omega, rfl, (unhide P1).keep (far5 g1 (by omega) (by omega)), hbe5⟩
/-- toRoot: a copy. -/
theorem toRoot_any (w : World) (n d : Int) (v : Value) (k : List Int) (h : Ins w v k) (hl : k.length ≤ 1048576) :
    Calls Tryz.prog 68 #[.agg #[.int .i64 n, v, .int .i64 d]] w fun e w' => ∃ g, w.heap.size ≤ g ∧ e = .returned (.agg #[.int .i64 n, .slice (some ⟨g, 0, none⟩) k.length k.length, .int .i64 d]) ∧ Ins w' (.slice (some ⟨g, 0, none⟩) k.length k.length) k ∧ Below w.heap.size w w' :=
  (toRoot_fill w n d v k h hl).mono fun _ _ ⟨g, h1, h2, h3, h4⟩ => ⟨g, h1, h2, h3.ins hl, h4⟩

set_option maxHeartbeats 1000000 in
theorem szRoot_any (w : World) (n d : Int) (a : Option Addr) (m c : Nat) (left : Int) (h0 : 0 ≤ left) (h1 : left ≤ 1048576) (hn : m ≤ 9223372036854775807) :
    Calls Tryz.prog 65 #[.agg #[.int .i64 n, .slice a m c, .int .i64 d], .int .i64 left] w fun e w' => Below w.heap.size w w' ∧ ((m ≤ 1048576 ∧ ∃ r : Int, e = .returned (.int .i64 r) ∧ 0 ≤ r ∧ r ≤ left) ∨ e = .returned (.int .i64 (-1))) := by
  have HB := hide (below1 w (.cells #[.int .i64 n, .slice a m c, .int .i64 d] 58))
  go_enter Tryz.func65, Tryz.ntmps65
  go_wp2_with fail
  refine (szIntS_any _ a m c left h0 h1 hn).mono ?_
  generalize w.alloc _ = W0 at *
  rintro e w1 ⟨rfl, ⟨hm, r, rfl, r0, r1⟩ | rfl⟩
  · go_wp2
    go_ret
    exact ⟨unhide HB, .inl ⟨hm, r, rfl, r0, r1⟩⟩
  · go_wp2
    go_ret
    exact ⟨unhide HB, .inr rfl⟩

theorem two_bx {w : World} {n d : Int} {v v' : Value} {k : List Int} (h : Ins w v k) (h' : Ins w v' k) (t : TypeId) :
    Bx ((w.alloc (.cells #[.int .i64 n, v, .int .i64 d] t)).alloc (.cells #[.int .i64 n, v', .int .i64 d] t)) w.heap.size n d v k ∧ Bx ((w.alloc (.cells #[.int .i64 n, v, .int .i64 d] t)).alloc (.cells #[.int .i64 n, v', .int .i64 d] t)) (w.heap.size + 1) n d v' k ∧ Below w.heap.size w ((w.alloc (.cells #[.int .i64 n, v, .int .i64 d] t)).alloc (.cells #[.int .i64 n, v', .int .i64 d] t)) := by
  have B1 := below1 w (.cells #[.int .i64 n, v, .int .i64 d] t)
  have X1 := Bx.new (n := n) (d := d) h t
  generalize hW : w.alloc (.cells #[.int .i64 n, v, .int .i64 d] t) = W at *
  have hz : W.heap.size = w.heap.size + 1 := by rw [← hW]; simp
  have B2 := below1 W (.cells #[.int .i64 n, v', .int .i64 d] t)
  refine ⟨X1.later B2, ?_, B1.trans (B2.mono B1.size)⟩
  rw [← hz]
  exact Bx.new (h'.later B1) t

set_option maxHeartbeats 1000000 in
theorem eqRoot_any (w : World) (n d : Int) (v v' : Value) (k : List Int) (h : Ins w v k) (h' : Ins w v' k) :
    Calls Tryz.prog 72 #[.agg #[.int .i64 n, v, .int .i64 d], .agg #[.int .i64 n, v', .int .i64 d]] w fun e w' => e = .returned (.bool true) ∧ Below w.heap.size w w' := by
  obtain ⟨a, c, hv⟩ := h.slice
  obtain ⟨a', c', hv'⟩ := h'.slice
  subst hv hv'
  have X0 := hide (two_bx (n := n) (d := d) h h' 25)
  clear h h'
  have hn : (n != n) = false := by simp
  have hd : (d != d) = false := by simp
  go_enter Tryz.func72, Tryz.ntmps72
  go_wp2_with fail
  refine (eqIntS_any _ _ _ k (unhide X0).1.ins (unhide X0).2.1.ins).mono ?_
  generalize (w.alloc _).alloc _ = W0 at *
  rintro e w1 ⟨rfl, b1⟩
  have X1 : Hid (_ ∧ _ ∧ _) := ⟨(unhide X0).1.later b1, (unhide X0).2.1.later b1, (unhide X0).2.2.trans (b1.mono (unhide X0).2.2.size)⟩
  obtain ⟨⟨_, p0, p1, p2, _⟩, ⟨_, q0, q1, q2, _⟩, _⟩ := unhide X1
  clear b1 X0
  clear W0
  go_wp2
  go_ret
  exact ⟨rfl, (unhide X1).2.2⟩
end Go.Proofs.YtlnieobmhofkdaaGreatDoor
