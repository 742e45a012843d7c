import Derived.Test.YtlnieobmhofkdaaGreatKeyW
import Derived.Laws.MakeOwn
import Derived.Test.YtlnieobmhofkdaaGreatRootW
/- What the laws' own helpers for rows of numbers return: toIntS a copy in memory of its own, eqIntS true of two that read the same, szIntS how much is left. -/
namespace Go.Proofs.YtlnieobmhofkdaaGreat
open Go.RowKit



/-- A new row of n numbers. -/
theorem mk_ints (w : World) (n : Nat) (hn : n ≤ 1048576) :
    ∃ C : Array Value, C.size = n ∧ (Instr.makeSlice 22 (.int .i64 (n : Int)) (.int .i64 (n : Int))).run Tryz.prog w = .ok (.slice (some ⟨w.heap.size, 0, none⟩) n n) (w.alloc (.cells C 3)) := by
  obtain ⟨i, hi0, hz0, hz1, hz2⟩ := info_parts infoI
  have h := run_make (P := Tryz.prog) w 22 3 i (.int .i64 0) Tryz.underlying22 hi0 hz0 .i64 .i64 (n : Int) (n : Int) (by omega) (Int.le_refl _) (by rw [hz2]; omega) (by omega)
  rw [hz1] at h
  simp only [Int.toNat_natCast] at h
  exact ⟨_, by rw [size_madeCells, Nat.mul_one], h⟩

/-- The row that is filled: the first k numbers are there. -/
def FillI (w : World) (g : Nat) (l : List Int) (k : Nat) : Prop :=
  ∃ C : Array Value, w.heap[g]? = some (.cells C 3 (0, 0)) ∧ C.size = l.length ∧ ∀ i, i < k → C[i]? = some (.int .i64 (Ky.nth l i))

theorem FillI.more {w : World} {g : Nat} {l : List Int} {k : Nat} (h : FillI w g l k) (hk : k < l.length) :
    FillI (w.setCell ⟨g, k, none⟩ (.int .i64 (Ky.nth l k))) g l (k + 1) := by
  obtain ⟨C, h1, h2, h3⟩ := h
  refine ⟨_, heapSet h1, by simpa using h2, fun i hi => ?_⟩
  rcases Nat.lt_or_ge i k with hlt | hge
  · rw [Array.getElem?_setIfInBounds_ne (by omega)]
    exact h3 i hlt
  · obtain rfl : i = k := by omega
    rw [Array.getElem?_setIfInBounds_self_of_lt (by omega)]

theorem FillI.keep {w w' : World} {g k : Nat} {l : List Int} (h : FillI w g l k) (hb : w'.heap[g]? = w.heap[g]?) : FillI w' g l k := by
  obtain ⟨C, h1, h2, h3⟩ := h
  exact ⟨C, hb.trans h1, h2, h3⟩
theorem FillI.later {w w' : World} {g k : Nat} {l : List Int} (h : FillI w g l k) (hb : Below w.heap.size w w') : FillI w' g l k := by
  obtain ⟨C, h1, h2, h3⟩ := h
  exact ⟨C, (hb.block g (heapLt h1)).trans h1, h2, h3⟩
theorem FillI.ins {w : World} {g : Nat} {l : List Int} (h : FillI w g l l.length) (hl : l.length ≤ 1048576) : Ins w (.slice (some ⟨g, 0, none⟩) l.length l.length) l := by
  obtain ⟨C, h1, h2, h3⟩ := h
  refine ⟨_, _, rfl, by omega, fun _ => ⟨g, 0, rfl, heapLt h1, fun i hi => ?_⟩⟩
  rw [Nat.zero_add, cellOf h1]
  exact h3 i hi

set_option maxHeartbeats 1000000 in
theorem toIntS_fill (w : World) (v : Value) (l : List Int) (h : Ins w v l) (hl : l.length ≤ 1048576) :
    Calls Tryz.prog 51 #[v] w fun e w' => e = .returned (.slice (some ⟨w.heap.size, 0, none⟩) l.length l.length) ∧ FillI w' w.heap.size l l.length ∧ Below w.heap.size w w' := by
  obtain ⟨a, cap, rfl, _, hrow⟩ := h
  obtain ⟨C, hC, hmk⟩ := mk_ints w l.length hl
  have hl' : (l.length : Int) ≤ 1048576 := by omega
  have HC0 := hide hC
  clear hC
  go_enter Tryz.func51, Tryz.ntmps51
  go_wp2
  go_loopw [4] (fun i w' => ∃ k : Nat, k ≤ l.length ∧ i = .int .i64 k ∧ Below w.heap.size w w' ∧ FillI w' w.heap.size l k) (fun i _ => l.length - (intOf i).toNat)
  case atStart => exact ⟨0, Nat.zero_le _, rfl, (Below.refl _ _).alloc (Nat.le_refl _) _, C, heap_alloc_new w _, unhide HC0, fun i hi => by omega⟩
  case round =>
    obtain ⟨k, hk, rfl, hw, hfill⟩ := hrel
    clear hmk
    by_cases hlt : k < l.length
    · obtain ⟨b, off, rfl, hb, hc⟩ := hrow (by omega)
      have c1 := hc k hlt
      rw [← hw.cell hb] at c1
      have HW := hide hw
      have HF : Hid (FillI _ _ _ _) := hfill
      clear hc hrow hw
      obtain ⟨C', g1, g2, _⟩ := hfill
      have d1 : wr.cell? ⟨w.heap.size, k, none⟩ = some (C'[k]'(by omega)) := by rw [cellOf g1]; exact Array.getElem?_eq_getElem _
      have f1 := frozenOf g1 k
      generalize C'[k]'(by omega) = y1 at d1
      clear g1 g2
      have hi0 : (0 : Int) ≤ (k : Int) := Int.natCast_nonneg _
      have hi1 : (k : Int) < (l.length : Int) := by omega
      go_wp2
      go_roundw
      case rel => exact ⟨k + 1, by omega, by go_num, (unhide HW).setCell (Nat.le_refl _) _, (unhide HF).more hlt⟩
      case measure => simp [intOf]; omega
    · obtain rfl : k = l.length := by omega
      have HW := hide hw
      have HF : Hid (FillI _ _ _ _) := hfill
      clear hw hfill
      go_wp2
      go_ret
      exact ⟨rfl, unhide HF, unhide HW⟩
theorem toIntS_any (w : World) (v : Value) (l : List Int) (h : Ins w v l) (hl : l.length ≤ 1048576) :
    Calls Tryz.prog 51 #[v] w fun e w' => e = .returned (.slice (some ⟨w.heap.size, 0, none⟩) l.length l.length) ∧ Ins w' (.slice (some ⟨w.heap.size, 0, none⟩) l.length l.length) l ∧ Below w.heap.size w w' :=
  (toIntS_fill w v l h hl).mono fun _ _ ⟨h1, h2, h3⟩ => ⟨h1, h2.ins hl, h3⟩

set_option maxHeartbeats 1000000 in
theorem eqIntS_any (w : World) (v v' : Value) (l : List Int) (h : Ins w v l) (h' : Ins w v' l) :
    Calls Tryz.prog 65 #[v, v'] w fun e w' => e = .returned (.bool true) ∧ Below w.heap.size w w' := by
  obtain ⟨a, cap, rfl, hlen, hrow⟩ := h
  obtain ⟨a', cap', rfl, _, hrow'⟩ := h'
  have hne : ((l.length : Int) != (l.length : Int)) = false := by simp
  go_enter Tryz.func65, Tryz.ntmps65
  go_wp2
  go_loopw [5] (fun i w' => ∃ k : Nat, k ≤ l.length ∧ i = .int .i64 k ∧ Below w.heap.size w w') (fun i _ => l.length - (intOf i).toNat)
  case atStart => exact ⟨0, Nat.zero_le _, rfl, Below.refl _ _⟩
  case round =>
    obtain ⟨k, hk, rfl, hw⟩ := hrel
    have HW := hide hw
    by_cases hlt : k < l.length
    · obtain ⟨b, off, rfl, hb, hc⟩ := hrow (by omega)
      obtain ⟨b', off', rfl, hb', hc'⟩ := hrow' (by omega)
      have c1 := hc k hlt
      have d1 := hc' k hlt
      rw [← hw.cell hb] at c1
      rw [← hw.cell hb'] at d1
      clear hc hc' hrow hrow' hw
      have hi0 : (0 : Int) ≤ (k : Int) := Int.natCast_nonneg _
      have hi1 : (k : Int) < (l.length : Int) := by omega
      have hee : (Ky.nth l k != Ky.nth l k) = false := by simp
      go_wp2_with fail
      go_quiet (fail)
      go_wp2
      go_roundw
      case rel => exact ⟨k + 1, by omega, by go_num, below_drewN (unhide HW) _⟩
      case measure => simp [intOf]; omega
    · clear hw
      go_wp2
      go_ret
      exact ⟨rfl, unhide HW⟩

set_option maxHeartbeats 1000000 in
theorem szIntS_any (w : World) (a : Option Addr) (n c : Nat) (left : Int) (h0 : 0 ≤ left) (h1 : left ≤ 1048576) (hn : n ≤ 9223372036854775807) :
    Calls Tryz.prog 41 #[.slice a n c, .int .i64 left] w fun e w' => w' = w ∧ ((n ≤ 1048576 ∧ ∃ r : Int, e = .returned (.int .i64 r) ∧ 0 ≤ r ∧ r ≤ left) ∨ e = .returned (.int .i64 (-1))) := by
  have ew : IntKind.i64.wrap (left - (n : Int)) = left - (n : Int) := by simp [IntKind.wrap, IntKind.bits, IntKind.signed]; omega
  by_cases hlt : left - (n : Int) < 0
  · go_enter Tryz.func41, Tryz.ntmps41
    go_wp2
    go_ret
    exact ⟨rfl, .inr rfl⟩
  · go_enter Tryz.func41, Tryz.ntmps41
    go_wp2
    go_ret
    exact ⟨rfl, .inl ⟨by omega, _, rfl, by omega, by omega⟩⟩
end Go.Proofs.YtlnieobmhofkdaaGreat

/- What spec.RootNext and impl.RootNext return: whether a root may come behind another one; for all roots; nothing old is written. -/
namespace Go.Proofs.YtlnieobmhofkdaaGreat
open Go.RowKit

/-- A signed root in a box, its keys, and those that sign. -/
structure Sx (w : World) (g : Nat) (n d : Int) (v vb : Value) (k by' : List Int) : Prop where
  lt : g < w.heap.size
  c0 : w.cell? ⟨g, 0, none⟩ = some (.int .i64 n)
  c1 : w.cell? ⟨g, 1, none⟩ = some v
  c2 : w.cell? ⟨g, 2, none⟩ = some (.int .i64 d)
  c3 : w.cell? ⟨g, 3, none⟩ = some vb
  ins : Ins w v k
  inb : Ins w vb by'
theorem Sx.later {w w' : World} {g : Nat} {n d : Int} {v vb : Value} {k by' : List Int} (h : Sx w g n d v vb k by') (hb : Below w.heap.size w w') : Sx w' g n d v vb k by' :=
  ⟨Nat.lt_of_lt_of_le h.lt hb.size, (hb.cell h.lt).trans h.c0, (hb.cell h.lt).trans h.c1, (hb.cell h.lt).trans h.c2, (hb.cell h.lt).trans h.c3, h.ins.later hb, h.inb.later hb⟩
theorem Sx.new {w : World} {n d : Int} {v vb : Value} {k by' : List Int} (h : Ins w v k) (hb : Ins w vb by') (t : TypeId) : Sx (w.alloc (.cells #[.int .i64 n, v, .int .i64 d, vb] t)) w.heap.size n d v vb k by' := by
  obtain ⟨z, x0, x1, x2, x3⟩ := box4i w (.int .i64 n) v (.int .i64 d) vb t
  exact ⟨by omega, x0, x1, x2, x3, h.later (below1 _ _), hb.later (below1 _ _)⟩

/-- Both boxes behind each other. -/
theorem two_boxes {w : World} {n d n2 d2 : Int} {v v2 vb : Value} {k k2 by' : List Int} (h : Ins w v k) (h2 : Ins w v2 k2) (hb : Ins w vb by') (t t2 : TypeId) :
    Bx ((w.alloc (.cells #[.int .i64 n, v, .int .i64 d] t)).alloc (.cells #[.int .i64 n2, v2, .int .i64 d2, vb] t2)) w.heap.size n d v k ∧ Sx ((w.alloc (.cells #[.int .i64 n, v, .int .i64 d] t)).alloc (.cells #[.int .i64 n2, v2, .int .i64 d2, vb] t2)) (w.heap.size + 1) n2 d2 v2 vb k2 by' ∧ Below w.heap.size w ((w.alloc (.cells #[.int .i64 n, v, .int .i64 d] t)).alloc (.cells #[.int .i64 n2, v2, .int .i64 d2, vb] t2)) := by
  have B1 := below1 w (.cells #[.int .i64 n, v, .int .i64 d] t)
  have X1 := Bx.new (n := n) (d := d) h t
  generalize hW : w.alloc (.cells #[.int .i64 n, v, .int .i64 d] t) = W at *
  have hz : W.heap.size = w.heap.size + 1 := by rw [← hW]; simp
  have B2 := below1 W (.cells #[.int .i64 n2, v2, .int .i64 d2, vb] t2)
  refine ⟨X1.later B2, ?_, B1.trans (B2.mono B1.size)⟩
  rw [← hz]
  exact Sx.new (h2.later B1) (hb.later B1) t2

end Go.Proofs.YtlnieobmhofkdaaGreat
