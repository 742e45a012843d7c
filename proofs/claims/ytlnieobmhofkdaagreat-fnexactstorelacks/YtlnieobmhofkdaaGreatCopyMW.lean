/- What the laws' toMeta, toMetaS and toIndex return: a copy in memory of its own. -/
import Derived.Test.YtlnieobmhofkdaaGreatMetasW
import Derived.Laws.MakeOwn
namespace Go.Proofs.YtlnieobmhofkdaaGreat
open Go.RowKit

theorem infoM : (Tryz.prog.info? 60).map (fun i => (i.zero, i.size, i.bytes)) = some (some (.agg #[.int .i64 0, .int .i64 0, .int .i64 0]), 3, 24) := by kernel_rfl

/-- A new row of n metas. -/
theorem mk_metas (w : World) (n : Nat) (hn : n ≤ 1048576) :
    ∃ C : Array Value, C.size = n * 3 ∧ (Instr.makeSlice 33 (.int .i64 (n : Int)) (.int .i64 (n : Int))).run Tryz.prog w = .ok (.slice (some ⟨w.heap.size, 0, none⟩) n n) (w.alloc (.cells C 60)) := by
  obtain ⟨i, hi0, hz0, hz1, hz2⟩ := info_parts infoM
  have h := run_make (P := Tryz.prog) w 33 60 i (.agg #[.int .i64 0, .int .i64 0, .int .i64 0]) Tryz.underlying33 hi0 hz0 .i64 .i64 (n : Int) (n : Int) (by omega) (Int.le_refl _) (by rw [hz2]; omega) (by omega)
  rw [hz1] at h
  simp only [Int.toNat_natCast] at h
  exact ⟨_, size_madeCells _ _, h⟩

/-- The row that is filled: the first k metas are there. -/
def FillM (w : World) (g : Nat) (l : List Ix.M) (k : Nat) : Prop :=
  ∃ C : Array Value, w.heap[g]? = some (.cells C 60 (0, 0)) ∧ C.size = l.length * 3 ∧ ∀ i, i < k → C[i * 3]? = some (.int .i64 (Ix.nm l i)) ∧ C[i * 3 + 1]? = some (.int .i64 (Ix.vr l i)) ∧ C[i * 3 + 2]? = some (.int .i64 (Ix.sm l i))
theorem FillM.more {w : World} {g : Nat} {l : List Ix.M} {k : Nat} (h : FillM w g l k) (hk : k < l.length) :
    FillM (((w.setCell ⟨g, k * 3, none⟩ (.int .i64 (Ix.nm l k))).setCell ⟨g, k * 3 + 1, none⟩ (.int .i64 (Ix.vr l k))).setCell ⟨g, k * 3 + 2, none⟩ (.int .i64 (Ix.sm l k))) g l (k + 1) := by
  obtain ⟨C, h1, h2, h3⟩ := h
  refine ⟨_, heapSet (heapSet (heapSet h1)), by simpa using h2, fun i hi => ?_⟩
  rcases Nat.lt_or_ge i k with hlt | hge
  · obtain ⟨a, b, c⟩ := h3 i hlt
    refine ⟨?_, ?_, ?_⟩
    · rw [Array.getElem?_setIfInBounds_ne (by omega), Array.getElem?_setIfInBounds_ne (by omega), Array.getElem?_setIfInBounds_ne (by omega)]; exact a
    · rw [Array.getElem?_setIfInBounds_ne (by omega), Array.getElem?_setIfInBounds_ne (by omega), Array.getElem?_setIfInBounds_ne (by omega)]; exact b
    · rw [Array.getElem?_setIfInBounds_ne (by omega), Array.getElem?_setIfInBounds_ne (by omega), Array.getElem?_setIfInBounds_ne (by omega)]; exact c
  · obtain rfl : i = k := by omega
    refine ⟨?_, ?_, ?_⟩
    · rw [Array.getElem?_setIfInBounds_ne (by omega), Array.getElem?_setIfInBounds_ne (by omega), Array.getElem?_setIfInBounds_self_of_lt (by omega)]
    · rw [Array.getElem?_setIfInBounds_ne (by omega), Array.getElem?_setIfInBounds_self_of_lt (by simp; omega)]
    · rw [Array.getElem?_setIfInBounds_self_of_lt (by simp; omega)]
theorem FillM.keep {w w' : World} {g k : Nat} {l : List Ix.M} (h : FillM w g l k) (hb : w'.heap[g]? = w.heap[g]?) : FillM w' g l k := by
  obtain ⟨C, h1, h2, h3⟩ := h
  exact ⟨C, hb.trans h1, h2, h3⟩
theorem FillM.later {w w' : World} {g k : Nat} {l : List Ix.M} (h : FillM w g l k) (hb : Below w.heap.size w w') : FillM w' g l k := by
  obtain ⟨C, h1, h2, h3⟩ := h
  exact ⟨C, (hb.block g (heapLt h1)).trans h1, h2, h3⟩
theorem FillM.trs {w : World} {g : Nat} {l : List Ix.M} (h : FillM w g l l.length) (hl : l.length ≤ 1048576) : Trs w (.slice (some ⟨g, 0, none⟩) l.length l.length) l := by
  obtain ⟨C, h1, h2, h3⟩ := h
  refine ⟨_, _, rfl, by omega, fun _ => ⟨g, 0, rfl, heapLt h1, fun i hi => ?_⟩⟩
  rw [Nat.zero_add, cellOf h1, cellOf h1, cellOf h1]
  exact h3 i hi

set_option maxHeartbeats 1000000 in
theorem toMeta_any (a b c : Int) (w : World) : Calls Tryz.prog 74 #[.agg #[.int .i64 a, .int .i64 b, .int .i64 c]] w fun e w' => e = .returned (.agg #[.int .i64 a, .int .i64 b, .int .i64 c]) ∧ Below w.heap.size w w' := by
  go_enter Tryz.func74, Tryz.ntmps74
  go_wp2
  exact bodyPost_ret (v := .agg #[.int .i64 a, .int .i64 b, .int .i64 c]) (by simp [results, Tryz.results74, go_sem]) rfl ⟨rfl, (((Below.refl _ _).alloc (Nat.le_refl _) _).alloc (by rw [sz1']; omega) _).alloc (by rw [sz1', sz1']; omega) _⟩

set_option maxHeartbeats 2000000 in
theorem toMetaS_fill (w : World) (v : Value) (l : List Ix.M) (h : Trs w v l) (hl : l.length ≤ 1048576) :
    Calls Tryz.prog 52 #[v] w fun e w' => e = .returned (.slice (some ⟨w.heap.size, 0, none⟩) l.length l.length) ∧ FillM w' w.heap.size l l.length ∧ Below w.heap.size w w' := by
  obtain ⟨a, cap, rfl, _, hrow⟩ := h
  obtain ⟨C, hC, hmk⟩ := mk_metas w l.length hl
  have hl' : (l.length : Int) ≤ 1048576 := by omega
  have HC0 := hide hC
  clear hC
  go_enter Tryz.func52, Tryz.ntmps52
  go_wp2
  go_loopw [4] (fun i w' => ∃ k : Nat, k ≤ l.length ∧ i = .int .i64 k ∧ Below w.heap.size w w' ∧ FillM w' w.heap.size l k) (fun i _ => l.length - (intOf i).toNat)
  case atStart => exact ⟨0, Nat.zero_le _, rfl, (Below.refl _ _).alloc (Nat.le_refl _) _, C, heap_alloc_new w _, unhide HC0, fun i hi => by omega⟩
  case round =>
    obtain ⟨k, hk, rfl, hw, hfill⟩ := hrel
    clear hmk
    by_cases hlt : k < l.length
    · obtain ⟨b, off, rfl, hb, hc⟩ := hrow (by omega)
      obtain ⟨c1, c2, c3⟩ := hc k hlt
      rw [← hw.cell hb] at c1 c2 c3
      have HW := hide hw
      have HF : Hid (FillM _ _ _ _) := hfill
      clear hc hrow hw hfill
      have hi0 : (0 : Int) ≤ (k : Int) := Int.natCast_nonneg _
      have hi1 : (k : Int) < (l.length : Int) := by omega
      go_wp2_with fail
      refine (toMeta_any _ _ _ _).mono ?_
      rintro e w1 ⟨rfl, hb1⟩
      have HF1 : Hid (FillM w1 w.heap.size l k) := by
        obtain ⟨C', h1, h2⟩ := unhide HF
        exact ⟨C', by rw [hb1.block _ (heapLt h1)]; exact h1, h2⟩
      have HW1 : Hid (Below w.heap.size w w1) := (unhide HW).trans (hb1.mono (unhide HW).size)
      obtain ⟨C', g1, g2, _⟩ := unhide HF1
      have d1 : w1.cell? ⟨w.heap.size, k * 3, none⟩ = some (C'[k * 3]'(by omega)) := by rw [cellOf g1]; exact Array.getElem?_eq_getElem _
      have d2 : w1.cell? ⟨w.heap.size, k * 3 + 1, none⟩ = some (C'[k * 3 + 1]'(by omega)) := by rw [cellOf g1]; exact Array.getElem?_eq_getElem _
      have d3 : w1.cell? ⟨w.heap.size, k * 3 + 2, none⟩ = some (C'[k * 3 + 2]'(by omega)) := by rw [cellOf g1]; exact Array.getElem?_eq_getElem _
      have f1 := frozenOf g1 (k * 3)
      have f2 := frozenOf g1 (k * 3 + 1)
      have f3 := frozenOf g1 (k * 3 + 2)
      generalize C'[k * 3]'(by omega) = y1 at d1
      generalize C'[k * 3 + 1]'(by omega) = y2 at d2
      generalize C'[k * 3 + 2]'(by omega) = y3 at d3
      clear hb1 HF HW g1 g2 c1 c2 c3
      go_wp2
      go_roundw
      case rel => exact ⟨k + 1, by omega, by go_num, (((unhide HW1).setCell (Nat.le_refl _) _).setCell (Nat.le_refl _) _).setCell (Nat.le_refl _) _, (unhide HF1).more hlt⟩
      case measure => simp [intOf]; omega
    · obtain rfl : k = l.length := by omega
      have HW := hide hw
      have HF : Hid (FillM _ _ _ _) := hfill
      clear hw hfill
      go_wp2
      go_ret
      exact ⟨rfl, unhide HF, unhide HW⟩
theorem toMetaS_any (w : World) (v : Value) (l : List Ix.M) (h : Trs w v l) (hl : l.length ≤ 1048576) :
    Calls Tryz.prog 52 #[v] w fun e w' => e = .returned (.slice (some ⟨w.heap.size, 0, none⟩) l.length l.length) ∧ Trs w' (.slice (some ⟨w.heap.size, 0, none⟩) l.length l.length) l ∧ Below w.heap.size w w' :=
  (toMetaS_fill w v l h hl).mono fun _ _ ⟨h1, h2, h3⟩ => ⟨h1, h2.trs hl, h3⟩

theorem Trs.keep {w w' : World} {g off n c : Nat} {l : List Ix.M} (h : Trs w (.slice (some ⟨g, off, none⟩) n c) l) (hb : w'.heap[g]? = w.heap[g]?) (hs : w.heap.size ≤ w'.heap.size) : Trs w' (.slice (some ⟨g, off, none⟩) n c) l := by
  obtain ⟨a, cap, hv, hl, hr⟩ := h
  refine ⟨a, cap, hv, hl, fun hp => ?_⟩
  obtain ⟨b, off', ha, hbs, hc⟩ := hr hp
  rw [ha] at hv
  injection hv with h1 _ _
  injection h1 with h1
  injection h1 with h1 h2 _
  rw [h1] at hb
  exact ⟨b, off', ha, Nat.lt_of_lt_of_le hbs hs, fun i hi => ⟨(World.cell?_of_block (a := ⟨b, off' + i * 3, none⟩) hb).trans (hc i hi).1, (World.cell?_of_block (a := ⟨b, off' + i * 3 + 1, none⟩) hb).trans (hc i hi).2.1, (World.cell?_of_block (a := ⟨b, off' + i * 3 + 2, none⟩) hb).trans (hc i hi).2.2⟩⟩

/-- Three new blocks. -/
theorem three3 (w : World) (o1 o2 o3 : Obj) : (((w.alloc o1).alloc o2).alloc o3).heap.size = w.heap.size + 3 ∧ (((w.alloc o1).alloc o2).alloc o3).heap[w.heap.size]? = some o1 ∧ (((w.alloc o1).alloc o2).alloc o3).heap[w.heap.size + 1]? = some o2 ∧ (((w.alloc o1).alloc o2).alloc o3).heap[w.heap.size + 1 + 1]? = some o3 ∧ Below w.heap.size w (((w.alloc o1).alloc o2).alloc o3) := by
  have old : ∀ (w : World) (o : Obj) (k : Nat), k < w.heap.size → (w.alloc o).heap[k]? = w.heap[k]? := fun w o k hk => Below.heap_alloc w o k hk
  have new : ∀ (w : World) (o : Obj) (k : Nat), k = w.heap.size → (w.alloc o).heap[k]? = some o := fun w o k hk => by rw [hk]; exact heap_alloc_new w o
  refine ⟨by rw [sz1', sz1', sz1'], ?_, ?_, ?_, (((Below.refl _ _).alloc (Nat.le_refl _) _).alloc (by rw [sz1']; omega) _).alloc (by rw [sz1', sz1']; omega) _⟩
  · rw [old _ _ _ (by rw [sz1', sz1']; omega), old _ _ _ (by rw [sz1']; omega), new _ _ _ rfl]
  · rw [old _ _ _ (by rw [sz1', sz1']; omega), new _ _ _ (by rw [sz1'])]
  · rw [new _ _ _ (by rw [sz1', sz1'])]

set_option maxHeartbeats 2000000 in
set_option maxRecDepth 100000 in
/-- toIndex: a copy. -/
theorem toIndex_fill (w : World) (n d : Int) (v : Value) (k : List Ix.M) (h : Trs w v k) (hl : k.length ≤ 1048576) :
    Calls Tryz.prog 26 #[.agg #[.int .i64 n, .int .i64 d, v]] w fun e w' => ∃ g, w.heap.size ≤ g ∧ e = .returned (.agg #[.int .i64 n, .int .i64 d, .slice (some ⟨g, 0, none⟩) k.length k.length]) ∧ FillM w' g k k.length ∧ Below w.heap.size w w' := by
  have HF : Hid (Trs _ _ _) := h
  obtain ⟨fa, fc, hfv⟩ := h.slice
  clear h
  subst hfv
  go_enter Tryz.func26, Tryz.ntmps26
  go_wp2_with fail
  obtain ⟨z0, hb0, hr0, ho0, hbel⟩ := three3 w (.cells #[.int .i64 n, .int .i64 d, .slice fa k.length fc] 27) (.cells #[.int .i64 0, .int .i64 0, .slice none 0 0] 37) (.cells #[.int .i64 n, .int .i64 d, .slice none 0 0] 37)
  refine (toMetaS_fill _ _ k ((unhide HF).later hbel) hl).mono ?_
  generalize ((w.alloc _).alloc _).alloc _ = W0 at *
  rintro e w1 ⟨rfl, hp1, hb1⟩
  have R1 := hb1.block _ (heapLt hr0)
  have O1 := hb1.block _ (heapLt ho0)
  rw [hr0] at R1
  rw [ho0] at O1
  have hbel1 : Below w.heap.size w w1 := hbel.trans (hb1.mono (by omega))
  have hz1 := hb1.size
  have P1 : Hid (FillM _ _ _ _) := hp1
  rw [z0] at hz1
  have o0 : w1.cell? ⟨w.heap.size + 1 + 1, 0, none⟩ = _ := cellOf O1 0
  have o1 : w1.cell? ⟨w.heap.size + 1 + 1, 1, none⟩ = _ := cellOf O1 1
  have o2 : w1.cell? ⟨w.heap.size + 1 + 1, 2, none⟩ = _ := cellOf O1 2
  have f2 := frozenOf O1 2
  have r0 : w1.cell? ⟨w.heap.size + 1, 0, none⟩ = _ := cellOf R1 0
  have r1 : w1.cell? ⟨w.heap.size + 1, 1, none⟩ = _ := cellOf R1 1
  have r2 : w1.cell? ⟨w.heap.size + 1, 2, none⟩ = _ := cellOf R1 2
  have s0 := frozenOf R1 0
  have s1 := frozenOf R1 1
  have s2 := frozenOf R1 2
  have RR1 := hide R1
  have HB1 := hide hbel1
  clear hb0 hr0 ho0 hbel hb1 R1 O1 hp1 hbel1
  generalize W0.heap.size = g1 at *
  have hg1 : w.heap.size + 1 + 1 < g1 := by omega
  clear W0 z0
  go_wp2
  obtain ⟨W5, hW5⟩ : ∃ W5, (((w1.setCell ⟨w.heap.size + 1 + 1, 2, none⟩ (.slice (some ⟨g1, 0, none⟩) k.length k.length)).setCell ⟨w.heap.size + 1, 0, none⟩ (.int .i64 n)).setCell ⟨w.heap.size + 1, 1, none⟩ (.int .i64 d)).setCell ⟨w.heap.size + 1, 2, none⟩ (.slice (some ⟨g1, 0, none⟩) k.length k.length) = W5 := ⟨_, rfl⟩
  have hR5 : W5.heap[w.heap.size + 1]? = some (.cells #[.int .i64 n, .int .i64 d, .slice (some ⟨g1, 0, none⟩) k.length k.length] 37 (0, 0)) := by
    have e0 : (w1.setCell ⟨w.heap.size + 1 + 1, 2, none⟩ (.slice (some ⟨g1, 0, none⟩) k.length k.length)).heap[w.heap.size + 1]? = _ := (Below.heap_setCell _ _ _ _ (by show w.heap.size + 1 ≠ w.heap.size + 1 + 1; omega)).trans (unhide RR1)
    rw [← hW5, heapSet (heapSet (heapSet e0))]
    rfl
  have far5 : ∀ j, j ≠ w.heap.size + 1 → j ≠ w.heap.size + 1 + 1 → W5.heap[j]? = w1.heap[j]? := fun j h1 h2 => by
    rw [← hW5, Below.heap_setCell _ _ _ _ h1, Below.heap_setCell _ _ _ _ h1, Below.heap_setCell _ _ _ _ h1, Below.heap_setCell _ _ _ _ h2]
  have hbe5 : Below w.heap.size w W5 := by
    rw [← hW5]
    exact ((((unhide HB1).setCell (by show w.heap.size ≤ w.heap.size + 1 + 1; omega) _).setCell (by show w.heap.size ≤ w.heap.size + 1; omega) _).setCell (by show w.heap.size ≤ w.heap.size + 1; omega) _).setCell (by show w.heap.size ≤ w.heap.size + 1; omega) _
  have q0 : W5.cell? ⟨w.heap.size + 1, 0, none⟩ = _ := cellOf hR5 0
  have q1 : W5.cell? ⟨w.heap.size + 1, 1, none⟩ = _ := cellOf hR5 1
  have q2 : W5.cell? ⟨w.heap.size + 1, 2, none⟩ = _ := cellOf hR5 2
  rw [hW5]
  exact bodyPost_ret (v := .agg #[.int .i64 n, .int .i64 d, .slice (some ⟨g1, 0, none⟩) k.length k.length]) (by simp [results, Tryz.results26, go_sem, q0, q1, q2]) rfl
    ⟨_, by omega, rfl, (unhide P1).keep (far5 g1 (by omega) (by omega)), hbe5⟩
/-- toIndex: a copy. -/
theorem toIndex_any (w : World) (n d : Int) (v : Value) (k : List Ix.M) (h : Trs w v k) (hl : k.length ≤ 1048576) :
    Calls Tryz.prog 26 #[.agg #[.int .i64 n, .int .i64 d, v]] w fun e w' => ∃ g, w.heap.size ≤ g ∧ e = .returned (.agg #[.int .i64 n, .int .i64 d, .slice (some ⟨g, 0, none⟩) k.length k.length]) ∧ Trs w' (.slice (some ⟨g, 0, none⟩) k.length k.length) k ∧ Below w.heap.size w w' :=
  (toIndex_fill w n d v k h hl).mono fun _ _ ⟨g, h1, h2, h3, h4⟩ => ⟨g, h1, h2, h3.trs hl, h4⟩

set_option maxHeartbeats 1000000 in
theorem szMetaS_any (w : World) (a : Option Addr) (n c : Nat) (left : Int) (h0 : 0 ≤ left) (h1 : left ≤ 1048576) (hn : n ≤ 9223372036854775807) :
    Calls Tryz.prog 42 #[.slice a n c, .int .i64 left] w fun e w' => ∃ r : Int, e = .returned (.int .i64 r) ∧ ((n : Int) ≤ left ∧ r = left - n ∨ left < (n : Int) ∧ r = -1) ∧ w' = w := by
  by_cases h : (n : Int) ≤ left
  · go_enter Tryz.func42, Tryz.ntmps42
    go_wp2
    go_ret
    exact ⟨left - n, rfl, Or.inl ⟨h, rfl⟩, rfl⟩
  · have h' : left - (n : Int) < 0 := by omega
    go_enter Tryz.func42, Tryz.ntmps42
    go_wp2
    go_ret
    exact ⟨-1, rfl, by omega, rfl⟩
set_option maxHeartbeats 1000000 in
theorem szIndex_any (w : World) (n d : Int) (a : Option Addr) (m c : Nat) (left : Int) (h0 : 0 ≤ left) (h1 : left ≤ 1048576) (hn : m ≤ 9223372036854775807) :
    Calls Tryz.prog 18 #[.agg #[.int .i64 n, .int .i64 d, .slice a m c], .int .i64 left] w fun e w' => ∃ r : Int, e = .returned (.int .i64 r) ∧ ((m : Int) ≤ left ∧ r = left - m ∨ left < (m : Int) ∧ r = -1) ∧ Below w.heap.size w w' := by
  have HB := hide (below1 w (.cells #[.int .i64 n, .int .i64 d, .slice a m c] 27))
  go_enter Tryz.func18, Tryz.ntmps18
  go_wp2_with fail
  refine (szMetaS_any _ a m c left h0 h1 hn).mono ?_
  rintro e w1 ⟨r, rfl, hr, rfl⟩
  rcases hr with ⟨hr1, rfl⟩ | ⟨hr1, rfl⟩
  · have hr0 : 0 ≤ left - (m : Int) := by omega
    go_wp2
    go_ret
    exact ⟨_, rfl, Or.inl ⟨hr1, rfl⟩, unhide HB⟩
  · go_wp2
    go_ret
    exact ⟨-1, rfl, Or.inr ⟨hr1, rfl⟩, unhide HB⟩
end Go.Proofs.YtlnieobmhofkdaaGreat
