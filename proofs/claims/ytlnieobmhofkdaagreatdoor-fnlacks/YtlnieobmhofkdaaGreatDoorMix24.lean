import Derived.Test.YtlnieobmhofkdaaGreatDoorMix5
import Derived.Laws.MakeOwn
import Derived.Deep.RegionHeld3
import Derived.Deep.DrawnRows
import Derived.Test.YtlnieobmhofkdaaGreatDoorMix21
import Derived.Test.YtlnieobmhofkdaaGreatDoorMix23
/- What the laws' toMeta, toMetaS and toIndex return: a copy in memory of its own. -/
namespace Go.Proofs.YtlnieobmhofkdaaGreatDoor
open Go.RowKit

theorem infoM : (Tryz.prog.info? 55).map (fun i => (i.zero, i.size, i.bytes)) = some (some (.agg #[.int .i64 0, .int .i64 0, .int .i64 0]), 3, 24) := by kernel_rfl

/-- A new row of n metas. -/
theorem mk_metas (w : World) (n : Nat) (hn : n ≤ 1048576) :
    ∃ C : Array Value, C.size = n * 3 ∧ (Instr.makeSlice 26 (.int .i64 (n : Int)) (.int .i64 (n : Int))).run Tryz.prog w = .ok (.slice (some ⟨w.heap.size, 0, none⟩) n n) (w.alloc (.cells C 55)) := by
  obtain ⟨i, hi0, hz0, hz1, hz2⟩ := info_parts infoM
  have h := run_make (P := Tryz.prog) w 26 55 i (.agg #[.int .i64 0, .int .i64 0, .int .i64 0]) Tryz.underlying26 hi0 hz0 .i64 .i64 (n : Int) (n : Int) (by omega) (Int.le_refl _) (by rw [hz2]; omega) (by omega)
  rw [hz1] at h
  simp only [Int.toNat_natCast] at h
  exact ⟨_, size_madeCells _ _, h⟩

/-- The row that is filled: the first k metas are there. -/
def FillM (w : World) (g : Nat) (l : List Ix.M) (k : Nat) : Prop :=
  ∃ C : Array Value, w.heap[g]? = some (.cells C 55 (0, 0)) ∧ C.size = l.length * 3 ∧ ∀ i, i < k → C[i * 3]? = some (.int .i64 (Ix.nm l i)) ∧ C[i * 3 + 1]? = some (.int .i64 (Ix.vr l i)) ∧ C[i * 3 + 2]? = some (.int .i64 (Ix.sm l i))
theorem FillM.more {w : World} {g : Nat} {l : List Ix.M} {k : Nat} (h : FillM w g l k) (hk : k < l.length) :
    FillM (((w.setCell ⟨g, k * 3, none⟩ (.int .i64 (Ix.nm l k))).setCell ⟨g, k * 3 + 1, none⟩ (.int .i64 (Ix.vr l k))).setCell ⟨g, k * 3 + 2, none⟩ (.int .i64 (Ix.sm l k))) g l (k + 1) := by
  obtain ⟨C, h1, h2, h3⟩ := h
  refine ⟨_, heapSet (heapSet (heapSet h1)), by simpa using h2, fun i hi => ?_⟩
  rcases Nat.lt_or_ge i k with hlt | hge
  · obtain ⟨a, b, c⟩ := h3 i hlt
    refine ⟨?_, ?_, ?_⟩
    · rw [Array.getElem?_setIfInBounds_ne (by omega), Array.getElem?_setIfInBounds_ne (by omega), Array.getElem?_setIfInBounds_ne (by omega)]; exact a
    · rw [Array.getElem?_setIfInBounds_ne (by omega), Array.getElem?_setIfInBounds_ne (by omega), Array.getElem?_setIfInBounds_ne (by omega)]; exact b
    · rw [Array.getElem?_setIfInBounds_ne (by omega), Array.getElem?_setIfInBounds_ne (by omega), Array.getElem?_setIfInBounds_ne (by omega)]; exact c
  · obtain rfl : i = k := by omega
    refine ⟨?_, ?_, ?_⟩
    · rw [Array.getElem?_setIfInBounds_ne (by omega), Array.getElem?_setIfInBounds_ne (by omega), Array.getElem?_setIfInBounds_self_of_lt (by omega)]
    · rw [Array.getElem?_setIfInBounds_ne (by omega), Array.getElem?_setIfInBounds_self_of_lt (by simp; omega)]
    · rw [Array.getElem?_setIfInBounds_self_of_lt (by simp; omega)]
theorem FillM.keep {w w' : World} {g k : Nat} {l : List Ix.M} (h : FillM w g l k) (hb : w'.heap[g]? = w.heap[g]?) : FillM w' g l k := by
  obtain ⟨C, h1, h2, h3⟩ := h
  exact ⟨C, hb.trans h1, h2, h3⟩
theorem FillM.later {w w' : World} {g k : Nat} {l : List Ix.M} (h : FillM w g l k) (hb : Below w.heap.size w w') : FillM w' g l k := by
  obtain ⟨C, h1, h2, h3⟩ := h
  exact ⟨C, (hb.block g (heapLt h1)).trans h1, h2, h3⟩
theorem FillM.trs {w : World} {g : Nat} {l : List Ix.M} (h : FillM w g l l.length) (hl : l.length ≤ 1048576) : Trs w (.slice (some ⟨g, 0, none⟩) l.length l.length) l := by
  obtain ⟨C, h1, h2, h3⟩ := h
  refine ⟨_, _, rfl, by omega, fun _ => ⟨g, 0, rfl, heapLt h1, fun i hi => ?_⟩⟩
  rw [Nat.zero_add, cellOf h1, cellOf h1, cellOf h1]
  exact h3 i hi

set_option maxHeartbeats 1000000 in
theorem toMeta_any (a b c : Int) (w : World) : Calls Tryz.prog 147 #[.agg #[.int .i64 a, .int .i64 b, .int .i64 c]] w fun e w' => e = .returned (.agg #[.int .i64 a, .int .i64 b, .int .i64 c]) ∧ Below w.heap.size w w' := by
  go_enter Tryz.func147, Tryz.ntmps147
  go_wp2
  exact bodyPost_ret (v := .agg #[.int .i64 a, .int .i64 b, .int .i64 c]) (by simp [results, Tryz.results147, go_sem]) rfl ⟨rfl, (((Below.refl _ _).alloc (Nat.le_refl _) _).alloc (by rw [sz1']; omega) _).alloc (by rw [sz1', sz1']; omega) _⟩

set_option maxHeartbeats 2000000 in
theorem toMetaS_fill (w : World) (v : Value) (l : List Ix.M) (h : Trs w v l) (hl : l.length ≤ 1048576) :
    Calls Tryz.prog 121 #[v] w fun e w' => e = .returned (.slice (some ⟨w.heap.size, 0, none⟩) l.length l.length) ∧ FillM w' w.heap.size l l.length ∧ Below w.heap.size w w' := by
  obtain ⟨a, cap, rfl, _, hrow⟩ := h
  obtain ⟨C, hC, hmk⟩ := mk_metas w l.length hl
  have hl' : (l.length : Int) ≤ 1048576 := by omega
  have HC0 := hide hC
  clear hC
  go_enter Tryz.func121, Tryz.ntmps121
  go_wp2
  go_loopw [4] (fun i w' => ∃ k : Nat, k ≤ l.length ∧ i = .int .i64 k ∧ Below w.heap.size w w' ∧ FillM w' w.heap.size l k) (fun i _ => l.length - (intOf i).toNat)
  case atStart => exact ⟨0, Nat.zero_le _, rfl, (Below.refl _ _).alloc (Nat.le_refl _) _, C, heap_alloc_new w _, unhide HC0, fun i hi => by omega⟩
  case round =>
    obtain ⟨k, hk, rfl, hw, hfill⟩ := hrel
    clear hmk
    by_cases hlt : k < l.length
    · obtain ⟨b, off, rfl, hb, hc⟩ := hrow (by omega)
      obtain ⟨c1, c2, c3⟩ := hc k hlt
      rw [← hw.cell hb] at c1 c2 c3
      have HW := hide hw
      have HF : Hid (FillM _ _ _ _) := hfill
      clear hc hrow hw hfill
      have hi0 : (0 : Int) ≤ (k : Int) := Int.natCast_nonneg _
      have hi1 : (k : Int) < (l.length : Int) := by omega
      go_wp2_with fail
      refine (toMeta_any _ _ _ _).mono ?_
      rintro e w1 ⟨rfl, hb1⟩
      have HF1 : Hid (FillM w1 w.heap.size l k) := by
        obtain ⟨C', h1, h2⟩ := unhide HF
        exact ⟨C', by rw [hb1.block _ (heapLt h1)]; exact h1, h2⟩
      have HW1 : Hid (Below w.heap.size w w1) := (unhide HW).trans (hb1.mono (unhide HW).size)
      obtain ⟨C', g1, g2, _⟩ := unhide HF1
      have d1 : w1.cell? ⟨w.heap.size, k * 3, none⟩ = some (C'[k * 3]'(by omega)) := by rw [cellOf g1]; exact Array.getElem?_eq_getElem _
      have d2 : w1.cell? ⟨w.heap.size, k * 3 + 1, none⟩ = some (C'[k * 3 + 1]'(by omega)) := by rw [cellOf g1]; exact Array.getElem?_eq_getElem _
      have d3 : w1.cell? ⟨w.heap.size, k * 3 + 2, none⟩ = some (C'[k * 3 + 2]'(by omega)) := by rw [cellOf g1]; exact Array.getElem?_eq_getElem _
      have f1 := frozenOf g1 (k * 3)
      have f2 := frozenOf g1 (k * 3 + 1)
      have f3 := frozenOf g1 (k * 3 + 2)
      generalize C'[k * 3]'(by omega) = y1 at d1
      generalize C'[k * 3 + 1]'(by omega) = y2 at d2
      generalize C'[k * 3 + 2]'(by omega) = y3 at d3
      clear hb1 HF HW g1 g2 c1 c2 c3
      go_wp2
      go_roundw
      case rel => exact ⟨k + 1, by omega, by go_num, (((unhide HW1).setCell (Nat.le_refl _) _).setCell (Nat.le_refl _) _).setCell (Nat.le_refl _) _, (unhide HF1).more hlt⟩
      case measure => simp [intOf]; omega
    · obtain rfl : k = l.length := by omega
      have HW := hide hw
      have HF : Hid (FillM _ _ _ _) := hfill
      clear hw hfill
      go_wp2
      go_ret
      exact ⟨rfl, unhide HF, unhide HW⟩
theorem toMetaS_any (w : World) (v : Value) (l : List Ix.M) (h : Trs w v l) (hl : l.length ≤ 1048576) :
    Calls Tryz.prog 121 #[v] w fun e w' => e = .returned (.slice (some ⟨w.heap.size, 0, none⟩) l.length l.length) ∧ Trs w' (.slice (some ⟨w.heap.size, 0, none⟩) l.length l.length) l ∧ Below w.heap.size w w' :=
  (toMetaS_fill w v l h hl).mono fun _ _ ⟨h1, h2, h3⟩ => ⟨h1, h2.trs hl, h3⟩

theorem Trs.keep {w w' : World} {g off n c : Nat} {l : List Ix.M} (h : Trs w (.slice (some ⟨g, off, none⟩) n c) l) (hb : w'.heap[g]? = w.heap[g]?) (hs : w.heap.size ≤ w'.heap.size) : Trs w' (.slice (some ⟨g, off, none⟩) n c) l := by
  obtain ⟨a, cap, hv, hl, hr⟩ := h
  refine ⟨a, cap, hv, hl, fun hp => ?_⟩
  obtain ⟨b, off', ha, hbs, hc⟩ := hr hp
  rw [ha] at hv
  injection hv with h1 _ _
  injection h1 with h1
  injection h1 with h1 h2 _
  rw [h1] at hb
  exact ⟨b, off', ha, Nat.lt_of_lt_of_le hbs hs, fun i hi => ⟨(World.cell?_of_block (a := ⟨b, off' + i * 3, none⟩) hb).trans (hc i hi).1, (World.cell?_of_block (a := ⟨b, off' + i * 3 + 1, none⟩) hb).trans (hc i hi).2.1, (World.cell?_of_block (a := ⟨b, off' + i * 3 + 2, none⟩) hb).trans (hc i hi).2.2⟩⟩

/-- Three new blocks. -/
theorem three3 (w : World) (o1 o2 o3 : Obj) : (((w.alloc o1).alloc o2).alloc o3).heap.size = w.heap.size + 3 ∧ (((w.alloc o1).alloc o2).alloc o3).heap[w.heap.size]? = some o1 ∧ (((w.alloc o1).alloc o2).alloc o3).heap[w.heap.size + 1]? = some o2 ∧ (((w.alloc o1).alloc o2).alloc o3).heap[w.heap.size + 1 + 1]? = some o3 ∧ Below w.heap.size w (((w.alloc o1).alloc o2).alloc o3) := by
  have old : ∀ (w : World) (o : Obj) (k : Nat), k < w.heap.size → (w.alloc o).heap[k]? = w.heap[k]? := fun w o k hk => Below.heap_alloc w o k hk
  have new : ∀ (w : World) (o : Obj) (k : Nat), k = w.heap.size → (w.alloc o).heap[k]? = some o := fun w o k hk => by rw [hk]; exact heap_alloc_new w o
  refine ⟨by rw [sz1', sz1', sz1'], ?_, ?_, ?_, (((Below.refl _ _).alloc (Nat.le_refl _) _).alloc (by rw [sz1']; omega) _).alloc (by rw [sz1', sz1']; omega) _⟩
  · rw [old _ _ _ (by rw [sz1', sz1']; omega), old _ _ _ (by rw [sz1']; omega), new _ _ _ rfl]
  · rw [old _ _ _ (by rw [sz1', sz1']; omega), new _ _ _ (by rw [sz1'])]
  · rw [new _ _ _ (by rw [sz1', sz1'])]

set_option maxHeartbeats 2000000 in
set_option maxRecDepth 100000 in
/-- toIndex: a copy. -/
theorem toIndex_fill (w : World) (n d : Int) (v : Value) (k : List Ix.M) (h : Trs w v k) (hl : k.length ≤ 1048576) :
    Calls Tryz.prog 69 #[.agg #[.int .i64 n, .int .i64 d, v]] w fun e w' => ∃ g, w.heap.size ≤ g ∧ e = .returned (.agg #[.int .i64 n, .int .i64 d, .slice (some ⟨g, 0, none⟩) k.length k.length]) ∧ FillM w' g k k.length ∧ Below w.heap.size w w' := by
  have HF : Hid (Trs _ _ _) := h
  obtain ⟨fa, fc, hfv⟩ := h.slice
  clear h
  subst hfv
  go_enter Tryz.func69, Tryz.ntmps69
  go_wp2_with fail
  obtain ⟨z0, hb0, hr0, ho0, hbel⟩ := three3 w (.cells #[.int .i64 n, .int .i64 d, .slice fa k.length fc] 61) (.cells #[.int .i64 0, .int .i64 0, .slice none 0 0] 28) (.cells #[.int .i64 n, .int .i64 d, .slice none 0 0] 28)
  refine (toMetaS_fill _ _ k ((unhide HF).later hbel) hl).mono ?_
  generalize ((w.alloc _).alloc _).alloc _ = W0 at *
  rintro e w1 ⟨rfl, hp1, hb1⟩
  have R1 := hb1.block _ (heapLt hr0)
  have O1 := hb1.block _ (heapLt ho0)
  rw [hr0] at R1
  rw [ho0] at O1
  have hbel1 : Below w.heap.size w w1 := hbel.trans (hb1.mono (by omega))
  have hz1 := hb1.size
  have P1 : Hid (FillM _ _ _ _) := hp1
  rw [z0] at hz1
  have o0 : w1.cell? ⟨w.heap.size + 1 + 1, 0, none⟩ = _ := cellOf O1 0
  have o1 : w1.cell? ⟨w.heap.size + 1 + 1, 1, none⟩ = _ := cellOf O1 1
  have o2 : w1.cell? ⟨w.heap.size + 1 + 1, 2, none⟩ = _ := cellOf O1 2
  have f2 := frozenOf O1 2
  have r0 : w1.cell? ⟨w.heap.size + 1, 0, none⟩ = _ := cellOf R1 0
  have r1 : w1.cell? ⟨w.heap.size + 1, 1, none⟩ = _ := cellOf R1 1
  have r2 : w1.cell? ⟨w.heap.size + 1, 2, none⟩ = _ := cellOf R1 2
  have s0 := frozenOf R1 0
  have s1 := frozenOf R1 1
  have s2 := frozenOf R1 2
  have RR1 := hide R1
  have HB1 := hide hbel1
  clear hb0 hr0 ho0 hbel hb1 R1 O1 hp1 hbel1
  generalize W0.heap.size = g1 at *
  have hg1 : w.heap.size + 1 + 1 < g1 := by omega
  clear W0 z0
  go_wp2
  obtain ⟨W5, hW5⟩ : ∃ W5, (((w1.setCell ⟨w.heap.size + 1 + 1, 2, none⟩ (.slice (some ⟨g1, 0, none⟩) k.length k.length)).setCell ⟨w.heap.size + 1, 0, none⟩ (.int .i64 n)).setCell ⟨w.heap.size + 1, 1, none⟩ (.int .i64 d)).setCell ⟨w.heap.size + 1, 2, none⟩ (.slice (some ⟨g1, 0, none⟩) k.length k.length) = W5 := ⟨_, rfl⟩
  have hR5 : W5.heap[w.heap.size + 1]? = some (.cells #[.int .i64 n, .int .i64 d, .slice (some ⟨g1, 0, none⟩) k.length k.length] 28 (0, 0)) := by
    have e0 : (w1.setCell ⟨w.heap.size + 1 + 1, 2, none⟩ (.slice (some ⟨g1, 0, none⟩) k.length k.length)).heap[w.heap.size + 1]? = _ := (Below.heap_setCell _ _ _ _ (by show w.heap.size + 1 ≠ w.heap.size + 1 + 1; omega)).trans (unhide RR1)
    rw [← hW5, heapSet (heapSet (heapSet e0))]
    rfl
  have far5 : ∀ j, j ≠ w.heap.size + 1 → j ≠ w.heap.size + 1 + 1 → W5.heap[j]? = w1.heap[j]? := fun j h1 h2 => by
    rw [← hW5, Below.heap_setCell _ _ _ _ h1, Below.heap_setCell _ _ _ _ h1, Below.heap_setCell _ _ _ _ h1, Below.heap_setCell _ _ _ _ h2]
  have hbe5 : Below w.heap.size w W5 := by
    rw [← hW5]
    exact ((((unhide HB1).setCell (by show w.heap.size ≤ w.heap.size + 1 + 1; omega) _).setCell (by show w.heap.size ≤ w.heap.size + 1; omega) _).setCell (by show w.heap.size ≤ w.heap.size + 1; omega) _).setCell (by show w.heap.size ≤ w.heap.size + 1; omega) _
  have q0 : W5.cell? ⟨w.heap.size + 1, 0, none⟩ = _ := cellOf hR5 0
  have q1 : W5.cell? ⟨w.heap.size + 1, 1, none⟩ = _ := cellOf hR5 1
  have q2 : W5.cell? ⟨w.heap.size + 1, 2, none⟩ = _ := cellOf hR5 2
  rw [hW5]
  exact bodyPost_ret (v := .agg #[.int .i64 n, .int .i64 d, .slice (some ⟨g1, 0, none⟩) k.length k.length]) (by simp [results, Tryz.results69, go_sem, q0, q1, q2]) rfl
    ⟨_, by omega, rfl, (unhide P1).keep (far5 g1 (by omega) (by omega)), hbe5⟩
/-- toIndex: a copy. -/
theorem toIndex_any (w : World) (n d : Int) (v : Value) (k : List Ix.M) (h : Trs w v k) (hl : k.length ≤ 1048576) :
    Calls Tryz.prog 69 #[.agg #[.int .i64 n, .int .i64 d, v]] w fun e w' => ∃ g, w.heap.size ≤ g ∧ e = .returned (.agg #[.int .i64 n, .int .i64 d, .slice (some ⟨g, 0, none⟩) k.length k.length]) ∧ Trs w' (.slice (some ⟨g, 0, none⟩) k.length k.length) k ∧ Below w.heap.size w w' :=
  (toIndex_fill w n d v k h hl).mono fun _ _ ⟨g, h1, h2, h3, h4⟩ => ⟨g, h1, h2, h3.trs hl, h4⟩

set_option maxHeartbeats 1000000 in
theorem szMetaS_any (w : World) (a : Option Addr) (n c : Nat) (left : Int) (h0 : 0 ≤ left) (h1 : left ≤ 1048576) (hn : n ≤ 9223372036854775807) :
    Calls Tryz.prog 117 #[.slice a n c, .int .i64 left] w fun e w' => ∃ r : Int, e = .returned (.int .i64 r) ∧ ((n : Int) ≤ left ∧ r = left - n ∨ left < (n : Int) ∧ r = -1) ∧ w' = w := by
  by_cases h : (n : Int) ≤ left
  · go_enter Tryz.func117, Tryz.ntmps117
    go_wp2
    go_ret
    exact ⟨left - n, rfl, Or.inl ⟨h, rfl⟩, rfl⟩
  · have h' : left - (n : Int) < 0 := by omega
    go_enter Tryz.func117, Tryz.ntmps117
    go_wp2
    go_ret
    exact ⟨-1, rfl, by omega, rfl⟩
set_option maxHeartbeats 1000000 in
theorem szIndex_any (w : World) (n d : Int) (a : Option Addr) (m c : Nat) (left : Int) (h0 : 0 ≤ left) (h1 : left ≤ 1048576) (hn : m ≤ 9223372036854775807) :
    Calls Tryz.prog 66 #[.agg #[.int .i64 n, .int .i64 d, .slice a m c], .int .i64 left] w fun e w' => ∃ r : Int, e = .returned (.int .i64 r) ∧ ((m : Int) ≤ left ∧ r = left - m ∨ left < (m : Int) ∧ r = -1) ∧ Below w.heap.size w w' := by
  have HB := hide (below1 w (.cells #[.int .i64 n, .int .i64 d, .slice a m c] 61))
  go_enter Tryz.func66, Tryz.ntmps66
  go_wp2_with fail
  refine (szMetaS_any _ a m c left h0 h1 hn).mono ?_
  rintro e w1 ⟨r, rfl, hr, rfl⟩
  rcases hr with ⟨hr1, rfl⟩ | ⟨hr1, rfl⟩
  · have hr0 : 0 ≤ left - (m : Int) := by omega
    go_wp2
    go_ret
    exact ⟨_, rfl, Or.inl ⟨hr1, rfl⟩, unhide HB⟩
  · go_wp2
    go_ret
    exact ⟨-1, rfl, Or.inr ⟨hr1, rfl⟩, unhide HB⟩
end Go.Proofs.YtlnieobmhofkdaaGreatDoor

/- What the laws' eqIndex returns: true of two indexes that read the same. -/
namespace Go.Proofs.YtlnieobmhofkdaaGreatDoor
open Go.RowKit

attribute [local go_sem ↓] Go.wp_at_zero Go.wp_at_succ

set_option maxHeartbeats 1000000 in
theorem eqMeta_any (a b c : Int) (w : World) : Calls Tryz.prog 152 #[.agg #[.int .i64 a, .int .i64 b, .int .i64 c], .agg #[.int .i64 a, .int .i64 b, .int .i64 c]] w fun e w' => e = .returned (.bool true) ∧ Below w.heap.size w w' := by
  have ha : (a != a) = false := by simp
  have hb : (b != b) = false := by simp
  have hc : (c != c) = false := by simp
  go_enter Tryz.func152, Tryz.ntmps152
  go_wp2
  go_ret
  exact ⟨rfl, ((Below.refl _ _).alloc (Nat.le_refl _) _).alloc (by rw [sz1']; omega) _⟩

set_option maxHeartbeats 2000000 in
theorem eqMetaS_any (w : World) (v v' : Value) (l : List Ix.M) (h : Trs w v l) (h' : Trs w v' l) :
    Calls Tryz.prog 127 #[v, v'] w fun e w' => e = .returned (.bool true) ∧ Below w.heap.size w w' := by
  obtain ⟨a, cap, rfl, hlen, hrow⟩ := h
  obtain ⟨a', cap', rfl, _, hrow'⟩ := h'
  have hne : ((l.length : Int) != (l.length : Int)) = false := by simp
  go_enter Tryz.func127, Tryz.ntmps127
  go_wp2
  go_loopw [5] (fun i w' => ∃ k : Nat, k ≤ l.length ∧ i = .int .i64 k ∧ Below w.heap.size w w') (fun i _ => l.length - (intOf i).toNat)
  case atStart => exact ⟨0, Nat.zero_le _, rfl, Below.refl _ _⟩
  case round =>
    obtain ⟨k, hk, rfl, hw⟩ := hrel
    have HW := hide hw
    by_cases hlt : k < l.length
    · obtain ⟨b, off, rfl, hb, hc⟩ := hrow (by omega)
      obtain ⟨b', off', rfl, hb', hc'⟩ := hrow' (by omega)
      obtain ⟨c1, c2, c3⟩ := hc k hlt
      obtain ⟨d1, d2, d3⟩ := hc' k hlt
      rw [← hw.cell hb] at c1 c2 c3
      rw [← hw.cell hb'] at d1 d2 d3
      have z1 : b < wr.heap.size := Nat.lt_of_lt_of_le hb hw.size
      have z2 : b' < wr.heap.size := Nat.lt_of_lt_of_le hb' hw.size
      clear hc hc' hrow hrow' hw
      have hi0 : (0 : Int) ≤ (k : Int) := Int.natCast_nonneg _
      have hi1 : (k : Int) < (l.length : Int) := by omega
      go_wp2_with fail
      go_region_held3 (fun w' => (w'.cell? ⟨b, off + k * 3, none⟩ = some (.int .i64 (Ix.nm l k)) ∧ w'.cell? ⟨b, off + k * 3 + 1, none⟩ = some (.int .i64 (Ix.vr l k)) ∧ w'.cell? ⟨b, off + k * 3 + 2, none⟩ = some (.int .i64 (Ix.sm l k))) ∧ w'.cell? ⟨b', off' + k * 3, none⟩ = some (.int .i64 (Ix.nm l k)) ∧ w'.cell? ⟨b', off' + k * 3 + 1, none⟩ = some (.int .i64 (Ix.vr l k)) ∧ w'.cell? ⟨b', off' + k * 3 + 2, none⟩ = some (.int .i64 (Ix.sm l k)))
        (first | (go_keep; done) | (go_split_ands; refine ⟨⟨?_, ?_, ?_⟩, ?_, ?_, ?_⟩ <;> (rw [hbn.cell (by simp; omega)]; assumption)) | fail)
        ((go_at_call 152; refine (eqMeta_any _ _ _ _).mono ?_; rintro e w3 ⟨rfl, hbn⟩))
      have HW3 : Hid (Below w.heap.size w w3) := (unhide HW).trans ((show Below wr.heap.size wr w3 from ⟨hbn.os, hbn.tape, hbn.output, hbn.size, hbn.block⟩).mono (unhide HW).size)
      clear hbn
      go_wp2
      go_roundw
      case rel => exact ⟨k + 1, by omega, by go_num, unhide HW3⟩
      case measure => simp [intOf]; omega
    · clear hw
      go_wp2
      go_ret
      exact ⟨rfl, unhide HW⟩

set_option maxHeartbeats 2000000 in
/-- eqIndex: true where both read the same. -/
theorem eqIndex_any (w : World) (n d : Int) (v v' : Value) (l : List Ix.M) (h : Trs w v l) (h' : Trs w v' l) :
    Calls Tryz.prog 73 #[.agg #[.int .i64 n, .int .i64 d, v], .agg #[.int .i64 n, .int .i64 d, v']] w fun e w' => e = .returned (.bool true) ∧ Below w.heap.size w w' := by
  have hn : (n != n) = false := by simp
  have hd : (d != d) = false := by simp
  have hbel : ∀ o1 o2 : Obj, Below w.heap.size w ((w.alloc o1).alloc o2) := fun o1 o2 => ((Below.refl _ _).alloc (Nat.le_refl _) _).alloc (by rw [sz1']; omega) _
  have HF : Hid (∀ o1 o2 : Obj, Trs ((w.alloc o1).alloc o2) v l) := fun o1 o2 => h.later (hbel o1 o2)
  have HF' : Hid (∀ o1 o2 : Obj, Trs ((w.alloc o1).alloc o2) v' l) := fun o1 o2 => h'.later (hbel o1 o2)
  have HB := hide hbel
  obtain ⟨fa, fc, e1⟩ := h.slice
  obtain ⟨fa', fc', e3⟩ := h'.slice
  subst e1 e3
  clear h h' hbel
  go_enter Tryz.func73, Tryz.ntmps73
  go_wp2_with fail
  refine (eqMetaS_any _ _ _ l (unhide HF _ _) (unhide HF' _ _)).mono ?_
  rintro e w1 ⟨rfl, hb1⟩
  have HB1 := hide ((unhide HB _ _).trans (hb1.mono (by rw [sz1', sz1']; omega)))
  clear hb1
  go_wp2
  go_ret
  exact ⟨rfl, unhide HB1⟩
end Go.Proofs.YtlnieobmhofkdaaGreatDoor

/- What laws.toTrust, szTrust and eqTrust return: a copy, a count, and true of the same. -/
namespace Go.Proofs.YtlnieobmhofkdaaGreatDoor
open Go.RowKit

theorem Ins.far {w w' : World} {g n c : Nat} {l : List Int} (h : Ins w (.slice (some ⟨g, 0, none⟩) n c) l) (hs : w.heap.size ≤ w'.heap.size) (hg : w'.heap[g]? = w.heap[g]?) : Ins w' (.slice (some ⟨g, 0, none⟩) n c) l := by
  obtain ⟨a, cap, e, hl, hr⟩ := h
  refine ⟨a, cap, e, hl, fun hp => ?_⟩
  obtain ⟨b, off, ha, hb, hc⟩ := hr hp
  injection e with e _ _
  rw [ha] at e
  injection e with e
  injection e with e1 e2 _
  subst e1
  exact ⟨g, off, ha, by omega, fun i hi => by rw [World.cell?_of_block hg]; exact hc i hi⟩
theorem Trs.far {w w' : World} {g n c : Nat} {l : List Ix.M} (h : Trs w (.slice (some ⟨g, 0, none⟩) n c) l) (hs : w.heap.size ≤ w'.heap.size) (hg : w'.heap[g]? = w.heap[g]?) : Trs w' (.slice (some ⟨g, 0, none⟩) n c) l := by
  obtain ⟨a, cap, e, hl, hr⟩ := h
  refine ⟨a, cap, e, hl, fun hp => ?_⟩
  obtain ⟨b, off, ha, hb, hc⟩ := hr hp
  injection e with e _ _
  rw [ha] at e
  injection e with e
  injection e with e1 e2 _
  subst e1
  have e : ∀ o, w'.cell? ⟨g, o, none⟩ = w.cell? ⟨g, o, none⟩ := fun o => World.cell?_of_block hg
  exact ⟨g, off, ha, by omega, fun i hi => by rw [e, e, e]; exact hc i hi⟩
theorem fin0123 {w w' : World} {X : Nat} {a0 b0 c0 d0 a b c d e f g : Value} {t : TypeId} (h : w.heap[X]? = some (.cells #[a0, b0, c0, d0, e, f, g] t (0, 0))) (hw : w' = (((w.setCell ⟨X, 0, none⟩ a).setCell ⟨X, 1, none⟩ b).setCell ⟨X, 2, none⟩ c).setCell ⟨X, 3, none⟩ d) :
    w'.heap[X]? = some (.cells #[a, b, c, d, e, f, g] t (0, 0)) ∧ (∀ k, k ≠ X → w'.heap[k]? = w.heap[k]?) ∧ w'.heap.size = w.heap.size ∧ w'.os = w.os ∧ w'.tape = w.tape ∧ w'.output = w.output := by
  refine ⟨by rw [hw, heapSet (heapSet (heapSet (heapSet h)))]; rfl, fun k hk => ?_, by rw [hw]; simp [World.setCell], by rw [hw]; simp [World.setCell], by rw [hw]; simp [World.setCell], by rw [hw]; simp [World.setCell]⟩
  rw [hw, Below.heap_setCell _ _ _ _ hk, Below.heap_setCell _ _ _ _ hk, Below.heap_setCell _ _ _ _ hk, Below.heap_setCell _ _ _ _ hk]
theorem fin456' {w w' : World} {X : Nat} {a b c d e0 f0 g0 e f g : Value} {t : TypeId} (h : w.heap[X]? = some (.cells #[a, b, c, d, e0, f0, g0] t (0, 0))) (hw : w' = ((w.setCell ⟨X, 4, none⟩ e).setCell ⟨X, 5, none⟩ f).setCell ⟨X, 6, none⟩ g) :
    w'.heap[X]? = some (.cells #[a, b, c, d, e, f, g] t (0, 0)) ∧ (∀ k, k ≠ X → w'.heap[k]? = w.heap[k]?) ∧ w'.heap.size = w.heap.size ∧ w'.os = w.os ∧ w'.tape = w.tape ∧ w'.output = w.output := by
  refine ⟨by rw [hw, heapSet (heapSet (heapSet h))]; rfl, fun k hk => ?_, by rw [hw]; simp [World.setCell], by rw [hw]; simp [World.setCell], by rw [hw]; simp [World.setCell], by rw [hw]; simp [World.setCell]⟩
  rw [hw, Below.heap_setCell _ _ _ _ hk, Below.heap_setCell _ _ _ _ hk, Below.heap_setCell _ _ _ _ hk]

set_option maxHeartbeats 4000000 in
set_option maxRecDepth 100000 in
theorem toTrust_fill (w : World) (t : Tr.T) (kv mv : Value) (hk : Ins w kv t.ks) (hm : Trs w mv t.ms) (hlk : t.ks.length ≤ 1048576) (hlm : t.ms.length ≤ 1048576) :
    Calls Tryz.prog 27 #[tvT t kv mv] w fun e w' => ∃ g1 g2, w.heap.size ≤ g1 ∧ w.heap.size ≤ g2 ∧ e = .returned (tvT t (.slice (some ⟨g1, 0, none⟩) t.ks.length t.ks.length) (.slice (some ⟨g2, 0, none⟩) t.ms.length t.ms.length)) ∧ FillI w' g1 t.ks t.ks.length ∧ FillM w' g2 t.ms t.ms.length ∧ Below w.heap.size w w' := by
  obtain ⟨n, ks, d, has, num, til, ms⟩ := t
  dsimp only [tvT, tv] at *
  obtain ⟨ka, kc, e1⟩ := hk.slice
  obtain ⟨ma, mc, e2⟩ := hm.slice
  subst e1 e2
  obtain ⟨B2, x2, r2, o2⟩ := three_boxesT w (.cells #[.int .i64 n, .slice ka ks.length kc, .int .i64 d, .bool has, .int .i64 num, .int .i64 til, .slice ma ms.length mc] 63) (.cells #[.int .i64 0, .slice none 0 0, .int .i64 0, .bool false, .int .i64 0, .int .i64 0, .slice none 0 0] 30) (.cells #[.int .i64 0, .slice none 0 0, .int .i64 0, .bool false, .int .i64 0, .int .i64 0, .slice none 0 0] 30)
  have H2 := hide (And.intro B2 (And.intro x2 (And.intro r2 o2)))
  have ENT := hide (And.intro hk hm)
  clear B2 x2 r2 o2 hk hm
  go_enter Tryz.func27, Tryz.ntmps27
  go_wp2_with fail
  refine (toRoot_fill _ n d _ ks ((unhide ENT).1.later (unhide H2).1) hlk).mono ?_
  generalize World.alloc _ _ = W2 at *
  rintro e w3 ⟨g3, hg3, rfl, i3, b3⟩
  have x3 := (b3.block _ (heapLt (unhide H2).2.1)).trans (unhide H2).2.1
  have r3 := (b3.block _ (heapLt (unhide H2).2.2.1)).trans (unhide H2).2.2.1
  have o3 := (b3.block _ (heapLt (unhide H2).2.2.2)).trans (unhide H2).2.2.2
  have B3 := (unhide H2).1.trans (b3.mono (unhide H2).1.size)
  have hgo : w.heap.size + 1 + 1 < g3 := by have := heapLt (unhide H2).2.2.2; omega
  obtain ⟨o4, hf4, hs4, ho4, ht4, hp4⟩ := fin0123 (a := .int .i64 n) (b := .slice (some ⟨g3, 0, none⟩) ks.length ks.length) (c := .int .i64 d) (d := .bool has) o3 rfl
  have B4 := below_far B3 (by omega : w.heap.size ≤ w.heap.size + 1 + 1) hf4 hs4 ho4 ht4 hp4
  have x4 := (hf4 w.heap.size (by omega)).trans x3
  have r4 := (hf4 (w.heap.size + 1) (by omega)).trans r3
  have i4 := i3.keep (hf4 g3 (by omega))
  have H4 := hide (And.intro B4 (And.intro x4 (And.intro r4 (And.intro o4 i4))))
  obtain ⟨x0, x1, x2, x3', x4', x5, x6⟩ := box7 x3
  obtain ⟨y0, y1, y2, y3, y4, y5, y6⟩ := box7 o3
  obtain ⟨f0, f1, f2, f3, f4, f5, f6⟩ := frz7 o3
  have hne : w.heap.size ≠ w.heap.size + 1 + 1 := by omega
  have hne' : w.heap.size + 1 + 1 ≠ w.heap.size := by omega
  clear x3 r3 o3 B3 B4 x4 r4 o4 i4 hf4 hs4 ho4 ht4 hp4 i3 b3 hg3 H2
  go_wp2_with fail
  refine (toIndex_fill _ num til _ ms ((unhide ENT).2.later (unhide H4).1) hlm).mono ?_
  clear x0 x1 x2 x3' x4' x5 x6 y0 y1 y2 y3 y4 y5 y6 f0 f1 f2 f3 f4 f5 f6
  generalize World.setCell _ _ _ = w4 at *
  rintro e w5 ⟨g5, hg5, rfl, j5, b5⟩
  have o5 := (b5.block _ (heapLt (unhide H4).2.2.2.1)).trans (unhide H4).2.2.2.1
  have r5 := (b5.block _ (heapLt (unhide H4).2.2.1)).trans (unhide H4).2.2.1
  have B5 := (unhide H4).1.trans (b5.mono (unhide H4).1.size)
  have i5 := (unhide H4).2.2.2.2.later b5
  have hgo5 : w.heap.size + 1 + 1 < g5 := by have := heapLt (unhide H4).2.2.2.1; omega
  obtain ⟨o6, hf6, hs6, ho6, ht6, hp6⟩ := fin456' (e := .int .i64 num) (f := .int .i64 til) (g := .slice (some ⟨g5, 0, none⟩) ms.length ms.length) o5 rfl
  have B6 := below_far B5 (by omega : w.heap.size ≤ w.heap.size + 1 + 1) hf6 hs6 ho6 ht6 hp6
  have r6 := (hf6 (w.heap.size + 1) (by omega)).trans r5
  have i6 := i5.keep (hf6 g3 (by omega))
  have j6 := j5.keep (hf6 g5 (by omega))
  have H6 := hide (And.intro B6 (And.intro r6 (And.intro i6 j6)))
  obtain ⟨y0, y1, y2, y3, y4, y5, y6⟩ := box7 o5
  obtain ⟨f0, f1, f2, f3, f4, f5, f6⟩ := frz7 o5
  obtain ⟨z0, z1, z2, z3, z4, z5, z6⟩ := box7 r5
  obtain ⟨k0, k1, k2, k3, k4, k5, k6⟩ := frz7 r5
  have hn1 : w.heap.size + 1 ≠ w.heap.size + 1 + 1 := by omega
  have hn2 : w.heap.size + 1 + 1 ≠ w.heap.size + 1 := by omega
  clear o5 r5 B5 i5 o6 hf6 hs6 ho6 ht6 hp6 B6 r6 i6 j6 j5 b5 hg5 H4
  go_wp2
  obtain ⟨hR, hfar, hsz, ho, ht, hp⟩ := fin7 (a := .int .i64 n) (b := .slice (some ⟨g3, 0, none⟩) ks.length ks.length) (c := .int .i64 d) (d := .bool has) (e := .int .i64 num) (f := .int .i64 til) (g := .slice (some ⟨g5, 0, none⟩) ms.length ms.length) (unhide H6).2.1 rfl
  obtain ⟨q0, q1, q2, q3, q4, q5, q6⟩ := box7 hR
  exact bodyPost_ret (v := .agg #[.int .i64 n, .slice (some ⟨g3, 0, none⟩) ks.length ks.length, .int .i64 d, .bool has, .int .i64 num, .int .i64 til, .slice (some ⟨g5, 0, none⟩) ms.length ms.length]) (by simp [results, Tryz.results27, go_sem, q0, q1, q2, q3, q4, q5, q6]) rfl ⟨g3, g5, by omega, by omega, rfl, (unhide H6).2.2.1.keep (hfar g3 (by omega)), (unhide H6).2.2.2.keep (hfar g5 (by omega)), below_far (unhide H6).1 (by omega) hfar hsz ho ht hp⟩
theorem toTrust_any (w : World) (t : Tr.T) (kv mv : Value) (hk : Ins w kv t.ks) (hm : Trs w mv t.ms) (hlk : t.ks.length ≤ 1048576) (hlm : t.ms.length ≤ 1048576) :
    Calls Tryz.prog 27 #[tvT t kv mv] w fun e w' => ∃ kv' mv', e = .returned (tvT t kv' mv') ∧ Ins w' kv' t.ks ∧ Trs w' mv' t.ms ∧ Below w.heap.size w w' :=
  (toTrust_fill w t kv mv hk hm hlk hlm).mono fun _ _ ⟨_, _, _, _, h1, h2, h3, h4⟩ => ⟨_, _, h1, h2.ins hlk, h3.trs hlm, h4⟩

set_option maxHeartbeats 2000000 in
set_option maxRecDepth 100000 in
theorem eqTrust_any (w : World) (t : Tr.T) (k1 m1 k2 m2 : Value) (hk1 : Ins w k1 t.ks) (hm1 : Trs w m1 t.ms) (hk2 : Ins w k2 t.ks) (hm2 : Trs w m2 t.ms) :
    Calls Tryz.prog 30 #[tvT t k1 m1, tvT t k2 m2] w fun e w' => e = .returned (.bool true) ∧ Below w.heap.size w w' := by
  obtain ⟨n, ks, d, has, num, til, ms⟩ := t
  dsimp only [tvT, tv] at *
  obtain ⟨a1, c1, e1⟩ := hk1.slice
  obtain ⟨a2, c2, e2⟩ := hm1.slice
  obtain ⟨a3, c3, e3⟩ := hk2.slice
  obtain ⟨a4, c4, e4⟩ := hm2.slice
  subst e1 e2 e3 e4
  obtain ⟨B2, x2, y2⟩ := two_boxesT w (.cells #[.int .i64 n, .slice a1 ks.length c1, .int .i64 d, .bool has, .int .i64 num, .int .i64 til, .slice a2 ms.length c2] 30) (.cells #[.int .i64 n, .slice a3 ks.length c3, .int .i64 d, .bool has, .int .i64 num, .int .i64 til, .slice a4 ms.length c4] 30)
  have H2 := hide (And.intro B2 (And.intro x2 (And.intro y2 (And.intro (And.intro (hk1.later B2) (hm1.later B2)) (And.intro (hk2.later B2) (hm2.later B2))))))
  clear B2 x2 y2 hk1 hm1 hk2 hm2
  have hh : (has != has) = false := by simp
  go_enter Tryz.func30, Tryz.ntmps30
  go_wp2_with fail
  refine (eqRoot_any _ n d _ _ ks (unhide H2).2.2.2.1.1 (unhide H2).2.2.2.2.1).mono ?_
  generalize World.alloc _ _ = W2 at *
  rintro e w3 ⟨rfl, b3⟩
  have x3 := (b3.block _ (heapLt (unhide H2).2.1)).trans (unhide H2).2.1
  have y3 := (b3.block _ (heapLt (unhide H2).2.2.1)).trans (unhide H2).2.2.1
  have T3 := hide (And.intro ((unhide H2).2.2.2.1.2.later b3) ((unhide H2).2.2.2.2.2.later b3))
  have B3 := hide ((unhide H2).1.trans (b3.mono (unhide H2).1.size))
  obtain ⟨p0, p1, p2, p3, p4, p5, p6⟩ := box7 x3
  obtain ⟨q0, q1, q2, q3, q4, q5, q6⟩ := box7 y3
  clear x3 y3 b3 H2
  go_wp2_with fail
  refine (eqIndex_any _ num til _ _ ms (unhide T3).1 (unhide T3).2).mono ?_
  rintro e w4 ⟨rfl, b4⟩
  have B4 := hide ((unhide B3).trans (b4.mono (unhide B3).size))
  clear b4
  go_wp2
  go_ret
  exact ⟨rfl, unhide B4⟩

set_option maxHeartbeats 2000000 in
set_option maxRecDepth 100000 in
theorem szTrust_any (w : World) (n d : Int) (a : Option Addr) (m c : Nat) (has : Bool) (num til : Int) (a2 : Option Addr) (m2 c2 : Nat) (left : Int) (h0 : 0 ≤ left) (h1 : left ≤ 1048576) (hn : m ≤ 9223372036854775807) (hn2 : m2 ≤ 9223372036854775807) :
    Calls Tryz.prog 25 #[.agg #[.int .i64 n, .slice a m c, .int .i64 d, .bool has, .int .i64 num, .int .i64 til, .slice a2 m2 c2], .int .i64 left] w fun e w' => Below w.heap.size w w' ∧ ((m ≤ 1048576 ∧ m2 ≤ 1048576 ∧ ∃ r : Int, e = .returned (.int .i64 r) ∧ 0 ≤ r ∧ r ≤ left) ∨ e = .returned (.int .i64 (-1))) := by
  have B1 := below1 w (.cells #[.int .i64 n, .slice a m c, .int .i64 d, .bool has, .int .i64 num, .int .i64 til, .slice a2 m2 c2] 63)
  have x1 := heap_alloc_new w (.cells #[.int .i64 n, .slice a m c, .int .i64 d, .bool has, .int .i64 num, .int .i64 til, .slice a2 m2 c2] 63)
  have H1 := hide (And.intro B1 x1)
  clear B1 x1
  go_enter Tryz.func25, Tryz.ntmps25
  go_wp2_with fail
  refine (szRoot_any _ n d a m c left h0 h1 hn).mono ?_
  generalize w.alloc _ = W1 at *
  rintro e w2 ⟨b2, ⟨hm, r, rfl, r0, r1⟩ | rfl⟩
  · have x2 := (b2.block _ (heapLt (unhide H1).2)).trans (unhide H1).2
    have B2 := hide ((unhide H1).1.trans (b2.mono (unhide H1).1.size))
    obtain ⟨p0, p1, p2, p3, p4, p5, p6⟩ := box7 x2
    clear x2 b2 H1
    go_wp2_with fail
    refine (szIndex_any _ num til a2 m2 c2 r r0 (by omega) hn2).mono ?_
    rintro e w3 ⟨r', rfl, hr', b3⟩
    have B3 := hide ((unhide B2).trans (b3.mono (unhide B2).size))
    clear b3 B2 p0 p1 p2 p3 p4 p5 p6
    rcases hr' with ⟨hle, rfl⟩ | ⟨hgt, rfl⟩
    · have hpos : ¬ r - (m2 : Int) < 0 := by omega
      go_wp2
      go_ret
      exact ⟨unhide B3, .inl ⟨hm, by omega, _, rfl, by omega, by omega⟩⟩
    · go_wp2
      go_ret
      exact ⟨unhide B3, .inr rfl⟩
  · have B2 := hide ((unhide H1).1.trans (b2.mono (unhide H1).1.size))
    clear b2 H1
    go_wp2
    go_ret
    exact ⟨unhide B2, .inr rfl⟩
end Go.Proofs.YtlnieobmhofkdaaGreatDoor
