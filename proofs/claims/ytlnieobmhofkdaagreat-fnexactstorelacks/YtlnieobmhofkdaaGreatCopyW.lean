import Derived.Test.YtlnieobmhofkdaaGreatMix0
import Derived.Laws.MakeOwn
/- What the laws' own helpers return: szPkg how much is left, toPkg a copy of the package in memory of its own, eqPkg whether two packages are the same. -/
namespace Go.Proofs.YtlnieobmhofkdaaGreat
open Go.RowKit

theorem infoF : (Tryz.prog.info? 96).map (fun i => (i.zero, i.size, i.bytes)) = some (some (.agg #[.int .i64 0, .int .i64 0]), 2, 16) := by kernel_rfl
theorem infoD : (Tryz.prog.info? 98).map (fun i => (i.zero, i.size, i.bytes)) = some (some (.agg #[.int .i64 0, .int .i64 0]), 2, 16) := by kernel_rfl


/-- A new row of n pairs. -/
theorem mk_row (t e : TypeId) (hi : (Tryz.prog.info? e).map (fun i => (i.zero, i.size, i.bytes)) = some (some (.agg #[.int .i64 0, .int .i64 0]), 2, 16)) (ht : Tryz.prog.underlying t = some (.slice e)) (w : World) (n : Nat) (hn : n ≤ 1048576) :
    ∃ C : Array Value, C.size = n * 2 ∧ (Instr.makeSlice t (.int .i64 (n : Int)) (.int .i64 (n : Int))).run Tryz.prog w = .ok (.slice (some ⟨w.heap.size, 0, none⟩) n n) (w.alloc (.cells C e)) := by
  obtain ⟨i, hi0, hz0, hz1, hz2⟩ := info_parts hi
  have h := run_make (P := Tryz.prog) w t e i (.agg #[.int .i64 0, .int .i64 0]) ht hi0 hz0 .i64 .i64 (n : Int) (n : Int) (by omega) (Int.le_refl _) (by rw [hz2]; omega) (by omega)
  rw [hz1] at h
  simp only [Int.toNat_natCast] at h
  exact ⟨_, size_madeCells _ _, h⟩

/-- The row that is filled: the first k pairs are there. -/
def Fill (w : World) (g : Nat) (t : TypeId) (l : List (Int × Int)) (k : Nat) : Prop :=
  ∃ C : Array Value, w.heap[g]? = some (.cells C t (0, 0)) ∧ C.size = l.length * 2 ∧ ∀ i, i < k → C[i * 2]? = some (.int .i64 (Pk.fst l i)) ∧ C[i * 2 + 1]? = some (.int .i64 (Pk.snd l i))

theorem Fill.more {w : World} {g : Nat} {t : TypeId} {l : List (Int × Int)} {k : Nat} (h : Fill w g t l k) (hk : k < l.length) :
    Fill ((w.setCell ⟨g, k * 2, none⟩ (.int .i64 (Pk.fst l k))).setCell ⟨g, k * 2 + 1, none⟩ (.int .i64 (Pk.snd l k))) g t l (k + 1) := by
  obtain ⟨C, h1, h2, h3⟩ := h
  refine ⟨_, heapSet (heapSet h1), by simpa using h2, fun i hi => ?_⟩
  rcases Nat.lt_or_ge i k with hlt | hge
  · obtain ⟨a, b⟩ := h3 i hlt
    rw [Array.getElem?_setIfInBounds_ne (by omega), Array.getElem?_setIfInBounds_ne (by omega), Array.getElem?_setIfInBounds_ne (by omega), Array.getElem?_setIfInBounds_ne (by omega)]
    exact ⟨a, b⟩
  · obtain rfl : i = k := by omega
    rw [Array.getElem?_setIfInBounds_ne (by omega), Array.getElem?_setIfInBounds_self_of_lt (by omega), Array.getElem?_setIfInBounds_self_of_lt (by simp; omega)]
    exact ⟨rfl, rfl⟩

theorem Fill.keep {w w' : World} {g : Nat} {t : TypeId} {l : List (Int × Int)} {k : Nat} (h : Fill w g t l k) (hb : w'.heap[g]? = w.heap[g]?) : Fill w' g t l k := by
  obtain ⟨C, h1, h2⟩ := h
  exact ⟨C, hb.trans h1, h2⟩
theorem Fill.later {w w' : World} {g : Nat} {t : TypeId} {l : List (Int × Int)} {k : Nat} (h : Fill w g t l k) (hb : Below w.heap.size w w') : Fill w' g t l k := by
  obtain ⟨C, h1, h2⟩ := h
  exact ⟨C, (hb.block _ (heapLt h1)).trans h1, h2⟩
theorem Fill.prs {w : World} {g : Nat} {t : TypeId} {l : List (Int × Int)} (h : Fill w g t l l.length) (hl : l.length ≤ 1048576) : Prs w (.slice (some ⟨g, 0, none⟩) l.length l.length) l := by
  obtain ⟨C, h1, h2, h3⟩ := h
  refine ⟨_, _, rfl, by omega, fun _ => ⟨g, 0, rfl, heapLt h1, fun i hi => ?_⟩⟩
  obtain ⟨a, b⟩ := h3 i hi
  rw [Nat.zero_add, cellOf h1, cellOf h1]
  exact ⟨a, b⟩


set_option maxHeartbeats 1000000 in
theorem toFile_any (a b : Int) (w : World) : Calls Tryz.prog 75 #[.agg #[.int .i64 a, .int .i64 b]] w fun e w' => e = .returned (.agg #[.int .i64 a, .int .i64 b]) ∧ Below w.heap.size w w' := by
  go_enter Tryz.func75, Tryz.ntmps75
  go_wp2
  exact bodyPost_ret (v := .agg #[.int .i64 a, .int .i64 b]) (by simp [results, Tryz.results75, go_sem]) rfl ⟨rfl, (((Below.refl _ _).alloc (Nat.le_refl _) _).alloc (by rw [sz1']; omega) _).alloc (by rw [sz1', sz1']; omega) _⟩

set_option maxHeartbeats 2000000 in
theorem toFileS_fill (w : World) (v : Value) (l : List (Int × Int)) (h : Prs w v l) (hl : l.length ≤ 1048576) :
    Calls Tryz.prog 53 #[v] w fun e w' => e = .returned (.slice (some ⟨w.heap.size, 0, none⟩) l.length l.length) ∧ Fill w' w.heap.size 96 l l.length ∧ Below w.heap.size w w' := by
  obtain ⟨a, cap, rfl, _, hrow⟩ := h
  obtain ⟨C, hC, hmk⟩ := mk_row 64 96 infoF Tryz.underlying64 w l.length hl
  have hl' : (l.length : Int) ≤ 1048576 := by omega
  have HC0 := hide hC
  clear hC
  go_enter Tryz.func53, Tryz.ntmps53
  go_wp2
  go_loopw [4] (fun i w' => ∃ k : Nat, k ≤ l.length ∧ i = .int .i64 k ∧ Below w.heap.size w w' ∧ Fill w' w.heap.size 96 l k) (fun i _ => l.length - (intOf i).toNat)
  case atStart => exact ⟨0, Nat.zero_le _, rfl, (Below.refl _ _).alloc (Nat.le_refl _) _, C, heap_alloc_new w _, unhide HC0, fun i hi => by omega⟩
  case round =>
    obtain ⟨k, hk, rfl, hw, hfill⟩ := hrel
    clear hmk
    by_cases hlt : k < l.length
    · obtain ⟨b, off, rfl, hb, hc⟩ := hrow (by omega)
      obtain ⟨c1, c2⟩ := hc k hlt
      rw [← hw.cell hb] at c1 c2
      have HW := hide hw
      have HF : Hid (Fill _ _ _ _ _) := hfill
      clear hc hrow hw hfill
      have hi0 : (0 : Int) ≤ (k : Int) := Int.natCast_nonneg _
      have hi1 : (k : Int) < (l.length : Int) := by omega
      go_wp2_with fail
      refine (toFile_any _ _ _).mono ?_
      rintro e w1 ⟨rfl, hb1⟩
      have HF1 : Hid (Fill w1 w.heap.size 96 l k) := by
        obtain ⟨C', h1, h2⟩ := unhide HF
        exact ⟨C', by rw [hb1.block _ (heapLt h1)]; exact h1, h2⟩
      have HW1 : Hid (Below w.heap.size w w1) := (unhide HW).trans (hb1.mono (unhide HW).size)
      obtain ⟨C', g1, g2, _⟩ := unhide HF1
      have d1 : w1.cell? ⟨w.heap.size, k * 2, none⟩ = some (C'[k * 2]'(by omega)) := by rw [cellOf g1]; exact Array.getElem?_eq_getElem _
      have d2 : w1.cell? ⟨w.heap.size, k * 2 + 1, none⟩ = some (C'[k * 2 + 1]'(by omega)) := by rw [cellOf g1]; exact Array.getElem?_eq_getElem _
      have f1 := frozenOf g1 (k * 2)
      have f2 := frozenOf g1 (k * 2 + 1)
      generalize C'[k * 2]'(by omega) = y1 at d1
      generalize C'[k * 2 + 1]'(by omega) = y2 at d2
      clear hb1 HF HW g1 g2 c1 c2
      go_wp2
      go_roundw
      case rel => exact ⟨k + 1, by omega, by go_num, ((unhide HW1).setCell (Nat.le_refl _) _).setCell (Nat.le_refl _) _, (unhide HF1).more hlt⟩
      case measure => simp [intOf]; omega
    · obtain rfl : k = l.length := by omega
      have HW := hide hw
      have HF : Hid (Fill _ _ _ _ _) := hfill
      clear hw hfill
      go_wp2
      go_ret
      exact ⟨rfl, unhide HF, unhide HW⟩
set_option maxHeartbeats 1000000 in
theorem toDep_any (a b : Int) (w : World) : Calls Tryz.prog 76 #[.agg #[.int .i64 a, .int .i64 b]] w fun e w' => e = .returned (.agg #[.int .i64 a, .int .i64 b]) ∧ Below w.heap.size w w' := by
  go_enter Tryz.func76, Tryz.ntmps76
  go_wp2
  exact bodyPost_ret (v := .agg #[.int .i64 a, .int .i64 b]) (by simp [results, Tryz.results76, go_sem]) rfl ⟨rfl, (((Below.refl _ _).alloc (Nat.le_refl _) _).alloc (by rw [sz1']; omega) _).alloc (by rw [sz1', sz1']; omega) _⟩

set_option maxHeartbeats 2000000 in
theorem toDepS_fill (w : World) (v : Value) (l : List (Int × Int)) (h : Prs w v l) (hl : l.length ≤ 1048576) :
    Calls Tryz.prog 54 #[v] w fun e w' => e = .returned (.slice (some ⟨w.heap.size, 0, none⟩) l.length l.length) ∧ Fill w' w.heap.size 98 l l.length ∧ Below w.heap.size w w' := by
  obtain ⟨a, cap, rfl, _, hrow⟩ := h
  obtain ⟨C, hC, hmk⟩ := mk_row 65 98 infoD Tryz.underlying65 w l.length hl
  have hl' : (l.length : Int) ≤ 1048576 := by omega
  have HC0 := hide hC
  clear hC
  go_enter Tryz.func54, Tryz.ntmps54
  go_wp2
  go_loopw [4] (fun i w' => ∃ k : Nat, k ≤ l.length ∧ i = .int .i64 k ∧ Below w.heap.size w w' ∧ Fill w' w.heap.size 98 l k) (fun i _ => l.length - (intOf i).toNat)
  case atStart => exact ⟨0, Nat.zero_le _, rfl, (Below.refl _ _).alloc (Nat.le_refl _) _, C, heap_alloc_new w _, unhide HC0, fun i hi => by omega⟩
  case round =>
    obtain ⟨k, hk, rfl, hw, hfill⟩ := hrel
    clear hmk
    by_cases hlt : k < l.length
    · obtain ⟨b, off, rfl, hb, hc⟩ := hrow (by omega)
      obtain ⟨c1, c2⟩ := hc k hlt
      rw [← hw.cell hb] at c1 c2
      have HW := hide hw
      have HF : Hid (Fill _ _ _ _ _) := hfill
      clear hc hrow hw hfill
      have hi0 : (0 : Int) ≤ (k : Int) := Int.natCast_nonneg _
      have hi1 : (k : Int) < (l.length : Int) := by omega
      go_wp2_with fail
      refine (toDep_any _ _ _).mono ?_
      rintro e w1 ⟨rfl, hb1⟩
      have HF1 : Hid (Fill w1 w.heap.size 98 l k) := by
        obtain ⟨C', h1, h2⟩ := unhide HF
        exact ⟨C', by rw [hb1.block _ (heapLt h1)]; exact h1, h2⟩
      have HW1 : Hid (Below w.heap.size w w1) := (unhide HW).trans (hb1.mono (unhide HW).size)
      obtain ⟨C', g1, g2, _⟩ := unhide HF1
      have d1 : w1.cell? ⟨w.heap.size, k * 2, none⟩ = some (C'[k * 2]'(by omega)) := by rw [cellOf g1]; exact Array.getElem?_eq_getElem _
      have d2 : w1.cell? ⟨w.heap.size, k * 2 + 1, none⟩ = some (C'[k * 2 + 1]'(by omega)) := by rw [cellOf g1]; exact Array.getElem?_eq_getElem _
      have f1 := frozenOf g1 (k * 2)
      have f2 := frozenOf g1 (k * 2 + 1)
      generalize C'[k * 2]'(by omega) = y1 at d1
      generalize C'[k * 2 + 1]'(by omega) = y2 at d2
      clear hb1 HF HW g1 g2 c1 c2
      go_wp2
      go_roundw
      case rel => exact ⟨k + 1, by omega, by go_num, ((unhide HW1).setCell (Nat.le_refl _) _).setCell (Nat.le_refl _) _, (unhide HF1).more hlt⟩
      case measure => simp [intOf]; omega
    · obtain rfl : k = l.length := by omega
      have HW := hide hw
      have HF : Hid (Fill _ _ _ _ _) := hfill
      clear hw hfill
      go_wp2
      go_ret
      exact ⟨rfl, unhide HF, unhide HW⟩

theorem Prs.keep {w w' : World} {g off n c : Nat} {l : List (Int × Int)} (h : Prs w (.slice (some ⟨g, off, none⟩) n c) l) (hb : w'.heap[g]? = w.heap[g]?) (hs : w.heap.size ≤ w'.heap.size) : Prs w' (.slice (some ⟨g, off, none⟩) n c) l := by
  obtain ⟨a, cap, hv, hl, hr⟩ := h
  refine ⟨a, cap, hv, hl, fun hp => ?_⟩
  obtain ⟨b, off', ha, hbs, hc⟩ := hr hp
  rw [ha] at hv
  injection hv with h1 _ _
  injection h1 with h1
  injection h1 with h1 h2 _
  rw [h1] at hb
  exact ⟨b, off', ha, Nat.lt_of_lt_of_le hbs hs, fun i hi => ⟨(World.cell?_of_block (a := ⟨b, off' + i * 2, none⟩) hb).trans (hc i hi).1, (World.cell?_of_block (a := ⟨b, off' + i * 2 + 1, none⟩) hb).trans (hc i hi).2⟩⟩

/-- Three new blocks. -/
theorem three (w : World) (o1 o2 o3 : Obj) : (((w.alloc o1).alloc o2).alloc o3).heap.size = w.heap.size + 3 ∧ (((w.alloc o1).alloc o2).alloc o3).heap[w.heap.size]? = some o1 ∧ (((w.alloc o1).alloc o2).alloc o3).heap[w.heap.size + 1]? = some o2 ∧ (((w.alloc o1).alloc o2).alloc o3).heap[w.heap.size + 1 + 1]? = some o3 ∧ Below w.heap.size w (((w.alloc o1).alloc o2).alloc o3) := by
  have old : ∀ (w : World) (o : Obj) (k : Nat), k < w.heap.size → (w.alloc o).heap[k]? = w.heap[k]? := fun w o k hk => Below.heap_alloc w o k hk
  have new : ∀ (w : World) (o : Obj) (k : Nat), k = w.heap.size → (w.alloc o).heap[k]? = some o := fun w o k hk => by rw [hk]; exact heap_alloc_new w o
  refine ⟨by rw [sz1', sz1', sz1'], ?_, ?_, ?_, (((Below.refl _ _).alloc (Nat.le_refl _) _).alloc (by rw [sz1']; omega) _).alloc (by rw [sz1', sz1']; omega) _⟩
  · rw [old _ _ _ (by rw [sz1', sz1']; omega), old _ _ _ (by rw [sz1']; omega), new _ _ _ rfl]
  · rw [old _ _ _ (by rw [sz1', sz1']; omega), new _ _ _ (by rw [sz1'])]
  · rw [new _ _ _ (by rw [sz1', sz1'])]

set_option maxHeartbeats 2000000 in
set_option maxRecDepth 100000 in
/-- toPkg: a copy. -/
theorem toPkg_fill (w : World) (nm vr : Int) (fv dv : Value) (fs ds : List (Int × Int)) (hf : Prs w fv fs) (hd : Prs w dv ds) (hfl : fs.length ≤ 1048576) (hdl : ds.length ≤ 1048576) :
    Calls Tryz.prog 27 #[.agg #[.int .i64 nm, .int .i64 vr, fv, dv]] w fun e w' => ∃ g1 g2, w.heap.size ≤ g1 ∧ w.heap.size ≤ g2 ∧ e = .returned (.agg #[.int .i64 nm, .int .i64 vr, .slice (some ⟨g1, 0, none⟩) fs.length fs.length, .slice (some ⟨g2, 0, none⟩) ds.length ds.length]) ∧ Fill w' g1 96 fs fs.length ∧ Fill w' g2 98 ds ds.length ∧ Below w.heap.size w w' := by
  have HF : Hid (Prs _ _ _) := hf
  have HD : Hid (Prs _ _ _) := hd
  obtain ⟨fa, fc, hfv⟩ := hf.slice
  obtain ⟨da, dc, hdv⟩ := hd.slice
  clear hf hd
  subst hfv hdv
  go_enter Tryz.func27, Tryz.ntmps27
  go_wp2_with fail
  obtain ⟨z0, hb0, hr0, ho0, hbel⟩ := three w (.cells #[.int .i64 nm, .int .i64 vr, .slice fa fs.length fc, .slice da ds.length dc] 56) (.cells #[.int .i64 0, .int .i64 0, .slice none 0 0, .slice none 0 0] 67) (.cells #[.int .i64 nm, .int .i64 vr, .slice none 0 0, .slice none 0 0] 67)
  refine (toFileS_fill _ _ fs ((unhide HF).later hbel) hfl).mono ?_
  generalize ((w.alloc _).alloc _).alloc _ = W0 at *
  rintro e w1 ⟨rfl, hp1, hb1⟩
  have B1 := hb1.block _ (heapLt hb0)
  have R1 := hb1.block _ (heapLt hr0)
  have O1 := hb1.block _ (heapLt ho0)
  rw [hb0] at B1
  rw [hr0] at R1
  rw [ho0] at O1
  have hbel1 : Below w.heap.size w w1 := hbel.trans (hb1.mono (by omega))
  have hz1 := hb1.size
  have P1 : Hid (Fill _ _ _ _ _) := hp1
  rw [z0] at hz1
  have OO1 := hide O1
  have RR1 := hide R1
  have BB1 := hide B1
  have HB1 := hide hbel1
  have b3 : w1.cell? ⟨w.heap.size, 3, none⟩ = _ := cellOf B1 3
  have o2 : w1.cell? ⟨w.heap.size + 1 + 1, 2, none⟩ = _ := cellOf O1 2
  have f2 := frozenOf O1 2
  clear hb0 hr0 ho0 hbel hb1 B1 R1 O1 hp1 hbel1
  generalize W0.heap.size = g1 at *
  have hg1 : w.heap.size + 1 + 1 < g1 := by omega
  clear W0 z0
  go_wp2_with fail
  have O2 : (w1.setCell ⟨w.heap.size + 1 + 1, 2, none⟩ (.slice (some ⟨g1, 0, none⟩) fs.length fs.length)).heap[w.heap.size + 1 + 1]? = _ := heapSet (unhide OO1)
  have far2 : ∀ k, k ≠ w.heap.size + 1 + 1 → (w1.setCell ⟨w.heap.size + 1 + 1, 2, none⟩ (.slice (some ⟨g1, 0, none⟩) fs.length fs.length)).heap[k]? = w1.heap[k]? := fun k hk => Below.heap_setCell _ _ _ _ hk
  have R2 := (far2 (w.heap.size + 1) (by omega)).trans (unhide RR1)
  have sz2 : (w1.setCell ⟨w.heap.size + 1 + 1, 2, none⟩ (.slice (some ⟨g1, 0, none⟩) fs.length fs.length)).heap.size = w1.heap.size := by simp [World.setCell]
  have P2 : Hid (Fill _ _ _ _ _) := (unhide P1).keep (far2 g1 (by omega))
  have HB2 : Hid (Below w.heap.size w _) := (unhide HB1).setCell (p := ⟨w.heap.size + 1 + 1, 2, none⟩) (by show w.heap.size ≤ w.heap.size + 1 + 1; omega) (.slice (some ⟨g1, 0, none⟩) fs.length fs.length)
  refine (toDepS_fill _ _ ds ((unhide HD).later (unhide HB2)) hdl).mono ?_
  generalize w1.setCell _ _ = W2 at *
  rintro e w3 ⟨rfl, hp3, hb3⟩
  have O3 := hb3.block _ (heapLt O2)
  have R3 := hb3.block _ (heapLt R2)
  rw [O2] at O3
  rw [R2] at R3
  have P3 : Hid (Fill _ _ _ _ _) := (unhide P2).later hb3
  have P4 : Hid (Fill _ _ _ _ _) := hp3
  have HB3 : Hid (Below w.heap.size w w3) := (unhide HB2).trans (hb3.mono (unhide HB2).size)
  have o0 : w3.cell? ⟨w.heap.size + 1 + 1, 0, none⟩ = _ := cellOf O3 0
  have o1 : w3.cell? ⟨w.heap.size + 1 + 1, 1, none⟩ = _ := cellOf O3 1
  have o2 : w3.cell? ⟨w.heap.size + 1 + 1, 2, none⟩ = _ := cellOf O3 2
  have o3 : w3.cell? ⟨w.heap.size + 1 + 1, 3, none⟩ = _ := cellOf O3 3
  have f3 := frozenOf O3 3
  have r0 : w3.cell? ⟨w.heap.size + 1, 0, none⟩ = _ := cellOf R3 0
  have r1 : w3.cell? ⟨w.heap.size + 1, 1, none⟩ = _ := cellOf R3 1
  have r2 : w3.cell? ⟨w.heap.size + 1, 2, none⟩ = _ := cellOf R3 2
  have r3 : w3.cell? ⟨w.heap.size + 1, 3, none⟩ = _ := cellOf R3 3
  have s0 := frozenOf R3 0
  have s1 := frozenOf R3 1
  have s2 := frozenOf R3 2
  have s3 := frozenOf R3 3
  rw [sz2] at P4
  have RR3 := hide R3
  clear R3 O3 O2 R2 far2
  go_wp2
  obtain ⟨W5, hW5⟩ : ∃ W5, ((((w3.setCell ⟨w.heap.size + 1 + 1, 3, none⟩ (.slice (some ⟨w1.heap.size, 0, none⟩) ds.length ds.length)).setCell ⟨w.heap.size + 1, 0, none⟩ (.int .i64 nm)).setCell ⟨w.heap.size + 1, 1, none⟩ (.int .i64 vr)).setCell ⟨w.heap.size + 1, 2, none⟩ (.slice (some ⟨g1, 0, none⟩) fs.length fs.length)).setCell ⟨w.heap.size + 1, 3, none⟩ (.slice (some ⟨w1.heap.size, 0, none⟩) ds.length ds.length) = W5 := ⟨_, rfl⟩
  have hR5 : W5.heap[w.heap.size + 1]? = some (.cells #[.int .i64 nm, .int .i64 vr, .slice (some ⟨g1, 0, none⟩) fs.length fs.length, .slice (some ⟨w1.heap.size, 0, none⟩) ds.length ds.length] 67 (0, 0)) := by
    have e0 : (w3.setCell ⟨w.heap.size + 1 + 1, 3, none⟩ (.slice (some ⟨w1.heap.size, 0, none⟩) ds.length ds.length)).heap[w.heap.size + 1]? = _ := (Below.heap_setCell _ _ _ _ (by show w.heap.size + 1 ≠ w.heap.size + 1 + 1; omega)).trans (unhide RR3)
    rw [← hW5, heapSet (heapSet (heapSet (heapSet e0)))]
    rfl
  have far5 : ∀ k, k ≠ w.heap.size + 1 → k ≠ w.heap.size + 1 + 1 → W5.heap[k]? = w3.heap[k]? := fun k h1 h2 => by
    rw [← hW5, Below.heap_setCell _ _ _ _ h1, Below.heap_setCell _ _ _ _ h1, Below.heap_setCell _ _ _ _ h1, Below.heap_setCell _ _ _ _ h1, Below.heap_setCell _ _ _ _ h2]
  have sz5 : W5.heap.size = w3.heap.size := by rw [← hW5]; simp [World.setCell]
  have hbe5 : Below w.heap.size w W5 := by
    rw [← hW5]
    exact (((((unhide HB3).setCell (by show w.heap.size ≤ w.heap.size + 1 + 1; omega) _).setCell (by show w.heap.size ≤ w.heap.size + 1; omega) _).setCell (by show w.heap.size ≤ w.heap.size + 1; omega) _).setCell (by show w.heap.size ≤ w.heap.size + 1; omega) _).setCell (by show w.heap.size ≤ w.heap.size + 1; omega) _
  have q0 : W5.cell? ⟨w.heap.size + 1, 0, none⟩ = _ := cellOf hR5 0
  have q1 : W5.cell? ⟨w.heap.size + 1, 1, none⟩ = _ := cellOf hR5 1
  have q2 : W5.cell? ⟨w.heap.size + 1, 2, none⟩ = _ := cellOf hR5 2
  have q3 : W5.cell? ⟨w.heap.size + 1, 3, none⟩ = _ := cellOf hR5 3
  rw [hW5]
  exact bodyPost_ret (v := .agg #[.int .i64 nm, .int .i64 vr, .slice (some ⟨g1, 0, none⟩) fs.length fs.length, .slice (some ⟨w1.heap.size, 0, none⟩) ds.length ds.length]) (by simp [results, Tryz.results27, go_sem, q0, q1, q2, q3]) rfl
    ⟨g1, w1.heap.size, by omega, by omega, rfl, (unhide P3).keep (far5 g1 (by omega) (by omega)), (unhide P4).keep (far5 w1.heap.size (by omega) (by omega)), hbe5⟩
theorem toPkg_any (w : World) (nm vr : Int) (fv dv : Value) (fs ds : List (Int × Int)) (hf : Prs w fv fs) (hd : Prs w dv ds) (hfl : fs.length ≤ 1048576) (hdl : ds.length ≤ 1048576) :
    Calls Tryz.prog 27 #[.agg #[.int .i64 nm, .int .i64 vr, fv, dv]] w fun e w' => ∃ fv' dv', e = .returned (.agg #[.int .i64 nm, .int .i64 vr, fv', dv']) ∧ Prs w' fv' fs ∧ Prs w' dv' ds ∧ Below w.heap.size w w' :=
  (toPkg_fill w nm vr fv dv fs ds hf hd hfl hdl).mono fun _ _ ⟨_, _, _, _, h1, h2, h3, h4⟩ => ⟨_, _, h1, h2.prs hfl, h3.prs hdl, h4⟩
end Go.Proofs.YtlnieobmhofkdaaGreat
