import Derived.Test.YtoccijcngncghaaGreatDoorMix11
import Derived.Test.YtoccijcngncghaaGreatDoorMix16
import Derived.Test.YtoccijcngncghaaGreatDoorMix2
import Derived.Laws.MakeOwn
import Derived.Deep.RegionHeld3
import Derived.Deep.DrawnRows
import Derived.Laws.OwnMore
/- What the laws' own helpers for roots return: toRoot and toSigRoot copies in memory of their own, eqRoot and eqSigRoot true of two that read the same, szRoot and szSigRoot how much is left. -/
namespace Go.Proofs.YtoccijcngncghaaGreatDoor
open Go.RowKit

theorem Ins.keep {w w' : World} {g off n c : Nat} {l : List Int} (h : Ins w (.slice (some ⟨g, off, none⟩) n c) l) (hb : w'.heap[g]? = w.heap[g]?) (hs : w.heap.size ≤ w'.heap.size) : Ins w' (.slice (some ⟨g, off, none⟩) n c) l := by
  obtain ⟨a, cap, hv, hl, hr⟩ := h
  refine ⟨a, cap, hv, hl, fun hp => ?_⟩
  obtain ⟨b, off', ha, hbs, hc⟩ := hr hp
  rw [ha] at hv
  injection hv with h1 _ _
  injection h1 with h1
  injection h1 with h1 h2 _
  rw [h1] at hb
  exact ⟨b, off', ha, Nat.lt_of_lt_of_le hbs hs, fun i hi => (World.cell?_of_block (a := ⟨b, off' + i, none⟩) hb).trans (hc i hi)⟩

/-- Three new blocks. -/
theorem three' (w : World) (o1 o2 o3 : Obj) : (((w.alloc o1).alloc o2).alloc o3).heap.size = w.heap.size + 3 ∧ (((w.alloc o1).alloc o2).alloc o3).heap[w.heap.size]? = some o1 ∧ (((w.alloc o1).alloc o2).alloc o3).heap[w.heap.size + 1]? = some o2 ∧ (((w.alloc o1).alloc o2).alloc o3).heap[w.heap.size + 1 + 1]? = some o3 ∧ Below w.heap.size w (((w.alloc o1).alloc o2).alloc o3) := by
  have old : ∀ (w : World) (o : Obj) (k : Nat), k < w.heap.size → (w.alloc o).heap[k]? = w.heap[k]? := fun w o k hk => Below.heap_alloc w o k hk
  have new : ∀ (w : World) (o : Obj) (k : Nat), k = w.heap.size → (w.alloc o).heap[k]? = some o := fun w o k hk => by rw [hk]; exact heap_alloc_new w o
  refine ⟨by rw [sz1', sz1', sz1'], ?_, ?_, ?_, (((Below.refl _ _).alloc (Nat.le_refl _) _).alloc (by rw [sz1']; omega) _).alloc (by rw [sz1', sz1']; omega) _⟩
  · rw [old _ _ _ (by rw [sz1', sz1']; omega), old _ _ _ (by rw [sz1']; omega), new _ _ _ rfl]
  · rw [old _ _ _ (by rw [sz1', sz1']; omega), new _ _ _ (by rw [sz1'])]
  · rw [new _ _ _ (by rw [sz1', sz1'])]

theorem two_bx {w : World} {n d : Int} {v v' : Value} {k : List Int} (h : Ins w v k) (h' : Ins w v' k) (t : TypeId) :
    Bx ((w.alloc (.cells #[.int .i64 n, v, .int .i64 d] t)).alloc (.cells #[.int .i64 n, v', .int .i64 d] t)) w.heap.size n d v k ∧ Bx ((w.alloc (.cells #[.int .i64 n, v, .int .i64 d] t)).alloc (.cells #[.int .i64 n, v', .int .i64 d] t)) (w.heap.size + 1) n d v' k ∧ Below w.heap.size w ((w.alloc (.cells #[.int .i64 n, v, .int .i64 d] t)).alloc (.cells #[.int .i64 n, v', .int .i64 d] t)) := by
  have B1 := below1 w (.cells #[.int .i64 n, v, .int .i64 d] t)
  have X1 := Bx.new (n := n) (d := d) h t
  generalize hW : w.alloc (.cells #[.int .i64 n, v, .int .i64 d] t) = W at *
  have hz : W.heap.size = w.heap.size + 1 := by rw [← hW]; simp
  have B2 := below1 W (.cells #[.int .i64 n, v', .int .i64 d] t)
  refine ⟨X1.later B2, ?_, B1.trans (B2.mono B1.size)⟩
  rw [← hz]
  exact Bx.new (h'.later B1) t

end Go.Proofs.YtoccijcngncghaaGreatDoor

/- What the laws' toMeta, toMetaS and toIndex return: a copy in memory of its own. -/
namespace Go.Proofs.YtoccijcngncghaaGreatDoor
open Go.RowKit

theorem infoM : (Tryz.prog.info? 115).map (fun i => (i.zero, i.size, i.bytes)) = some (some (.agg #[.int .i64 0, .int .i64 0, .int .i64 0]), 3, 24) := by kernel_rfl

/-- The row that is filled: the first k metas are there. -/
def FillM (w : World) (g : Nat) (l : List Ix.M) (k : Nat) : Prop :=
  ∃ C : Array Value, w.heap[g]? = some (.cells C 115 (0, 0)) ∧ C.size = l.length * 3 ∧ ∀ i, i < k → C[i * 3]? = some (.int .i64 (Ix.nm l i)) ∧ C[i * 3 + 1]? = some (.int .i64 (Ix.vr l i)) ∧ C[i * 3 + 2]? = some (.int .i64 (Ix.sm l i))
theorem FillM.more {w : World} {g : Nat} {l : List Ix.M} {k : Nat} (h : FillM w g l k) (hk : k < l.length) :
    FillM (((w.setCell ⟨g, k * 3, none⟩ (.int .i64 (Ix.nm l k))).setCell ⟨g, k * 3 + 1, none⟩ (.int .i64 (Ix.vr l k))).setCell ⟨g, k * 3 + 2, none⟩ (.int .i64 (Ix.sm l k))) g l (k + 1) := by
  obtain ⟨C, h1, h2, h3⟩ := h
  refine ⟨_, heapSet (heapSet (heapSet h1)), by simpa using h2, fun i hi => ?_⟩
  rcases Nat.lt_or_ge i k with hlt | hge
  · obtain ⟨a, b, c⟩ := h3 i hlt
    refine ⟨?_, ?_, ?_⟩
    · rw [Array.getElem?_setIfInBounds_ne (by omega), Array.getElem?_setIfInBounds_ne (by omega), Array.getElem?_setIfInBounds_ne (by omega)]; exact a
    · rw [Array.getElem?_setIfInBounds_ne (by omega), Array.getElem?_setIfInBounds_ne (by omega), Array.getElem?_setIfInBounds_ne (by omega)]; exact b
    · rw [Array.getElem?_setIfInBounds_ne (by omega), Array.getElem?_setIfInBounds_ne (by omega), Array.getElem?_setIfInBounds_ne (by omega)]; exact c
  · obtain rfl : i = k := by omega
    refine ⟨?_, ?_, ?_⟩
    · rw [Array.getElem?_setIfInBounds_ne (by omega), Array.getElem?_setIfInBounds_ne (by omega), Array.getElem?_setIfInBounds_self_of_lt (by omega)]
    · rw [Array.getElem?_setIfInBounds_ne (by omega), Array.getElem?_setIfInBounds_self_of_lt (by simp; omega)]
    · rw [Array.getElem?_setIfInBounds_self_of_lt (by simp; omega)]
theorem FillM.keep {w w' : World} {g k : Nat} {l : List Ix.M} (h : FillM w g l k) (hb : w'.heap[g]? = w.heap[g]?) : FillM w' g l k := by
  obtain ⟨C, h1, h2, h3⟩ := h
  exact ⟨C, hb.trans h1, h2, h3⟩
theorem FillM.later {w w' : World} {g k : Nat} {l : List Ix.M} (h : FillM w g l k) (hb : Below w.heap.size w w') : FillM w' g l k := by
  obtain ⟨C, h1, h2, h3⟩ := h
  exact ⟨C, (hb.block g (heapLt h1)).trans h1, h2, h3⟩
theorem FillM.trs {w : World} {g : Nat} {l : List Ix.M} (h : FillM w g l l.length) (hl : l.length ≤ 1048576) : Trs w (.slice (some ⟨g, 0, none⟩) l.length l.length) l := by
  obtain ⟨C, h1, h2, h3⟩ := h
  refine ⟨_, _, rfl, by omega, fun _ => ⟨g, 0, rfl, heapLt h1, fun i hi => ?_⟩⟩
  rw [Nat.zero_add, cellOf h1, cellOf h1, cellOf h1]
  exact h3 i hi

theorem Trs.keep {w w' : World} {g off n c : Nat} {l : List Ix.M} (h : Trs w (.slice (some ⟨g, off, none⟩) n c) l) (hb : w'.heap[g]? = w.heap[g]?) (hs : w.heap.size ≤ w'.heap.size) : Trs w' (.slice (some ⟨g, off, none⟩) n c) l := by
  obtain ⟨a, cap, hv, hl, hr⟩ := h
  refine ⟨a, cap, hv, hl, fun hp => ?_⟩
  obtain ⟨b, off', ha, hbs, hc⟩ := hr hp
  rw [ha] at hv
  injection hv with h1 _ _
  injection h1 with h1
  injection h1 with h1 h2 _
  rw [h1] at hb
  exact ⟨b, off', ha, Nat.lt_of_lt_of_le hbs hs, fun i hi => ⟨(World.cell?_of_block (a := ⟨b, off' + i * 3, none⟩) hb).trans (hc i hi).1, (World.cell?_of_block (a := ⟨b, off' + i * 3 + 1, none⟩) hb).trans (hc i hi).2.1, (World.cell?_of_block (a := ⟨b, off' + i * 3 + 2, none⟩) hb).trans (hc i hi).2.2⟩⟩

/-- Three new blocks. -/
theorem three3 (w : World) (o1 o2 o3 : Obj) : (((w.alloc o1).alloc o2).alloc o3).heap.size = w.heap.size + 3 ∧ (((w.alloc o1).alloc o2).alloc o3).heap[w.heap.size]? = some o1 ∧ (((w.alloc o1).alloc o2).alloc o3).heap[w.heap.size + 1]? = some o2 ∧ (((w.alloc o1).alloc o2).alloc o3).heap[w.heap.size + 1 + 1]? = some o3 ∧ Below w.heap.size w (((w.alloc o1).alloc o2).alloc o3) := by
  have old : ∀ (w : World) (o : Obj) (k : Nat), k < w.heap.size → (w.alloc o).heap[k]? = w.heap[k]? := fun w o k hk => Below.heap_alloc w o k hk
  have new : ∀ (w : World) (o : Obj) (k : Nat), k = w.heap.size → (w.alloc o).heap[k]? = some o := fun w o k hk => by rw [hk]; exact heap_alloc_new w o
  refine ⟨by rw [sz1', sz1', sz1'], ?_, ?_, ?_, (((Below.refl _ _).alloc (Nat.le_refl _) _).alloc (by rw [sz1']; omega) _).alloc (by rw [sz1', sz1']; omega) _⟩
  · rw [old _ _ _ (by rw [sz1', sz1']; omega), old _ _ _ (by rw [sz1']; omega), new _ _ _ rfl]
  · rw [old _ _ _ (by rw [sz1', sz1']; omega), new _ _ _ (by rw [sz1'])]
  · rw [new _ _ _ (by rw [sz1', sz1'])]

end Go.Proofs.YtoccijcngncghaaGreatDoor

/- What the laws' eqIndex returns: true of two indexes that read the same. -/
namespace Go.Proofs.YtoccijcngncghaaGreatDoor
open Go.RowKit

attribute [local go_sem ↓] Go.wp_at_zero Go.wp_at_succ

end Go.Proofs.YtoccijcngncghaaGreatDoor

/- What laws.toTrust, szTrust and eqTrust return: a copy, a count, and true of the same. -/
namespace Go.Proofs.YtoccijcngncghaaGreatDoor
open Go.RowKit

theorem Ins.far {w w' : World} {g n c : Nat} {l : List Int} (h : Ins w (.slice (some ⟨g, 0, none⟩) n c) l) (hs : w.heap.size ≤ w'.heap.size) (hg : w'.heap[g]? = w.heap[g]?) : Ins w' (.slice (some ⟨g, 0, none⟩) n c) l := by
  obtain ⟨a, cap, e, hl, hr⟩ := h
  refine ⟨a, cap, e, hl, fun hp => ?_⟩
  obtain ⟨b, off, ha, hb, hc⟩ := hr hp
  injection e with e _ _
  rw [ha] at e
  injection e with e
  injection e with e1 e2 _
  subst e1
  exact ⟨g, off, ha, by omega, fun i hi => by rw [World.cell?_of_block hg]; exact hc i hi⟩
theorem Trs.far {w w' : World} {g n c : Nat} {l : List Ix.M} (h : Trs w (.slice (some ⟨g, 0, none⟩) n c) l) (hs : w.heap.size ≤ w'.heap.size) (hg : w'.heap[g]? = w.heap[g]?) : Trs w' (.slice (some ⟨g, 0, none⟩) n c) l := by
  obtain ⟨a, cap, e, hl, hr⟩ := h
  refine ⟨a, cap, e, hl, fun hp => ?_⟩
  obtain ⟨b, off, ha, hb, hc⟩ := hr hp
  injection e with e _ _
  rw [ha] at e
  injection e with e
  injection e with e1 e2 _
  subst e1
  have e : ∀ o, w'.cell? ⟨g, o, none⟩ = w.cell? ⟨g, o, none⟩ := fun o => World.cell?_of_block hg
  exact ⟨g, off, ha, by omega, fun i hi => by rw [e, e, e]; exact hc i hi⟩
theorem fin0123 {w w' : World} {X : Nat} {a0 b0 c0 d0 a b c d e f g : Value} {t : TypeId} (h : w.heap[X]? = some (.cells #[a0, b0, c0, d0, e, f, g] t (0, 0))) (hw : w' = (((w.setCell ⟨X, 0, none⟩ a).setCell ⟨X, 1, none⟩ b).setCell ⟨X, 2, none⟩ c).setCell ⟨X, 3, none⟩ d) :
    w'.heap[X]? = some (.cells #[a, b, c, d, e, f, g] t (0, 0)) ∧ (∀ k, k ≠ X → w'.heap[k]? = w.heap[k]?) ∧ w'.heap.size = w.heap.size ∧ w'.os = w.os ∧ w'.tape = w.tape ∧ w'.output = w.output := by
  refine ⟨by rw [hw, heapSet (heapSet (heapSet (heapSet h)))]; rfl, fun k hk => ?_, by rw [hw]; simp [World.setCell], by rw [hw]; simp [World.setCell], by rw [hw]; simp [World.setCell], by rw [hw]; simp [World.setCell]⟩
  rw [hw, Below.heap_setCell _ _ _ _ hk, Below.heap_setCell _ _ _ _ hk, Below.heap_setCell _ _ _ _ hk, Below.heap_setCell _ _ _ _ hk]
theorem fin456' {w w' : World} {X : Nat} {a b c d e0 f0 g0 e f g : Value} {t : TypeId} (h : w.heap[X]? = some (.cells #[a, b, c, d, e0, f0, g0] t (0, 0))) (hw : w' = ((w.setCell ⟨X, 4, none⟩ e).setCell ⟨X, 5, none⟩ f).setCell ⟨X, 6, none⟩ g) :
    w'.heap[X]? = some (.cells #[a, b, c, d, e, f, g] t (0, 0)) ∧ (∀ k, k ≠ X → w'.heap[k]? = w.heap[k]?) ∧ w'.heap.size = w.heap.size ∧ w'.os = w.os ∧ w'.tape = w.tape ∧ w'.output = w.output := by
  refine ⟨by rw [hw, heapSet (heapSet (heapSet h))]; rfl, fun k hk => ?_, by rw [hw]; simp [World.setCell], by rw [hw]; simp [World.setCell], by rw [hw]; simp [World.setCell], by rw [hw]; simp [World.setCell]⟩
  rw [hw, Below.heap_setCell _ _ _ _ hk, Below.heap_setCell _ _ _ _ hk, Below.heap_setCell _ _ _ _ hk]

end Go.Proofs.YtoccijcngncghaaGreatDoor

/- What the laws' markIntS, heldIntS, markMetaS, heldMetaS and those over roots, indexes and trust do: marks are laid into a row, and nowhere else; they are read again. -/
namespace Go.Proofs.YtoccijcngncghaaGreatDoor
open Go.RowKit

/-- The marks that are laid, one a place. -/
def marksI (k : Int) (n : Nat) : List Int := (List.range n).map fun i : Nat => k + (i : Int)
theorem marksI_len (k : Int) (n : Nat) : (marksI k n).length = n := by simp [marksI]
theorem marksI_succ (k : Int) (n : Nat) : marksI k (n + 1) = marksI k n ++ [k + (n : Int)] := by simp [marksI, List.range_succ]
/-- The marks that are laid, three a place. -/
def marksM (k : Int) (n : Nat) : List Ix.M := (List.range n).map fun i : Nat => (k + 3 * (i : Int), k + 3 * (i : Int) + 1, k + 3 * (i : Int) + 1 + 1)
theorem marksM_len (k : Int) (n : Nat) : (marksM k n).length = n := by simp [marksM]
theorem marksM_succ (k : Int) (n : Nat) : marksM k (n + 1) = marksM k n ++ [(k + 3 * (n : Int), k + 3 * (n : Int) + 1, k + 3 * (n : Int) + 1 + 1)] := by simp [marksM, List.range_succ]
theorem marksM_at (k : Int) (n j : Nat) (h : j < n) : Ix.nm (marksM k n) j = k + 3 * (j : Int) ∧ Ix.vr (marksM k n) j = k + 3 * (j : Int) + 1 ∧ Ix.sm (marksM k n) j = k + 3 * (j : Int) + 1 + 1 := by
  simp [Ix.nm, Ix.vr, Ix.sm, marksM, h]
theorem flat3_app (a b : List Ix.M) : flat3 (a ++ b) = flat3 a ++ flat3 b := by unfold flat3; rw [List.flatMap_append]
theorem mark_setI (k : Int) (l : List Int) (j : Nat) (h : j < l.length) : ((marksI k j ++ l.drop j).map (Value.int .i64)).set j (.int .i64 (k + j)) = (marksI k (j + 1) ++ l.drop (j + 1)).map (Value.int .i64) := by
  rw [List.drop_eq_getElem_cons h, List.map_append, List.map_cons, List.set_append_right _ _ (by simp [marksI_len]), marksI_succ, List.map_append, List.map_append, List.length_map, marksI_len, Nat.sub_self, List.set_cons_zero, List.append_assoc]
  rfl
theorem mark_setM (k : Int) (l : List Ix.M) (j : Nat) (h : j < l.length) : (((flat3 (marksM k j ++ l.drop j)).set (j * 3) (.int .i64 (k + 3 * j))).set (j * 3 + 1) (.int .i64 (k + 3 * j + 1))).set (j * 3 + 2) (.int .i64 (k + 3 * j + 1 + 1)) = flat3 (marksM k (j + 1) ++ l.drop (j + 1)) := by
  have hlen : (flat3 (marksM k j)).length = j * 3 := by rw [(flat3_cells _).1, marksM_len]
  rw [List.drop_eq_getElem_cons h, flat3_app, List.set_append_right _ _ (by omega), List.set_append_right _ _ (by omega), List.set_append_right _ _ (by omega), hlen, Nat.sub_self, Nat.add_sub_cancel_left, Nat.add_sub_cancel_left, marksM_succ, flat3_app, flat3_app]
  rw [List.append_assoc]
  rfl
theorem FillI.own {w : World} {g B : Nat} {l : List Int} (h : FillI w g l l.length) (hB : B ≤ g) (hl : l.length ≤ 1048576) : OwI B w (.slice (some ⟨g, 0, none⟩) l.length l.length) l := by
  obtain ⟨C, h1, h2, h3⟩ := h
  refine ⟨by simp, .inr ⟨g, l.length, C, rfl, hB, h1, Nat.le_refl _, by unfold maxLen; omega, by rw [h2, Nat.mul_one], ?_⟩⟩
  apply List.ext_getElem?
  intro i
  rcases Nat.lt_or_ge i l.length with hi | hi
  · rw [List.getElem?_take_of_lt (by omega), Array.getElem?_toList, h3 i hi, List.getElem?_map, Ky.nth_get l i hi, List.getElem?_eq_getElem hi]
    rfl
  · rw [List.getElem?_eq_none (by simp; omega), List.getElem?_eq_none (by simp; omega)]
theorem FillM.own {w : World} {g B : Nat} {l : List Ix.M} (h : FillM w g l l.length) (hB : B ≤ g) (hl : l.length ≤ 1048576) : OwM B w (.slice (some ⟨g, 0, none⟩) l.length l.length) l := by
  obtain ⟨C, h1, h2, h3⟩ := h
  have hf := (flat3_cells l).1
  refine ⟨hf, .inr ⟨g, l.length, C, rfl, hB, h1, Nat.le_refl _, by unfold maxLen; omega, h2, ?_⟩⟩
  apply List.ext_getElem?
  intro i
  rcases Nat.lt_or_ge i (l.length * 3) with hi | hi
  · rw [List.getElem?_take_of_lt (by omega), Array.getElem?_toList]
    obtain ⟨a0, a1, a2⟩ := flat3_at l (i / 3) (by omega)
    obtain ⟨b0, b1, b2⟩ := h3 (i / 3) (by omega)
    have hm : i % 3 = 0 ∨ i % 3 = 1 ∨ i % 3 = 2 := by omega
    rcases hm with hm | hm | hm
    · have e : i = i / 3 * 3 := by omega
      rw [e, b0, a0]
    · have e : i = i / 3 * 3 + 1 := by omega
      rw [e, b1, a1]
    · have e : i = i / 3 * 3 + 2 := by omega
      rw [e, b2, a2]
  · rw [List.getElem?_eq_none (by simp; omega), List.getElem?_eq_none (by omega)]

set_option maxHeartbeats 2000000 in
set_option maxRecDepth 100000 in
theorem markIntS_any (w : World) (v : Value) (l : List Int) (B : Nat) (k : Int) (h : OwI B w v l) (hl : l.length ≤ 1048576) (k0 : 0 ≤ k) (k1 : k ≤ 1000000000) :
    Calls Tryz.prog 48 #[v, .int .i64 k] w fun e w' => e = .returned (.int .i64 (k + l.length)) ∧ OwI B w' v (marksI k l.length) ∧ w.grownBy w' v.ownBlock := by
  obtain ⟨a, cap, rfl⟩ := own_formS h
  have H := hide h
  clear h
  go_enter Tryz.func48, Tryz.ntmps48
  go_wp2_with fail
  go_loopw [1, 5] (fun kv i w' => ∃ j : Nat, j ≤ l.length ∧ i = .int .i64 j ∧ kv = .int .i64 (k + j) ∧ w'.ownsRow B 3 1 (.slice a l.length cap) l.length ((marksI k j ++ l.drop j).map (Value.int .i64)) ∧ w.grownBy w' (Value.slice a l.length cap).ownBlock) (fun _ i _ => l.length - (intOf i).toNat)
  case atStart => exact ⟨0, Nat.zero_le _, rfl, by simp, by simpa [marksI] using unhide H, grown_refl _ _⟩
  case round =>
    obtain ⟨j, hj, rfl, rfl, ho, hg⟩ := hrel
    have HO := hide ho
    have HG := hide hg
    by_cases hlt : j < l.length
    · obtain ⟨gb, cp, e, _, hgl⟩ := ho.form (by omega)
      injection e with e1 _ e3
      subst e1 e3
      have c1 : ∃ y, wr.cell? ⟨gb, j, none⟩ = some y := by
        rw [ho.cellAt _ (by omega)]
        exact ⟨_, List.getElem?_eq_getElem (by simp [marksI_len]; omega)⟩
      obtain ⟨y1, c1⟩ := c1
      have f1 : wr.frozen? ⟨gb, j, none⟩ = false := ho.frozenAt _
      have hi0 : (0 : Int) ≤ (j : Int) := Int.natCast_nonneg _
      have hi1 : (j : Int) < (l.length : Int) := by omega
      have HSET := hide (mark_setI k l j hlt)
      clear ho hg
      go_wp2_with fail
      have h1 := (unhide HO).stored j (.int .i64 (k + j))
      go_roundw
      case rel =>
        refine ⟨j + 1, by omega, by go_num, by go_num, ?_, (unhide HG).trans h1.2⟩
        rw [← unhide HSET]
        exact h1.1
      case measure => simp [intOf]; omega
    · obtain rfl : j = l.length := by omega
      rw [List.drop_length, List.append_nil] at HO
      have HO2 : Hid (OwI B wr (.slice a l.length cap) (marksI k l.length)) := by
        show World.ownsRow _ _ _ _ _ _ _
        rw [marksI_len]
        exact unhide HO
      clear ho hg hlt
      go_wp2
      go_ret
      exact ⟨rfl, unhide HO2, unhide HG⟩

set_option maxHeartbeats 2000000 in
set_option maxRecDepth 100000 in
theorem heldIntS_any (w : World) (v : Value) (n : Nat) (B : Nat) (k : Int) (h : OwI B w v (marksI k n)) (hl : n ≤ 1048576) (k0 : 0 ≤ k) (k1 : k ≤ 1000000000) :
    Calls Tryz.prog 50 #[v, .int .i64 k] w fun e w' => e = .returned (.int .i64 (k + n)) ∧ w' = w := by
  obtain ⟨a, cap, hv⟩ := own_formS h
  rw [marksI_len] at hv
  subst hv
  have h' : w.ownsRow B 3 1 (.slice a n cap) n ((marksI k n).map (Value.int .i64)) := by
    have := h
    unfold OwI at this
    rwa [marksI_len] at this
  have H := hide h'
  clear h h'
  go_enter Tryz.func50, Tryz.ntmps50
  go_wp2_with fail
  go_loop [1, 5] (fun kv i => ∃ j : Nat, j ≤ n ∧ i = .int .i64 j ∧ kv = .int .i64 (k + j)) (fun _ i => n - (intOf i).toNat)
  case atStart => exact ⟨0, Nat.zero_le _, rfl, by simp⟩
  case round =>
    obtain ⟨j, hj, rfl, rfl⟩ := hrel
    by_cases hlt : j < n
    · obtain ⟨gb, cp, e, _, hgl⟩ := (unhide H).form (by omega)
      injection e with e1 _ e3
      subst e1 e3
      have c1 : w.cell? ⟨gb, j, none⟩ = some (.int .i64 (k + j)) := by rw [(unhide H).cellAt _ (by omega)]; simp [marksI, hlt]
      have hi0 : (0 : Int) ≤ (j : Int) := Int.natCast_nonneg _
      have hi1 : (j : Int) < (n : Int) := by omega
      have b1 : (k + (j : Int) != k + (j : Int)) = false := by simp
      go_wp2
      go_round
      case rel => exact ⟨j + 1, by omega, by go_num, by go_num⟩
      case measure => simp [intOf]; omega
    · obtain rfl : j = n := by omega
      go_wp2
      go_ret
      exact ⟨rfl, rfl⟩

end Go.Proofs.YtoccijcngncghaaGreatDoor
