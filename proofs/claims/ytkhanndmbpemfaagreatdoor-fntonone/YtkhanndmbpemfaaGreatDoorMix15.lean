import Derived.Test.YtkhanndmbpemfaaGreatDoorMix8
import Derived.Test.YtkhanndmbpemfaaGreatDoorMix14
import Derived.Test.YtkhanndmbpemfaaGreatDoorMix1
import Derived.Laws.MakeOwn
import Derived.Deep.RegionHeld3
import Derived.Deep.DrawnRows
import Derived.Laws.OwnMore
import Derived.Test.YtkhanndmbpemfaaGreatDoorMix3
import Derived.Test.YtkhanndmbpemfaaGreatDoorAnsPW
import Derived.Test.YtkhanndmbpemfaaGreatDoorMix4
import Derived.ProofKit
import Derived.ChangeSlices
/- What the laws' own helpers for roots return: toRoot and toSigRoot copies in memory of their own, eqRoot and eqSigRoot true of two that read the same, szRoot and szSigRoot how much is left. -/
namespace Go.Proofs.YtkhanndmbpemfaaGreatDoor
open Go.RowKit

theorem Ins.keep {w w' : World} {g off n c : Nat} {l : List Int} (h : Ins w (.slice (some ⟨g, off, none⟩) n c) l) (hb : w'.heap[g]? = w.heap[g]?) (hs : w.heap.size ≤ w'.heap.size) : Ins w' (.slice (some ⟨g, off, none⟩) n c) l := by
  obtain ⟨a, cap, hv, hl, hr⟩ := h
  refine ⟨a, cap, hv, hl, fun hp => ?_⟩
  obtain ⟨b, off', ha, hbs, hc⟩ := hr hp
  rw [ha] at hv
  injection hv with h1 _ _
  injection h1 with h1
  injection h1 with h1 h2 _
  rw [h1] at hb
  exact ⟨b, off', ha, Nat.lt_of_lt_of_le hbs hs, fun i hi => (World.cell?_of_block (a := ⟨b, off' + i, none⟩) hb).trans (hc i hi)⟩

/-- Three new blocks. -/
theorem three' (w : World) (o1 o2 o3 : Obj) : (((w.alloc o1).alloc o2).alloc o3).heap.size = w.heap.size + 3 ∧ (((w.alloc o1).alloc o2).alloc o3).heap[w.heap.size]? = some o1 ∧ (((w.alloc o1).alloc o2).alloc o3).heap[w.heap.size + 1]? = some o2 ∧ (((w.alloc o1).alloc o2).alloc o3).heap[w.heap.size + 1 + 1]? = some o3 ∧ Below w.heap.size w (((w.alloc o1).alloc o2).alloc o3) := by
  have old : ∀ (w : World) (o : Obj) (k : Nat), k < w.heap.size → (w.alloc o).heap[k]? = w.heap[k]? := fun w o k hk => Below.heap_alloc w o k hk
  have new : ∀ (w : World) (o : Obj) (k : Nat), k = w.heap.size → (w.alloc o).heap[k]? = some o := fun w o k hk => by rw [hk]; exact heap_alloc_new w o
  refine ⟨by rw [sz1', sz1', sz1'], ?_, ?_, ?_, (((Below.refl _ _).alloc (Nat.le_refl _) _).alloc (by rw [sz1']; omega) _).alloc (by rw [sz1', sz1']; omega) _⟩
  · rw [old _ _ _ (by rw [sz1', sz1']; omega), old _ _ _ (by rw [sz1']; omega), new _ _ _ rfl]
  · rw [old _ _ _ (by rw [sz1', sz1']; omega), new _ _ _ (by rw [sz1'])]
  · rw [new _ _ _ (by rw [sz1', sz1'])]

theorem two_bx {w : World} {n d : Int} {v v' : Value} {k : List Int} (h : Ins w v k) (h' : Ins w v' k) (t : TypeId) :
    Bx ((w.alloc (.cells #[.int .i64 n, v, .int .i64 d] t)).alloc (.cells #[.int .i64 n, v', .int .i64 d] t)) w.heap.size n d v k ∧ Bx ((w.alloc (.cells #[.int .i64 n, v, .int .i64 d] t)).alloc (.cells #[.int .i64 n, v', .int .i64 d] t)) (w.heap.size + 1) n d v' k ∧ Below w.heap.size w ((w.alloc (.cells #[.int .i64 n, v, .int .i64 d] t)).alloc (.cells #[.int .i64 n, v', .int .i64 d] t)) := by
  have B1 := below1 w (.cells #[.int .i64 n, v, .int .i64 d] t)
  have X1 := Bx.new (n := n) (d := d) h t
  generalize hW : w.alloc (.cells #[.int .i64 n, v, .int .i64 d] t) = W at *
  have hz : W.heap.size = w.heap.size + 1 := by rw [← hW]; simp
  have B2 := below1 W (.cells #[.int .i64 n, v', .int .i64 d] t)
  refine ⟨X1.later B2, ?_, B1.trans (B2.mono B1.size)⟩
  rw [← hz]
  exact Bx.new (h'.later B1) t

end Go.Proofs.YtkhanndmbpemfaaGreatDoor

/- What the laws' toMeta, toMetaS and toIndex return: a copy in memory of its own. -/
namespace Go.Proofs.YtkhanndmbpemfaaGreatDoor
open Go.RowKit

theorem infoM : (Tryz.prog.info? 135).map (fun i => (i.zero, i.size, i.bytes)) = some (some (.agg #[.int .i64 0, .int .i64 0, .int .i64 0]), 3, 24) := by kernel_rfl

/-- The row that is filled: the first k metas are there. -/
def FillM (w : World) (g : Nat) (l : List Ix.M) (k : Nat) : Prop :=
  ∃ C : Array Value, w.heap[g]? = some (.cells C 135 (0, 0)) ∧ C.size = l.length * 3 ∧ ∀ i, i < k → C[i * 3]? = some (.int .i64 (Ix.nm l i)) ∧ C[i * 3 + 1]? = some (.int .i64 (Ix.vr l i)) ∧ C[i * 3 + 2]? = some (.int .i64 (Ix.sm l i))
theorem FillM.more {w : World} {g : Nat} {l : List Ix.M} {k : Nat} (h : FillM w g l k) (hk : k < l.length) :
    FillM (((w.setCell ⟨g, k * 3, none⟩ (.int .i64 (Ix.nm l k))).setCell ⟨g, k * 3 + 1, none⟩ (.int .i64 (Ix.vr l k))).setCell ⟨g, k * 3 + 2, none⟩ (.int .i64 (Ix.sm l k))) g l (k + 1) := by
  obtain ⟨C, h1, h2, h3⟩ := h
  refine ⟨_, heapSet (heapSet (heapSet h1)), by simpa using h2, fun i hi => ?_⟩
  rcases Nat.lt_or_ge i k with hlt | hge
  · obtain ⟨a, b, c⟩ := h3 i hlt
    refine ⟨?_, ?_, ?_⟩
    · rw [Array.getElem?_setIfInBounds_ne (by omega), Array.getElem?_setIfInBounds_ne (by omega), Array.getElem?_setIfInBounds_ne (by omega)]; exact a
    · rw [Array.getElem?_setIfInBounds_ne (by omega), Array.getElem?_setIfInBounds_ne (by omega), Array.getElem?_setIfInBounds_ne (by omega)]; exact b
    · rw [Array.getElem?_setIfInBounds_ne (by omega), Array.getElem?_setIfInBounds_ne (by omega), Array.getElem?_setIfInBounds_ne (by omega)]; exact c
  · obtain rfl : i = k := by omega
    refine ⟨?_, ?_, ?_⟩
    · rw [Array.getElem?_setIfInBounds_ne (by omega), Array.getElem?_setIfInBounds_ne (by omega), Array.getElem?_setIfInBounds_self_of_lt (by omega)]
    · rw [Array.getElem?_setIfInBounds_ne (by omega), Array.getElem?_setIfInBounds_self_of_lt (by simp; omega)]
    · rw [Array.getElem?_setIfInBounds_self_of_lt (by simp; omega)]
theorem FillM.keep {w w' : World} {g k : Nat} {l : List Ix.M} (h : FillM w g l k) (hb : w'.heap[g]? = w.heap[g]?) : FillM w' g l k := by
  obtain ⟨C, h1, h2, h3⟩ := h
  exact ⟨C, hb.trans h1, h2, h3⟩
theorem FillM.later {w w' : World} {g k : Nat} {l : List Ix.M} (h : FillM w g l k) (hb : Below w.heap.size w w') : FillM w' g l k := by
  obtain ⟨C, h1, h2, h3⟩ := h
  exact ⟨C, (hb.block g (heapLt h1)).trans h1, h2, h3⟩
theorem FillM.trs {w : World} {g : Nat} {l : List Ix.M} (h : FillM w g l l.length) (hl : l.length ≤ 1048576) : Trs w (.slice (some ⟨g, 0, none⟩) l.length l.length) l := by
  obtain ⟨C, h1, h2, h3⟩ := h
  refine ⟨_, _, rfl, by omega, fun _ => ⟨g, 0, rfl, heapLt h1, fun i hi => ?_⟩⟩
  rw [Nat.zero_add, cellOf h1, cellOf h1, cellOf h1]
  exact h3 i hi

theorem Trs.keep {w w' : World} {g off n c : Nat} {l : List Ix.M} (h : Trs w (.slice (some ⟨g, off, none⟩) n c) l) (hb : w'.heap[g]? = w.heap[g]?) (hs : w.heap.size ≤ w'.heap.size) : Trs w' (.slice (some ⟨g, off, none⟩) n c) l := by
  obtain ⟨a, cap, hv, hl, hr⟩ := h
  refine ⟨a, cap, hv, hl, fun hp => ?_⟩
  obtain ⟨b, off', ha, hbs, hc⟩ := hr hp
  rw [ha] at hv
  injection hv with h1 _ _
  injection h1 with h1
  injection h1 with h1 h2 _
  rw [h1] at hb
  exact ⟨b, off', ha, Nat.lt_of_lt_of_le hbs hs, fun i hi => ⟨(World.cell?_of_block (a := ⟨b, off' + i * 3, none⟩) hb).trans (hc i hi).1, (World.cell?_of_block (a := ⟨b, off' + i * 3 + 1, none⟩) hb).trans (hc i hi).2.1, (World.cell?_of_block (a := ⟨b, off' + i * 3 + 2, none⟩) hb).trans (hc i hi).2.2⟩⟩

/-- Three new blocks. -/
theorem three3 (w : World) (o1 o2 o3 : Obj) : (((w.alloc o1).alloc o2).alloc o3).heap.size = w.heap.size + 3 ∧ (((w.alloc o1).alloc o2).alloc o3).heap[w.heap.size]? = some o1 ∧ (((w.alloc o1).alloc o2).alloc o3).heap[w.heap.size + 1]? = some o2 ∧ (((w.alloc o1).alloc o2).alloc o3).heap[w.heap.size + 1 + 1]? = some o3 ∧ Below w.heap.size w (((w.alloc o1).alloc o2).alloc o3) := by
  have old : ∀ (w : World) (o : Obj) (k : Nat), k < w.heap.size → (w.alloc o).heap[k]? = w.heap[k]? := fun w o k hk => Below.heap_alloc w o k hk
  have new : ∀ (w : World) (o : Obj) (k : Nat), k = w.heap.size → (w.alloc o).heap[k]? = some o := fun w o k hk => by rw [hk]; exact heap_alloc_new w o
  refine ⟨by rw [sz1', sz1', sz1'], ?_, ?_, ?_, (((Below.refl _ _).alloc (Nat.le_refl _) _).alloc (by rw [sz1']; omega) _).alloc (by rw [sz1', sz1']; omega) _⟩
  · rw [old _ _ _ (by rw [sz1', sz1']; omega), old _ _ _ (by rw [sz1']; omega), new _ _ _ rfl]
  · rw [old _ _ _ (by rw [sz1', sz1']; omega), new _ _ _ (by rw [sz1'])]
  · rw [new _ _ _ (by rw [sz1', sz1'])]

end Go.Proofs.YtkhanndmbpemfaaGreatDoor

/- What the laws' eqIndex returns: true of two indexes that read the same. -/
namespace Go.Proofs.YtkhanndmbpemfaaGreatDoor
open Go.RowKit

attribute [local go_sem ↓] Go.wp_at_zero Go.wp_at_succ

end Go.Proofs.YtkhanndmbpemfaaGreatDoor

/- What laws.toTrust, szTrust and eqTrust return: a copy, a count, and true of the same. -/
namespace Go.Proofs.YtkhanndmbpemfaaGreatDoor
open Go.RowKit

theorem Ins.far {w w' : World} {g n c : Nat} {l : List Int} (h : Ins w (.slice (some ⟨g, 0, none⟩) n c) l) (hs : w.heap.size ≤ w'.heap.size) (hg : w'.heap[g]? = w.heap[g]?) : Ins w' (.slice (some ⟨g, 0, none⟩) n c) l := by
  obtain ⟨a, cap, e, hl, hr⟩ := h
  refine ⟨a, cap, e, hl, fun hp => ?_⟩
  obtain ⟨b, off, ha, hb, hc⟩ := hr hp
  injection e with e _ _
  rw [ha] at e
  injection e with e
  injection e with e1 e2 _
  subst e1
  exact ⟨g, off, ha, by omega, fun i hi => by rw [World.cell?_of_block hg]; exact hc i hi⟩
theorem Trs.far {w w' : World} {g n c : Nat} {l : List Ix.M} (h : Trs w (.slice (some ⟨g, 0, none⟩) n c) l) (hs : w.heap.size ≤ w'.heap.size) (hg : w'.heap[g]? = w.heap[g]?) : Trs w' (.slice (some ⟨g, 0, none⟩) n c) l := by
  obtain ⟨a, cap, e, hl, hr⟩ := h
  refine ⟨a, cap, e, hl, fun hp => ?_⟩
  obtain ⟨b, off, ha, hb, hc⟩ := hr hp
  injection e with e _ _
  rw [ha] at e
  injection e with e
  injection e with e1 e2 _
  subst e1
  have e : ∀ o, w'.cell? ⟨g, o, none⟩ = w.cell? ⟨g, o, none⟩ := fun o => World.cell?_of_block hg
  exact ⟨g, off, ha, by omega, fun i hi => by rw [e, e, e]; exact hc i hi⟩
theorem fin0123 {w w' : World} {X : Nat} {a0 b0 c0 d0 a b c d e f g : Value} {t : TypeId} (h : w.heap[X]? = some (.cells #[a0, b0, c0, d0, e, f, g] t (0, 0))) (hw : w' = (((w.setCell ⟨X, 0, none⟩ a).setCell ⟨X, 1, none⟩ b).setCell ⟨X, 2, none⟩ c).setCell ⟨X, 3, none⟩ d) :
    w'.heap[X]? = some (.cells #[a, b, c, d, e, f, g] t (0, 0)) ∧ (∀ k, k ≠ X → w'.heap[k]? = w.heap[k]?) ∧ w'.heap.size = w.heap.size ∧ w'.os = w.os ∧ w'.tape = w.tape ∧ w'.output = w.output := by
  refine ⟨by rw [hw, heapSet (heapSet (heapSet (heapSet h)))]; rfl, fun k hk => ?_, by rw [hw]; simp [World.setCell], by rw [hw]; simp [World.setCell], by rw [hw]; simp [World.setCell], by rw [hw]; simp [World.setCell]⟩
  rw [hw, Below.heap_setCell _ _ _ _ hk, Below.heap_setCell _ _ _ _ hk, Below.heap_setCell _ _ _ _ hk, Below.heap_setCell _ _ _ _ hk]
theorem fin456' {w w' : World} {X : Nat} {a b c d e0 f0 g0 e f g : Value} {t : TypeId} (h : w.heap[X]? = some (.cells #[a, b, c, d, e0, f0, g0] t (0, 0))) (hw : w' = ((w.setCell ⟨X, 4, none⟩ e).setCell ⟨X, 5, none⟩ f).setCell ⟨X, 6, none⟩ g) :
    w'.heap[X]? = some (.cells #[a, b, c, d, e, f, g] t (0, 0)) ∧ (∀ k, k ≠ X → w'.heap[k]? = w.heap[k]?) ∧ w'.heap.size = w.heap.size ∧ w'.os = w.os ∧ w'.tape = w.tape ∧ w'.output = w.output := by
  refine ⟨by rw [hw, heapSet (heapSet (heapSet h))]; rfl, fun k hk => ?_, by rw [hw]; simp [World.setCell], by rw [hw]; simp [World.setCell], by rw [hw]; simp [World.setCell], by rw [hw]; simp [World.setCell]⟩
  rw [hw, Below.heap_setCell _ _ _ _ hk, Below.heap_setCell _ _ _ _ hk, Below.heap_setCell _ _ _ _ hk]

end Go.Proofs.YtkhanndmbpemfaaGreatDoor

/- What the laws' markIntS, heldIntS, markMetaS, heldMetaS and those over roots, indexes and trust do: marks are laid into a row, and nowhere else; they are read again. -/
namespace Go.Proofs.YtkhanndmbpemfaaGreatDoor
open Go.RowKit

/-- The marks that are laid, one a place. -/
def marksI (k : Int) (n : Nat) : List Int := (List.range n).map fun i : Nat => k + (i : Int)
theorem marksI_len (k : Int) (n : Nat) : (marksI k n).length = n := by simp [marksI]
theorem marksI_succ (k : Int) (n : Nat) : marksI k (n + 1) = marksI k n ++ [k + (n : Int)] := by simp [marksI, List.range_succ]
/-- The marks that are laid, three a place. -/
def marksM (k : Int) (n : Nat) : List Ix.M := (List.range n).map fun i : Nat => (k + 3 * (i : Int), k + 3 * (i : Int) + 1, k + 3 * (i : Int) + 1 + 1)
theorem marksM_len (k : Int) (n : Nat) : (marksM k n).length = n := by simp [marksM]
theorem marksM_succ (k : Int) (n : Nat) : marksM k (n + 1) = marksM k n ++ [(k + 3 * (n : Int), k + 3 * (n : Int) + 1, k + 3 * (n : Int) + 1 + 1)] := by simp [marksM, List.range_succ]
theorem marksM_at (k : Int) (n j : Nat) (h : j < n) : Ix.nm (marksM k n) j = k + 3 * (j : Int) ∧ Ix.vr (marksM k n) j = k + 3 * (j : Int) + 1 ∧ Ix.sm (marksM k n) j = k + 3 * (j : Int) + 1 + 1 := by
  simp [Ix.nm, Ix.vr, Ix.sm, marksM, h]
theorem flat3_app (a b : List Ix.M) : flat3 (a ++ b) = flat3 a ++ flat3 b := by unfold flat3; rw [List.flatMap_append]
theorem mark_setI (k : Int) (l : List Int) (j : Nat) (h : j < l.length) : ((marksI k j ++ l.drop j).map (Value.int .i64)).set j (.int .i64 (k + j)) = (marksI k (j + 1) ++ l.drop (j + 1)).map (Value.int .i64) := by
  rw [List.drop_eq_getElem_cons h, List.map_append, List.map_cons, List.set_append_right _ _ (by simp [marksI_len]), marksI_succ, List.map_append, List.map_append, List.length_map, marksI_len, Nat.sub_self, List.set_cons_zero, List.append_assoc]
  rfl
theorem mark_setM (k : Int) (l : List Ix.M) (j : Nat) (h : j < l.length) : (((flat3 (marksM k j ++ l.drop j)).set (j * 3) (.int .i64 (k + 3 * j))).set (j * 3 + 1) (.int .i64 (k + 3 * j + 1))).set (j * 3 + 2) (.int .i64 (k + 3 * j + 1 + 1)) = flat3 (marksM k (j + 1) ++ l.drop (j + 1)) := by
  have hlen : (flat3 (marksM k j)).length = j * 3 := by rw [(flat3_cells _).1, marksM_len]
  rw [List.drop_eq_getElem_cons h, flat3_app, List.set_append_right _ _ (by omega), List.set_append_right _ _ (by omega), List.set_append_right _ _ (by omega), hlen, Nat.sub_self, Nat.add_sub_cancel_left, Nat.add_sub_cancel_left, marksM_succ, flat3_app, flat3_app]
  rw [List.append_assoc]
  rfl
theorem FillI.own {w : World} {g B : Nat} {l : List Int} (h : FillI w g l l.length) (hB : B ≤ g) (hl : l.length ≤ 1048576) : OwI B w (.slice (some ⟨g, 0, none⟩) l.length l.length) l := by
  obtain ⟨C, h1, h2, h3⟩ := h
  refine ⟨by simp, .inr ⟨g, l.length, C, rfl, hB, h1, Nat.le_refl _, by unfold maxLen; omega, by rw [h2, Nat.mul_one], ?_⟩⟩
  apply List.ext_getElem?
  intro i
  rcases Nat.lt_or_ge i l.length with hi | hi
  · rw [List.getElem?_take_of_lt (by omega), Array.getElem?_toList, h3 i hi, List.getElem?_map, Ky.nth_get l i hi, List.getElem?_eq_getElem hi]
    rfl
  · rw [List.getElem?_eq_none (by simp; omega), List.getElem?_eq_none (by simp; omega)]
theorem FillM.own {w : World} {g B : Nat} {l : List Ix.M} (h : FillM w g l l.length) (hB : B ≤ g) (hl : l.length ≤ 1048576) : OwM B w (.slice (some ⟨g, 0, none⟩) l.length l.length) l := by
  obtain ⟨C, h1, h2, h3⟩ := h
  have hf := (flat3_cells l).1
  refine ⟨hf, .inr ⟨g, l.length, C, rfl, hB, h1, Nat.le_refl _, by unfold maxLen; omega, h2, ?_⟩⟩
  apply List.ext_getElem?
  intro i
  rcases Nat.lt_or_ge i (l.length * 3) with hi | hi
  · rw [List.getElem?_take_of_lt (by omega), Array.getElem?_toList]
    obtain ⟨a0, a1, a2⟩ := flat3_at l (i / 3) (by omega)
    obtain ⟨b0, b1, b2⟩ := h3 (i / 3) (by omega)
    have hm : i % 3 = 0 ∨ i % 3 = 1 ∨ i % 3 = 2 := by omega
    rcases hm with hm | hm | hm
    · have e : i = i / 3 * 3 := by omega
      rw [e, b0, a0]
    · have e : i = i / 3 * 3 + 1 := by omega
      rw [e, b1, a1]
    · have e : i = i / 3 * 3 + 2 := by omega
      rw [e, b2, a2]
  · rw [List.getElem?_eq_none (by simp; omega), List.getElem?_eq_none (by omega)]

set_option maxHeartbeats 2000000 in
set_option maxRecDepth 100000 in
theorem markIntS_any (w : World) (v : Value) (l : List Int) (B : Nat) (k : Int) (h : OwI B w v l) (hl : l.length ≤ 1048576) (k0 : 0 ≤ k) (k1 : k ≤ 1000000000) :
    Calls Tryz.prog 41 #[v, .int .i64 k] w fun e w' => e = .returned (.int .i64 (k + l.length)) ∧ OwI B w' v (marksI k l.length) ∧ w.grownBy w' v.ownBlock := by
  obtain ⟨a, cap, rfl⟩ := own_formS h
  have H := hide h
  clear h
  go_enter Tryz.func41, Tryz.ntmps41
  go_wp2_with fail
  go_loopw [1, 5] (fun kv i w' => ∃ j : Nat, j ≤ l.length ∧ i = .int .i64 j ∧ kv = .int .i64 (k + j) ∧ w'.ownsRow B 3 1 (.slice a l.length cap) l.length ((marksI k j ++ l.drop j).map (Value.int .i64)) ∧ w.grownBy w' (Value.slice a l.length cap).ownBlock) (fun _ i _ => l.length - (intOf i).toNat)
  case atStart => exact ⟨0, Nat.zero_le _, rfl, by simp, by simpa [marksI] using unhide H, grown_refl _ _⟩
  case round =>
    obtain ⟨j, hj, rfl, rfl, ho, hg⟩ := hrel
    have HO := hide ho
    have HG := hide hg
    by_cases hlt : j < l.length
    · obtain ⟨gb, cp, e, _, hgl⟩ := ho.form (by omega)
      injection e with e1 _ e3
      subst e1 e3
      have c1 : ∃ y, wr.cell? ⟨gb, j, none⟩ = some y := by
        rw [ho.cellAt _ (by omega)]
        exact ⟨_, List.getElem?_eq_getElem (by simp [marksI_len]; omega)⟩
      obtain ⟨y1, c1⟩ := c1
      have f1 : wr.frozen? ⟨gb, j, none⟩ = false := ho.frozenAt _
      have hi0 : (0 : Int) ≤ (j : Int) := Int.natCast_nonneg _
      have hi1 : (j : Int) < (l.length : Int) := by omega
      have HSET := hide (mark_setI k l j hlt)
      clear ho hg
      go_wp2_with fail
      have h1 := (unhide HO).stored j (.int .i64 (k + j))
      go_roundw
      case rel =>
        refine ⟨j + 1, by omega, by go_num, by go_num, ?_, (unhide HG).trans h1.2⟩
        rw [← unhide HSET]
        exact h1.1
      case measure => simp [intOf]; omega
    · obtain rfl : j = l.length := by omega
      rw [List.drop_length, List.append_nil] at HO
      have HO2 : Hid (OwI B wr (.slice a l.length cap) (marksI k l.length)) := by
        show World.ownsRow _ _ _ _ _ _ _
        rw [marksI_len]
        exact unhide HO
      clear ho hg hlt
      go_wp2
      go_ret
      exact ⟨rfl, unhide HO2, unhide HG⟩

set_option maxHeartbeats 2000000 in
set_option maxRecDepth 100000 in
theorem heldIntS_any (w : World) (v : Value) (n : Nat) (B : Nat) (k : Int) (h : OwI B w v (marksI k n)) (hl : n ≤ 1048576) (k0 : 0 ≤ k) (k1 : k ≤ 1000000000) :
    Calls Tryz.prog 43 #[v, .int .i64 k] w fun e w' => e = .returned (.int .i64 (k + n)) ∧ w' = w := by
  obtain ⟨a, cap, hv⟩ := own_formS h
  rw [marksI_len] at hv
  subst hv
  have h' : w.ownsRow B 3 1 (.slice a n cap) n ((marksI k n).map (Value.int .i64)) := by
    have := h
    unfold OwI at this
    rwa [marksI_len] at this
  have H := hide h'
  clear h h'
  go_enter Tryz.func43, Tryz.ntmps43
  go_wp2_with fail
  go_loop [1, 5] (fun kv i => ∃ j : Nat, j ≤ n ∧ i = .int .i64 j ∧ kv = .int .i64 (k + j)) (fun _ i => n - (intOf i).toNat)
  case atStart => exact ⟨0, Nat.zero_le _, rfl, by simp⟩
  case round =>
    obtain ⟨j, hj, rfl, rfl⟩ := hrel
    by_cases hlt : j < n
    · obtain ⟨gb, cp, e, _, hgl⟩ := (unhide H).form (by omega)
      injection e with e1 _ e3
      subst e1 e3
      have c1 : w.cell? ⟨gb, j, none⟩ = some (.int .i64 (k + j)) := by rw [(unhide H).cellAt _ (by omega)]; simp [marksI, hlt]
      have hi0 : (0 : Int) ≤ (j : Int) := Int.natCast_nonneg _
      have hi1 : (j : Int) < (n : Int) := by omega
      have b1 : (k + (j : Int) != k + (j : Int)) = false := by simp
      go_wp2
      go_round
      case rel => exact ⟨j + 1, by omega, by go_num, by go_num⟩
      case measure => simp [intOf]; omega
    · obtain rfl : j = n := by omega
      go_wp2
      go_ret
      exact ⟨rfl, rfl⟩

end Go.Proofs.YtkhanndmbpemfaaGreatDoor

/- What the laws' markRoot, heldRoot, markIndex, heldIndex, markTrust and heldTrust do: marks are laid into the rows, and nowhere else; they are read again. -/
namespace Go.Proofs.YtkhanndmbpemfaaGreatDoor
open Go.RowKit

/-- All that was there stays but blocks among N. -/
structure Fr (N : Nat → Prop) (w w' : World) : Prop where
  os : w'.os = w.os
  tape : w'.tape = w.tape
  output : w'.output = w.output
  size : w.heap.size ≤ w'.heap.size
  block : ∀ k, k < w.heap.size → ¬ N k → w'.heap[k]? = w.heap[k]?
theorem Fr.trans {N M : Nat → Prop} {w w1 w2 : World} (h : Fr N w w1) (h2 : Fr M w1 w2) : Fr (fun k => N k ∨ M k) w w2 :=
  ⟨h2.os.trans h.os, h2.tape.trans h.tape, h2.output.trans h.output, Nat.le_trans h.size h2.size, fun k hk hn => (h2.block k (Nat.lt_of_lt_of_le hk h.size) (fun hm => hn (.inr hm))).trans (h.block k hk (fun hm => hn (.inl hm)))⟩
theorem Fr.of_below {N : Nat → Prop} {w w' : World} (h : Below w.heap.size w w') : Fr N w w' := ⟨h.os, h.tape, h.output, h.size, fun k hk _ => h.block k hk⟩
theorem Fr.of_grown {w w' : World} {r : Option Nat} (h : w.grownBy w' r) : Fr (fun k => r = some k) w w' := ⟨h.os, h.tape, h.output, h.size, fun k hk hn => h.block k hk (fun e => hn e.symm)⟩
theorem Fr.weak {N M : Nat → Prop} {w w' : World} (h : Fr N w w') (hm : ∀ k, N k → M k) : Fr M w w' := ⟨h.os, h.tape, h.output, h.size, fun k hk hn => h.block k hk (fun hx => hn (hm k hx))⟩
theorem Fr.below {N : Nat → Prop} {B : Nat} {w w' : World} (h : Fr N w w') (hB : B ≤ w.heap.size) (hN : ∀ k, N k → B ≤ k) : Below B w w' :=
  ⟨h.os, h.tape, h.output, h.size, fun k hk => h.block k (by omega) (fun hn => by have := hN k hn; omega)⟩
theorem Fr.own {N : Nat → Prop} {w w' : World} {B sz n : Nat} {t : TypeId} {v : Value} {xs : List Value} (h : Fr N w w') (ho : w.ownsRow B t sz v n xs) (hN : ∀ k, v.ownBlock = some k → ¬ N k) : w'.ownsRow B t sz v n xs :=
  own_keepS ho (fun g _ e _ hg => h.block g (heapLt hg) (hN g e))

/-- A row of numbers and a row of metas are not one. -/
theorem own_two {w : World} {B C : Nat} {v u : Value} {l : List Int} {m : List Ix.M} (h : OwI B w v l) (h2 : OwM C w u m) : ∀ k, v.ownBlock = some k → ¬ u.ownBlock = some k := by
  intro k hv hu
  obtain ⟨_, c, hc⟩ := own_row h k hv
  obtain ⟨_, c2, hc2⟩ := own_row h2 k hu
  rw [hc] at hc2
  injection hc2 with hc2
  injection hc2 with _ hc2 _
  revert hc2
  decide
end Go.Proofs.YtkhanndmbpemfaaGreatDoor

/- Packages in order, as plain data: one more in its place keeps the order. -/
namespace Go.Proofs.YtkhanndmbpemfaaGreatDoor.Ix
open Pk

theorem pg_get {l : List Pg} {i : Nat} (hi : i < l.length) : pg l i = l[i] := by
  unfold pg
  rw [List.getD_eq_getElem?_getD, List.getElem?_eq_getElem hi]
  rfl
theorem ahead_trans {a b c : Pg} (h1 : ahead a b = true) (h2 : ahead b c = true) : ahead a c = true := by
  unfold ahead less at *
  simp only [Bool.or_eq_true, Bool.and_eq_true, decide_eq_true_eq] at *
  omega
theorem pkgsOk_pair {l : List Pg} : pkgsOk l = true ↔ (∀ x ∈ l, pOk x = true) ∧ l.Pairwise (fun x y => ahead x y = true) := by
  constructor
  · intro h
    refine ⟨fun x hx => ?_, ?_⟩
    · obtain ⟨i, hi, e⟩ := List.getElem_of_mem hx
      have := pkgs_pOk h hi
      rw [pg_get hi, e] at this
      exact this
    · rw [List.pairwise_iff_getElem]
      intro i j hi hj hij
      have := pkgs_lt h hij hj
      rw [pg_get hi, pg_get hj] at this
      exact this
  · rintro ⟨h1, h2⟩
    rw [List.pairwise_iff_getElem] at h2
    refine pkgsOk_good (fun i hi => ?_)
    unfold pkgGood
    rw [h1 _ (pg_mem hi), Bool.true_and]
    rcases Nat.eq_zero_or_pos i with h0 | h0
    · rw [decide_eq_true h0, Bool.true_or]
    · have := h2 (i - 1) i (by omega) hi (by omega)
      rw [pg_get hi, pg_get (show i - 1 < l.length by omega)]
      rw [Bool.or_eq_true]
      exact .inr this
theorem wth_ok {l : List Pg} {p : Pg} (h : pkgsOk l = true) (hp : pOk p = true) : pkgsOk (wth l p) = true := by
  rw [pkgsOk_pair] at h ⊢
  obtain ⟨h1, h2⟩ := h
  unfold wth
  refine ⟨fun x hx => ?_, ?_⟩
  · rw [List.mem_append, List.mem_append, List.mem_filter, List.mem_filter, List.mem_singleton] at hx
    rcases hx with (hx | hx) | hx
    · exact h1 x hx.1
    · rw [hx]; exact hp
    · exact h1 x hx.1
  · rw [List.pairwise_append, List.pairwise_append]
    refine ⟨⟨h2.filter _, List.pairwise_singleton _ _, fun a ha b hb => ?_⟩, h2.filter _, fun a ha b hb => ?_⟩
    · rw [List.mem_singleton] at hb
      rw [hb]
      exact (List.mem_filter.1 ha).2
    · have hb2 : ahead p b = true := (List.mem_filter.1 hb).2
      rw [List.mem_append, List.mem_singleton] at ha
      rcases ha with ha | ha
      · exact ahead_trans (List.mem_filter.1 ha).2 hb2
      · rw [ha]; exact hb2
end Go.Proofs.YtkhanndmbpemfaaGreatDoor.Ix

/- Rows of packages that are not long; what of marks' frames the exact laws use. -/
namespace Go.Proofs.YtkhanndmbpemfaaGreatDoor
open Go.RowKit

def small (A : List Ix.Pg) : Prop := A.length ≤ 1000 ∧ ∀ p ∈ A, p.2.2.1.length ≤ 1000 ∧ p.2.2.2.length ≤ 1000
theorem small.els {A : List Ix.Pg} (h : small A) {els : List El} (hm : els.map (·.1) = A) : els.length ≤ 1000 ∧ ∀ e ∈ els, e.1.2.2.1.length ≤ 1000 ∧ e.1.2.2.2.length ≤ 1000 :=
  ⟨by rw [← List.length_map (f := fun x : El => x.1), hm]; exact h.1, fun e he => h.2 e.1 (by rw [← hm]; exact List.mem_map.2 ⟨e, he, rfl⟩)⟩
theorem small.sub {A l : List Ix.Pg} (h : small l) (hs : ∀ p ∈ A, p ∈ l) (hl : A.length ≤ l.length) : small A := ⟨Nat.le_trans hl h.1, fun p hp => h.2 p (hs p hp)⟩
theorem small.nil : small [] := ⟨Nat.zero_le _, fun p hp => (by cases hp)⟩
theorem small_pkgs {l : List Ix.Pg} (h : Ix.pkgsOk l = true) : small l := by
  refine ⟨by have := Ix.pkgs_len h; omega, fun p hp => ?_⟩
  obtain ⟨i, hi, hie⟩ := List.getElem_of_mem hp
  have hq := Ix.pkgs_pOk h hi
  rw [Ix.pg_get hi, hie] at hq
  unfold Ix.pOk Pk.pkgOk at hq
  rw [Bool.and_eq_true, Bool.and_eq_true, Bool.and_eq_true] at hq
  have h1 := (Pk.filesOk_get hq.1.2).1
  have h2 := (Pk.depsOk_get hq.2).1
  exact ⟨by omega, by omega⟩
theorem PAns.pksA {B : Nat} {w : World} {v : Value} {els : List El} {A : List Ix.Pg} (h : PAns B w v els) (hm : els.map (·.1) = A) (hA : small A) : Pks (fun b => B ≤ b) w v A := by
  obtain ⟨h1, h2⟩ := hA.els hm
  have := h.pks h1 h2
  rw [hm] at this
  exact this
theorem PAns.fr {N : Nat → Prop} {B : Nat} {w w' : World} {v : Value} {l : List El} (h : PAns B w v l) (hs : Fr N w w') (hN : ∀ g, blkP v l g → ¬ N g) : PAns B w' v l := h.keep (fun g hg => hs.block g (h.lt g hg).2 (hN g hg))
theorem WrP.keepN {N : Nat → Prop} {w w' : World} {g n : Nat} (h : WrP N w g n) (hb : ∀ k, k < w.heap.size → N k → w'.heap[k]? = w.heap[k]?) : WrP N w' g n := by
  obtain ⟨C, h1, h2, h3, h4⟩ := h
  refine ⟨C, (hb _ (heapLt h1) h3).trans h1, h2, h3, fun i hi => ?_⟩
  obtain ⟨x, y, g1, n1, g2, n2, k1, k2, k3, k4, k5⟩ := h4 i hi
  exact ⟨x, y, g1, n1, g2, n2, k1, k2, k3, k4.keep (hb _ k4.lt k2.1), k5.keep (hb _ k5.lt k2.2)⟩
theorem WrP.fr {N M : Nat → Prop} {w w' : World} {g n : Nat} (h : WrP N w g n) (hs : Fr M w w') (hd : ∀ b, N b → ¬ M b) : WrP N w' g n := h.keepN (fun k hk hn => hs.block k hk (hd k hn))
theorem WrP.stays {N M : Nat → Prop} {w w' : World} {g n : Nat} (h : WrP N w g n) (hs : Stays M w w') (hd : ∀ b, N b → ¬ M b) : WrP N w' g n := h.keepN (fun k hk hn => hs.block k hk (hd k hn))
theorem WrP.lt {N : Nat → Prop} {w : World} {g n : Nat} (h : WrP N w g n) : g < w.heap.size := by obtain ⟨C, h1, _⟩ := h; exact heapLt h1
/-- From a world on, all that was there stays. -/
theorem Stays.belowB {N : Nat → Prop} {w w' : World} {B : Nat} (h : Stays N w w') (hB : B ≤ w.heap.size) (hN : ∀ b, b < B → ¬ N b) : Below B w w' := ⟨h.os, h.tape, h.output, h.size, fun k hk => h.block k (by omega) (hN k hk)⟩
theorem FillI.lt {w : World} {g k : Nat} {l : List Int} (h : FillI w g l k) : g < w.heap.size := by obtain ⟨C, h1, _⟩ := h; exact heapLt h1
theorem FillM.lt {w : World} {g k : Nat} {l : List Ix.M} (h : FillM w g l k) : g < w.heap.size := by obtain ⟨C, h1, _⟩ := h; exact heapLt h1
theorem FillP.lt {w : World} {g k : Nat} {l : List Ix.Pg} (h : FillP w g l k) : g < w.heap.size := by obtain ⟨C, h1, _⟩ := h; exact heapLt h1
theorem PairsIn.later {w w' : World} {x : Option Addr × Nat × Nat} (h : PairsIn w x) (hb : Below w.heap.size w w') : PairsIn w' x := ⟨h.1, fun hs => by obtain ⟨l, h1, h2⟩ := h.2 hs; exact ⟨l, h1, h2.later hb⟩⟩
theorem PkgsIn.later {w w' : World} {a : Option Addr} {n c : Nat} (h : PkgsIn w a n c) (hb : Below w.heap.size w w') : PkgsIn w' a n c := by
  refine ⟨h.1, fun hs => ?_⟩
  obtain ⟨q, hrow, hp⟩ := h.2 hs
  refine ⟨q, fun hn => ?_, fun i hi => ⟨(hp i hi).1.later hb, (hp i hi).2.later hb⟩⟩
  obtain ⟨b, off, ha, hbs, hc⟩ := hrow hn
  refine ⟨b, off, ha, Nat.lt_of_lt_of_le hbs hb.size, fun i hi => ?_⟩
  obtain ⟨c0, c1, c2, c3⟩ := hc i hi
  exact ⟨(hb.cell hbs).trans c0, (hb.cell hbs).trans c1, (hb.cell hbs).trans c2, (hb.cell hbs).trans c3⟩
end Go.Proofs.YtkhanndmbpemfaaGreatDoor

/- How what came in is read: a row of numbers. -/
namespace Go.Proofs.YtkhanndmbpemfaaGreatDoor
open Go.RowKit Go.ChangeShapes Go.WideShapes

theorem add_noneI (b off i : Nat) : (⟨b, off, none⟩ : Addr).add i = ⟨b, off + i, none⟩ := by unfold Addr.add; split <;> simp_all
theorem cellLtI {w : World} {a : Addr} {v : Value} (h : w.cell? a = some v) : a.block < w.heap.size := by
  rcases Nat.lt_or_ge a.block w.heap.size with h1 | h1
  · exact h1
  · rw [World.cell?, Array.getElem?_eq_none h1] at h; cases h

/-- What is known of a row of numbers that came in. -/
def RowIn (W : World) (a : Option Addr) (n c : Nat) : Prop := n ≤ 9223372036854775807 ∧ (n ≤ 1048576 → ∃ l : List Int, l.length = n ∧ Ins W (.slice a n c) l)

theorem open_cell {H : Type} {enc : TypeId × Value → H} {W : World} {base fuel : Nat} {spare : Nat → Bool} {held : Bool} {v : Value} {x : DataW H × List MemPlace}
    (h : DataW.trod enc Tryz.prog W base spare held fuel 23 [v] = some x) : ∃ a n c, v = .slice a n c ∧ RowIn W a n c := by
  rcases open_ints Tryz.underlying23 Tryz.underlying3 (by kernel_rfl) h with ⟨hv, _⟩ | ⟨a, len, cap, zs, hv, _, hl, hm, hz, _, hx, _⟩
  · injection hv with hv _
    exact ⟨none, 0, 0, hv, by omega, fun _ => ⟨[], rfl, Ins.nil W⟩⟩
  · injection hv with hv _
    unfold maxLen at hm
    refine ⟨some a, len, cap, hv, by omega, fun hs => ?_⟩
    have hlz : len ≤ zs.length := by rw [hz]; split <;> omega
    have hlt : (zs.take len).length = len := by rw [List.length_take]; omega
    refine ⟨zs.take len, hlt, some a, cap, by rw [hlt], by omega, fun hp => ?_⟩
    obtain ⟨b, off, spot⟩ := a
    have h0 := hx 0 (by omega)
    have hspot : spot = none := by simpa [Addr.add] using World.cell?_spot h0
    subst hspot
    refine ⟨b, off, rfl, ?_, fun i hi => ?_⟩
    · have := cellLtI h0
      rw [add_noneI] at this
      exact this
    · have hi' : i < len := by omega
      have := hx i (by omega)
      rw [add_noneI] at this
      rw [this]
      unfold Ky.nth
      rw [List.getD_eq_getElem?_getD, List.getD_eq_getElem?_getD, List.getElem?_take_of_lt hi']

set_option maxRecDepth 100000 in
theorem open_row {H : Type} {enc : TypeId × Value → H} {W : World} {base b0 : Nat} {r : Reach} {spare : Nat → Bool} {held : Bool} {v : Value} {d : DataW H} {p : List MemPlace} (hv : Value.okWide Tryz.prog W r b0 23 v)
    (h : DataW.Trod enc Tryz.prog W base spare held 23 v d p) : ∃ a n c, v = .slice a n c ∧ RowIn W a n c := by
  obtain ⟨a0, len0, cap0, rfl⟩ := okWide_slice Tryz.underlying23 hv
  obtain ⟨fuel, hf⟩ := h
  exact open_cell hf
end Go.Proofs.YtkhanndmbpemfaaGreatDoor
