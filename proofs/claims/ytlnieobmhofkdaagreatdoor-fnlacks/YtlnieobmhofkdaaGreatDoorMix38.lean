import Derived.Test.YtlnieobmhofkdaaGreatDoorMix8
import Derived.Test.YtlnieobmhofkdaaGreatDoorMix7
import Derived.Test.YtlnieobmhofkdaaGreatDoorMix24
import Derived.Laws.OwnMore
import Derived.Test.YtlnieobmhofkdaaGreatDoorAnsPW
import Derived.Test.YtlnieobmhofkdaaGreatDoorMix44
import Derived.Test.YtlnieobmhofkdaaGreatDoorMix13
import Derived.Test.YtlnieobmhofkdaaGreatDoorMix23
import Derived.Test.YtlnieobmhofkdaaGreatDoorTrimW
/- Rows of packages cut and put together out of a row that is owned. -/
namespace Go.Proofs.YtlnieobmhofkdaaGreatDoor
open Go.RowKit

theorem addP (b off i : Nat) : (⟨b, off, none⟩ : Addr).add i = ⟨b, off + i, none⟩ := by unfold Addr.add; split <;> simp_all
/-- What is drawn lies in slices. -/
def Sl (l : List El) : Prop := ∀ e ∈ l, e.2.1.oneCell' = true ∧ e.2.2.oneCell' = true
theorem flat4_one {l : List El} (h : Sl l) {t : List El} (ht : ∀ e ∈ t, e ∈ l) : ∀ u ∈ flat4 t, u.oneCell' = true := fun u hu => by
  unfold flat4 at hu
  obtain ⟨e, he, hu⟩ := List.mem_flatMap.1 hu
  have := h e (ht e he)
  simp only [List.mem_cons, List.not_mem_nil, or_false] at hu
  rcases hu with rfl | rfl | rfl | rfl
  · rfl
  · rfl
  · exact this.1
  · exact this.2
theorem one4 {x : El} (h1 : x.2.1.oneCell' = true) (h2 : x.2.2.oneCell' = true) : ∀ u ∈ [Value.int .i64 x.1.1, .int .i64 x.1.2.1, x.2.1, x.2.2], u.oneCell' = true := fun u hu => by
  simp only [List.mem_cons, List.not_mem_nil, or_false] at hu
  rcases hu with rfl | rfl | rfl | rfl
  · rfl
  · rfl
  · exact h1
  · exact h2
theorem POwn.sl {N : Nat → Prop} {B : Nat} {w : World} {v : Value} {l : List El} (h : POwn N B w v l) : Sl l := fun e he => by
  obtain ⟨a, c, h1⟩ := (h.el e he).1.slice
  obtain ⟨a2, c2, h2⟩ := (h.el e he).2.slice
  rw [h1, h2]
  exact ⟨rfl, rfl⟩
/-- The cells of an owned row, from a place on. -/
theorem newsP {w w' : World} {g cap s m : Nat} {B : Nat} {l t : List El} (h : w.ownsRow B 42 4 (.slice (some ⟨g, 0, none⟩) l.length cap) l.length (flat4 l)) (hb : Below m w w') (hgm : g < m) (ht : ∀ j, j < t.length → t[j]? = l[s + j]?) :
    ∀ j u, (flat4 t)[j]? = some u → w'.cell? ((⟨g, s * 4, none⟩ : Addr).add j) = some u := by
  intro j u hu
  have hj : j < t.length * 4 := by
    rcases Nat.lt_or_ge j (t.length * 4) with h | h
    · exact h
    · rw [List.getElem?_eq_none (by rw [flat4_len]; exact h)] at hu; cases hu
  have h2 := ht (j / 4) (by omega)
  rw [List.getElem?_eq_getElem (by omega : j / 4 < t.length)] at h2
  obtain ⟨a0, a1, a2, a3⟩ := flat4_at t (j / 4) _ (List.getElem?_eq_getElem (by omega : j / 4 < t.length))
  obtain ⟨c0, c1, c2, c3⟩ := flat4_at l (s + j / 4) _ h2.symm
  rw [addP, hb.cell hgm]
  refine own_cell h _ _ ?_
  have hm : j % 4 = 0 ∨ j % 4 = 1 ∨ j % 4 = 2 ∨ j % 4 = 3 := by omega
  rw [← hu]
  rcases hm with hm | hm | hm | hm
  · conv => rhs; rw [show j = j / 4 * 4 by omega]
    rw [show s * 4 + j = (s + j / 4) * 4 by omega, c0, a0]
  · conv => rhs; rw [show j = j / 4 * 4 + 1 by omega]
    rw [show s * 4 + j = (s + j / 4) * 4 + 1 by omega, c1, a1]
  · conv => rhs; rw [show j = j / 4 * 4 + 2 by omega]
    rw [show s * 4 + j = (s + j / 4) * 4 + 2 by omega, c2, a2]
  · conv => rhs; rw [show j = j / 4 * 4 + 3 by omega]
    rw [show s * 4 + j = (s + j / 4) * 4 + 3 by omega, c3, a3]
theorem takeP {l : List El} {i : Nat} : ∀ j, j < (l.take i).length → (l.take i)[j]? = l[0 + j]? := fun j hj => by
  rw [List.length_take] at hj
  rw [Nat.zero_add, List.getElem?_take_of_lt (by omega)]
theorem dropP {l : List El} {i : Nat} : ∀ j, j < (l.drop i).length → (l.drop i)[j]? = l[i + j]? := fun j _ => by rw [List.getElem?_drop]
theorem emptyP (w : World) : (w.alloc (.cells #[] 42)).ownsRow w.heap.size 42 4 (.slice (some ⟨w.heap.size, 0, none⟩) 0 0) 0 [] :=
  ⟨by simp, .inr ⟨w.heap.size, 0, #[], rfl, Nat.le_refl _, heap_alloc_new _ _, Nat.le_refl _, by unfold maxLen; omega, by simp, by simp⟩⟩
theorem below2P (w : World) (o o2 : Obj) : Below w.heap.size w ((w.alloc o).alloc o2) := (below1 w o).trans ((below1 _ o2).mono (below1 w o).size)
theorem emptyP2 (w : World) (o : Obj) : ((w.alloc o).alloc (.cells #[] 42)).ownsRow w.heap.size 42 4 (.slice (some ⟨w.heap.size + 1, 0, none⟩) 0 0) 0 [] := by
  have h := own_baseP (emptyP (w.alloc o)) (below1 w o).size
  rwa [sz1'] at h
def cutE (l : List El) (k : Nat) : List El := l.take k ++ l.drop (k + 1)
def twoE (l : List El) (k : Nat) (x : El) : List El := (l.take k ++ [x]) ++ l.drop k
theorem cutE_map (l : List El) (k : Nat) : (cutE l k).map (·.1) = Ix.cutP (l.map (·.1)) k := by unfold cutE Ix.cutP; rw [List.map_append, List.map_take, List.map_drop]
theorem twoE_map (l : List El) (k : Nat) (x : El) (hx : l[k]? = some x) : (twoE l k x).map (·.1) = Ix.twoP (l.map (·.1)) k := by
  unfold twoE Ix.twoP Ix.pg
  rw [List.map_append, List.map_append, List.map_take, List.map_drop, List.getD_eq_getElem?_getD, List.getElem?_map, hx]
  rfl
/-- Packages of a row that was drawn, in a row of another place. -/
theorem POwn.of {B W : Nat} {w w' : World} {v v' : Value} {l t : List El} (h : POx B w v l) (hb : Below w.heap.size w w') (ho : w'.ownsRow W 42 4 v' t.length (flat4 t)) (ht : ∀ e ∈ t, e ∈ l) (hl : t.length ≤ 1000) : Pks (fun _ => True) w' v' (t.map (·.1)) :=
  POwn.pks (B := W) ⟨ho, fun e he => ⟨((h.el e (ht e he)).1.weak (fun _ _ => trivial)).later hb, ((h.el e (ht e he)).2.weak (fun _ _ => trivial)).later hb⟩⟩ (fun _ _ => trivial) (by omega)
theorem cutE_own {B : Nat} {w : World} {v : Value} {k : List El} {i m : Nat} (h : w.ownsRow B 42 4 v (i + m) (flat4 (k.take i) ++ flat4 (k.drop (i + 1)))) (hm : i + m = k.length - 1 ∧ i < k.length) : w.ownsRow B 42 4 v (cutE k i).length (flat4 (cutE k i)) := by
  have hl : (cutE k i).length = i + m := by unfold cutE; rw [List.length_append, List.length_take, List.length_drop]; omega
  rw [hl]
  unfold cutE
  rw [flat4_app]
  exact h
theorem cutE_len {k : List El} {i : Nat} (hi : i < k.length) : (cutE k i).length = k.length - 1 := by unfold cutE; rw [List.length_append, List.length_take, List.length_drop]; omega
theorem twoE_len {k : List El} {i : Nat} {x : El} (hi : i < k.length) : (twoE k i x).length = k.length + 1 := by unfold twoE; rw [List.length_append, List.length_append, List.length_take, List.length_drop]; simp only [List.length_cons, List.length_nil]; omega
theorem cutE_mem {k : List El} {i : Nat} : ∀ e ∈ cutE k i, e ∈ k := fun e he => by
  unfold cutE at he
  rcases List.mem_append.1 he with h | h
  · exact List.mem_of_mem_take h
  · exact List.mem_of_mem_drop h
theorem twoE_mem {k : List El} {i : Nat} {x : El} (hx : k[i]? = some x) : ∀ e ∈ twoE k i x, e ∈ k := fun e he => by
  unfold twoE at he
  rcases List.mem_append.1 he with h | h
  · rcases List.mem_append.1 h with h | h
    · exact List.mem_of_mem_take h
    · rw [List.mem_singleton] at h
      subst h
      exact List.mem_of_getElem? hx
  · exact List.mem_of_mem_drop h
theorem twoE_own {B : Nat} {w : World} {v : Value} {k : List El} {i m : Nat} {x : El} (h : w.ownsRow B 42 4 v (i + 1 + m) (flat4 (k.take i) ++ [.int .i64 x.1.1, .int .i64 x.1.2.1, x.2.1, x.2.2] ++ flat4 (k.drop i))) (hm : i + m = k.length ∧ i < k.length) : w.ownsRow B 42 4 v (twoE k i x).length (flat4 (twoE k i x)) := by
  rw [twoE_len hm.2, show k.length + 1 = i + 1 + m by omega]
  unfold twoE
  rw [flat4_app, flat4_app]
  exact h
end Go.Proofs.YtlnieobmhofkdaaGreatDoor

/- What the laws' markIntS, heldIntS, markMetaS, heldMetaS and those over roots, indexes and trust do: marks are laid into a row, and nowhere else; they are read again. -/
namespace Go.Proofs.YtlnieobmhofkdaaGreatDoor
open Go.RowKit

/-- The marks that are laid, one a place. -/
def marksI (k : Int) (n : Nat) : List Int := (List.range n).map fun i : Nat => k + (i : Int)
theorem marksI_len (k : Int) (n : Nat) : (marksI k n).length = n := by simp [marksI]
theorem marksI_succ (k : Int) (n : Nat) : marksI k (n + 1) = marksI k n ++ [k + (n : Int)] := by simp [marksI, List.range_succ]
/-- The marks that are laid, three a place. -/
def marksM (k : Int) (n : Nat) : List Ix.M := (List.range n).map fun i : Nat => (k + 3 * (i : Int), k + 3 * (i : Int) + 1, k + 3 * (i : Int) + 1 + 1)
theorem marksM_len (k : Int) (n : Nat) : (marksM k n).length = n := by simp [marksM]
theorem marksM_succ (k : Int) (n : Nat) : marksM k (n + 1) = marksM k n ++ [(k + 3 * (n : Int), k + 3 * (n : Int) + 1, k + 3 * (n : Int) + 1 + 1)] := by simp [marksM, List.range_succ]
theorem marksM_at (k : Int) (n j : Nat) (h : j < n) : Ix.nm (marksM k n) j = k + 3 * (j : Int) ∧ Ix.vr (marksM k n) j = k + 3 * (j : Int) + 1 ∧ Ix.sm (marksM k n) j = k + 3 * (j : Int) + 1 + 1 := by
  simp [Ix.nm, Ix.vr, Ix.sm, marksM, h]
theorem flat3_app (a b : List Ix.M) : flat3 (a ++ b) = flat3 a ++ flat3 b := by unfold flat3; rw [List.flatMap_append]
theorem mark_setI (k : Int) (l : List Int) (j : Nat) (h : j < l.length) : ((marksI k j ++ l.drop j).map (Value.int .i64)).set j (.int .i64 (k + j)) = (marksI k (j + 1) ++ l.drop (j + 1)).map (Value.int .i64) := by
  rw [List.drop_eq_getElem_cons h, List.map_append, List.map_cons, List.set_append_right _ _ (by simp [marksI_len]), marksI_succ, List.map_append, List.map_append, List.length_map, marksI_len, Nat.sub_self, List.set_cons_zero, List.append_assoc]
  rfl
theorem mark_setM (k : Int) (l : List Ix.M) (j : Nat) (h : j < l.length) : (((flat3 (marksM k j ++ l.drop j)).set (j * 3) (.int .i64 (k + 3 * j))).set (j * 3 + 1) (.int .i64 (k + 3 * j + 1))).set (j * 3 + 2) (.int .i64 (k + 3 * j + 1 + 1)) = flat3 (marksM k (j + 1) ++ l.drop (j + 1)) := by
  have hlen : (flat3 (marksM k j)).length = j * 3 := by rw [(flat3_cells _).1, marksM_len]
  rw [List.drop_eq_getElem_cons h, flat3_app, List.set_append_right _ _ (by omega), List.set_append_right _ _ (by omega), List.set_append_right _ _ (by omega), hlen, Nat.sub_self, Nat.add_sub_cancel_left, Nat.add_sub_cancel_left, marksM_succ, flat3_app, flat3_app]
  rw [List.append_assoc]
  rfl
theorem FillI.own {w : World} {g B : Nat} {l : List Int} (h : FillI w g l l.length) (hB : B ≤ g) (hl : l.length ≤ 1048576) : OwI B w (.slice (some ⟨g, 0, none⟩) l.length l.length) l := by
  obtain ⟨C, h1, h2, h3⟩ := h
  refine ⟨by simp, .inr ⟨g, l.length, C, rfl, hB, h1, Nat.le_refl _, by unfold maxLen; omega, by rw [h2, Nat.mul_one], ?_⟩⟩
  apply List.ext_getElem?
  intro i
  rcases Nat.lt_or_ge i l.length with hi | hi
  · rw [List.getElem?_take_of_lt (by omega), Array.getElem?_toList, h3 i hi, List.getElem?_map, Ky.nth_get l i hi, List.getElem?_eq_getElem hi]
    rfl
  · rw [List.getElem?_eq_none (by simp; omega), List.getElem?_eq_none (by simp; omega)]
theorem FillM.own {w : World} {g B : Nat} {l : List Ix.M} (h : FillM w g l l.length) (hB : B ≤ g) (hl : l.length ≤ 1048576) : OwM B w (.slice (some ⟨g, 0, none⟩) l.length l.length) l := by
  obtain ⟨C, h1, h2, h3⟩ := h
  have hf := (flat3_cells l).1
  refine ⟨hf, .inr ⟨g, l.length, C, rfl, hB, h1, Nat.le_refl _, by unfold maxLen; omega, h2, ?_⟩⟩
  apply List.ext_getElem?
  intro i
  rcases Nat.lt_or_ge i (l.length * 3) with hi | hi
  · rw [List.getElem?_take_of_lt (by omega), Array.getElem?_toList]
    obtain ⟨a0, a1, a2⟩ := flat3_at l (i / 3) (by omega)
    obtain ⟨b0, b1, b2⟩ := h3 (i / 3) (by omega)
    have hm : i % 3 = 0 ∨ i % 3 = 1 ∨ i % 3 = 2 := by omega
    rcases hm with hm | hm | hm
    · have e : i = i / 3 * 3 := by omega
      rw [e, b0, a0]
    · have e : i = i / 3 * 3 + 1 := by omega
      rw [e, b1, a1]
    · have e : i = i / 3 * 3 + 2 := by omega
      rw [e, b2, a2]
  · rw [List.getElem?_eq_none (by simp; omega), List.getElem?_eq_none (by omega)]

set_option maxHeartbeats 2000000 in
set_option maxRecDepth 100000 in
theorem markIntS_any (w : World) (v : Value) (l : List Int) (B : Nat) (k : Int) (h : OwI B w v l) (hl : l.length ≤ 1048576) (k0 : 0 ≤ k) (k1 : k ≤ 1000000000) :
    Calls Tryz.prog 128 #[v, .int .i64 k] w fun e w' => e = .returned (.int .i64 (k + l.length)) ∧ OwI B w' v (marksI k l.length) ∧ w.grownBy w' v.ownBlock := by
  obtain ⟨a, cap, rfl⟩ := own_formS h
  have H := hide h
  clear h
  go_enter Tryz.func128, Tryz.ntmps128
  go_wp2_with fail
  go_loopw [1, 5] (fun kv i w' => ∃ j : Nat, j ≤ l.length ∧ i = .int .i64 j ∧ kv = .int .i64 (k + j) ∧ w'.ownsRow B 3 1 (.slice a l.length cap) l.length ((marksI k j ++ l.drop j).map (Value.int .i64)) ∧ w.grownBy w' (Value.slice a l.length cap).ownBlock) (fun _ i _ => l.length - (intOf i).toNat)
  case atStart => exact ⟨0, Nat.zero_le _, rfl, by simp, by simpa [marksI] using unhide H, grown_refl _ _⟩
  case round =>
    obtain ⟨j, hj, rfl, rfl, ho, hg⟩ := hrel
    have HO := hide ho
    have HG := hide hg
    by_cases hlt : j < l.length
    · obtain ⟨gb, cp, e, _, hgl⟩ := ho.form (by omega)
      injection e with e1 _ e3
      subst e1 e3
      have c1 : ∃ y, wr.cell? ⟨gb, j, none⟩ = some y := by
        rw [ho.cellAt _ (by omega)]
        exact ⟨_, List.getElem?_eq_getElem (by simp [marksI_len]; omega)⟩
      obtain ⟨y1, c1⟩ := c1
      have f1 : wr.frozen? ⟨gb, j, none⟩ = false := ho.frozenAt _
      have hi0 : (0 : Int) ≤ (j : Int) := Int.natCast_nonneg _
      have hi1 : (j : Int) < (l.length : Int) := by omega
      have HSET := hide (mark_setI k l j hlt)
      clear ho hg
      go_wp2_with fail
      have h1 := (unhide HO).stored j (.int .i64 (k + j))
      go_roundw
      case rel =>
        refine ⟨j + 1, by omega, by go_num, by go_num, ?_, (unhide HG).trans h1.2⟩
        rw [← unhide HSET]
        exact h1.1
      case measure => simp [intOf]; omega
    · obtain rfl : j = l.length := by omega
      rw [List.drop_length, List.append_nil] at HO
      have HO2 : Hid (OwI B wr (.slice a l.length cap) (marksI k l.length)) := by
        show World.ownsRow _ _ _ _ _ _ _
        rw [marksI_len]
        exact unhide HO
      clear ho hg hlt
      go_wp2
      go_ret
      exact ⟨rfl, unhide HO2, unhide HG⟩

set_option maxHeartbeats 2000000 in
set_option maxRecDepth 100000 in
theorem markMetaS_any (w : World) (v : Value) (l : List Ix.M) (B : Nat) (k : Int) (h : OwM B w v l) (hl : l.length ≤ 1048576) (k0 : 0 ≤ k) (k1 : k ≤ 1000000000) :
    Calls Tryz.prog 129 #[v, .int .i64 k] w fun e w' => e = .returned (.int .i64 (k + 3 * l.length)) ∧ OwM B w' v (marksM k l.length) ∧ w.grownBy w' v.ownBlock := by
  obtain ⟨a, cap, rfl⟩ := own_formS h
  have H := hide h
  clear h
  go_enter Tryz.func129, Tryz.ntmps129
  go_wp2_with fail
  go_loopw [1, 5] (fun kv i w' => ∃ j : Nat, j ≤ l.length ∧ i = .int .i64 j ∧ kv = .int .i64 (k + 3 * j) ∧ w'.ownsRow B 55 3 (.slice a l.length cap) l.length (flat3 (marksM k j ++ l.drop j)) ∧ w.grownBy w' (Value.slice a l.length cap).ownBlock) (fun _ i _ => l.length - (intOf i).toNat)
  case atStart => exact ⟨0, Nat.zero_le _, rfl, by simp, by simpa [marksM] using unhide H, grown_refl _ _⟩
  case round =>
    obtain ⟨j, hj, rfl, rfl, ho, hg⟩ := hrel
    have HO := hide ho
    have HG := hide hg
    by_cases hlt : j < l.length
    · obtain ⟨gb, cp, e, _, hgl⟩ := ho.form (by omega)
      injection e with e1 _ e3
      subst e1 e3
      have hat := flat3_at (marksM k j ++ l.drop j) j (by rw [List.length_append, marksM_len, List.length_drop]; omega)
      have c1 : wr.cell? ⟨gb, j * 3, none⟩ = some (.int .i64 (Ix.nm (marksM k j ++ l.drop j) j)) := by rw [ho.cellAt _ (by omega)]; exact hat.1
      have c2 : wr.cell? ⟨gb, j * 3 + 1, none⟩ = some (.int .i64 (Ix.vr (marksM k j ++ l.drop j) j)) := by rw [ho.cellAt _ (by omega)]; exact hat.2.1
      have c3 : wr.cell? ⟨gb, j * 3 + 2, none⟩ = some (.int .i64 (Ix.sm (marksM k j ++ l.drop j) j)) := by rw [ho.cellAt _ (by omega)]; exact hat.2.2
      have f1 : wr.frozen? ⟨gb, j * 3, none⟩ = false := ho.frozenAt _
      have f2 : wr.frozen? ⟨gb, j * 3 + 1, none⟩ = false := ho.frozenAt _
      have f3 : wr.frozen? ⟨gb, j * 3 + 2, none⟩ = false := ho.frozenAt _
      have hi0 : (0 : Int) ≤ (j : Int) := Int.natCast_nonneg _
      have hi1 : (j : Int) < (l.length : Int) := by omega
      have HSET := hide (mark_setM k l j hlt)
      clear ho hg hat
      go_wp2_with fail
      have h1 := (unhide HO).stored (j * 3) (.int .i64 (k + 3 * j))
      have h2 := h1.1.stored (j * 3 + 1) (.int .i64 (k + 3 * j + 1))
      have h3 := h2.1.stored (j * 3 + 2) (.int .i64 (k + 3 * j + 1 + 1))
      go_roundw
      case rel =>
        refine ⟨j + 1, by omega, by go_num, by go_num, ?_, (unhide HG).trans (h1.2.trans (h2.2.trans h3.2))⟩
        rw [← unhide HSET]
        exact h3.1
      case measure => simp [intOf]; omega
    · obtain rfl : j = l.length := by omega
      rw [List.drop_length, List.append_nil] at HO
      have HO2 : Hid (OwM B wr (.slice a l.length cap) (marksM k l.length)) := by
        show World.ownsRow _ _ _ _ _ _ _
        rw [marksM_len]
        exact unhide HO
      clear ho hg hlt
      go_wp2
      go_ret
      exact ⟨rfl, unhide HO2, unhide HG⟩

end Go.Proofs.YtlnieobmhofkdaaGreatDoor

/- What the laws' markRoot, heldRoot, markIndex, heldIndex, markTrust and heldTrust do: marks are laid into the rows, and nowhere else; they are read again. -/
namespace Go.Proofs.YtlnieobmhofkdaaGreatDoor
open Go.RowKit

/-- All that was there stays but blocks among N. -/
structure Fr (N : Nat → Prop) (w w' : World) : Prop where
  os : w'.os = w.os
  tape : w'.tape = w.tape
  output : w'.output = w.output
  size : w.heap.size ≤ w'.heap.size
  block : ∀ k, k < w.heap.size → ¬ N k → w'.heap[k]? = w.heap[k]?
theorem Fr.trans {N M : Nat → Prop} {w w1 w2 : World} (h : Fr N w w1) (h2 : Fr M w1 w2) : Fr (fun k => N k ∨ M k) w w2 :=
  ⟨h2.os.trans h.os, h2.tape.trans h.tape, h2.output.trans h.output, Nat.le_trans h.size h2.size, fun k hk hn => (h2.block k (Nat.lt_of_lt_of_le hk h.size) (fun hm => hn (.inr hm))).trans (h.block k hk (fun hm => hn (.inl hm)))⟩
theorem Fr.of_below {N : Nat → Prop} {w w' : World} (h : Below w.heap.size w w') : Fr N w w' := ⟨h.os, h.tape, h.output, h.size, fun k hk _ => h.block k hk⟩
theorem Fr.of_grown {w w' : World} {r : Option Nat} (h : w.grownBy w' r) : Fr (fun k => r = some k) w w' := ⟨h.os, h.tape, h.output, h.size, fun k hk hn => h.block k hk (fun e => hn e.symm)⟩
theorem Fr.weak {N M : Nat → Prop} {w w' : World} (h : Fr N w w') (hm : ∀ k, N k → M k) : Fr M w w' := ⟨h.os, h.tape, h.output, h.size, fun k hk hn => h.block k hk (fun hx => hn (hm k hx))⟩
theorem Fr.below {N : Nat → Prop} {B : Nat} {w w' : World} (h : Fr N w w') (hB : B ≤ w.heap.size) (hN : ∀ k, N k → B ≤ k) : Below B w w' :=
  ⟨h.os, h.tape, h.output, h.size, fun k hk => h.block k (by omega) (fun hn => by have := hN k hn; omega)⟩
theorem Fr.own {N : Nat → Prop} {w w' : World} {B sz n : Nat} {t : TypeId} {v : Value} {xs : List Value} (h : Fr N w w') (ho : w.ownsRow B t sz v n xs) (hN : ∀ k, v.ownBlock = some k → ¬ N k) : w'.ownsRow B t sz v n xs :=
  own_keepS ho (fun g _ e _ hg => h.block g (heapLt hg) (hN g e))

set_option maxHeartbeats 1000000 in
set_option maxRecDepth 100000 in
theorem markRoot_any (w : World) (n d : Int) (v : Value) (l : List Int) (B : Nat) (k : Int) (h : OwI B w v l) (hl : l.length ≤ 1048576) (k0 : 0 ≤ k) (k1 : k ≤ 1000000000) :
    Calls Tryz.prog 74 #[.agg #[.int .i64 n, v, .int .i64 d], .int .i64 k] w fun e w' => e = .returned (.int .i64 (k + l.length)) ∧ OwI B w' v (marksI k l.length) ∧ Fr (fun j => v.ownBlock = some j) w w' := by
  obtain ⟨a, cap, rfl⟩ := own_formS h
  have H := hide (own_later h (below1 w (.cells #[.int .i64 n, .slice a l.length cap, .int .i64 d] 25)))
  have HB := hide (below1 w (.cells #[.int .i64 n, .slice a l.length cap, .int .i64 d] 25))
  clear h
  go_enter Tryz.func74, Tryz.ntmps74
  go_wp2_with fail
  refine (markIntS_any _ _ l B k (unhide H) hl k0 k1).mono ?_
  rintro e w1 ⟨rfl, h1, h2⟩
  have H1 := hide (And.intro h1 (((Fr.of_below (N := fun j => (Value.slice a l.length cap).ownBlock = some j) (unhide HB)).trans (Fr.of_grown h2)).weak (fun k hk => hk.elim id id)))
  clear h1 h2 H HB
  go_wp2
  go_ret
  exact ⟨rfl, (unhide H1).1, (unhide H1).2⟩
set_option maxHeartbeats 1000000 in
set_option maxRecDepth 100000 in
theorem markIndex_any (w : World) (n d : Int) (v : Value) (l : List Ix.M) (B : Nat) (k : Int) (h : OwM B w v l) (hl : l.length ≤ 1048576) (k0 : 0 ≤ k) (k1 : k ≤ 1000000000) :
    Calls Tryz.prog 75 #[.agg #[.int .i64 n, .int .i64 d, v], .int .i64 k] w fun e w' => e = .returned (.int .i64 (k + 3 * l.length)) ∧ OwM B w' v (marksM k l.length) ∧ Fr (fun j => v.ownBlock = some j) w w' := by
  obtain ⟨a, cap, rfl⟩ := own_formS h
  have H := hide (own_later h (below1 w (.cells #[.int .i64 n, .int .i64 d, .slice a l.length cap] 28)))
  have HB := hide (below1 w (.cells #[.int .i64 n, .int .i64 d, .slice a l.length cap] 28))
  clear h
  go_enter Tryz.func75, Tryz.ntmps75
  go_wp2_with fail
  refine (markMetaS_any _ _ l B k (unhide H) hl k0 k1).mono ?_
  rintro e w1 ⟨rfl, h1, h2⟩
  have H1 := hide (And.intro h1 (((Fr.of_below (N := fun j => (Value.slice a l.length cap).ownBlock = some j) (unhide HB)).trans (Fr.of_grown h2)).weak (fun k hk => hk.elim id id)))
  clear h1 h2 H HB
  go_wp2
  go_ret
  exact ⟨rfl, (unhide H1).1, (unhide H1).2⟩
/-- A row of numbers and a row of metas are not one. -/
theorem own_two {w : World} {B C : Nat} {v u : Value} {l : List Int} {m : List Ix.M} (h : OwI B w v l) (h2 : OwM C w u m) : ∀ k, v.ownBlock = some k → ¬ u.ownBlock = some k := by
  intro k hv hu
  obtain ⟨_, c, hc⟩ := own_row h k hv
  obtain ⟨_, c2, hc2⟩ := own_row h2 k hu
  rw [hc] at hc2
  injection hc2 with hc2
  injection hc2 with _ hc2 _
  revert hc2
  decide
set_option maxHeartbeats 2000000 in
set_option maxRecDepth 100000 in
theorem markTrust_any (w : World) (t : Tr.T) (kv mv : Value) (B : Nat) (k : Int) (h : OwI B w kv t.ks) (hm : OwM B w mv t.ms) (hl : t.ks.length ≤ 1048576) (hlm : t.ms.length ≤ 1048576) (k0 : 0 ≤ k) (k1 : k ≤ 100000000) :
    Calls Tryz.prog 31 #[tvT t kv mv, .int .i64 k] w fun e w' => e = .returned (.int .i64 (k + t.ks.length + 3 * t.ms.length)) ∧ OwI B w' kv (marksI k t.ks.length) ∧ OwM B w' mv (marksM (k + t.ks.length) t.ms.length) ∧ Fr (fun j => kv.ownBlock = some j ∨ mv.ownBlock = some j) w w' := by
  obtain ⟨n, ks, d, has, num, til, ms⟩ := t
  dsimp only [tvT, tv] at *
  obtain ⟨a, cap, rfl⟩ := own_formS h
  obtain ⟨a2, cap2, rfl⟩ := own_formS hm
  have hb := below1 w (.cells #[.int .i64 n, .slice a ks.length cap, .int .i64 d, .bool has, .int .i64 num, .int .i64 til, .slice a2 ms.length cap2] 30)
  have H := hide (And.intro (own_later h hb) (own_later hm hb))
  have HB := hide hb
  have hx := heap_alloc_new w (.cells #[.int .i64 n, .slice a ks.length cap, .int .i64 d, .bool has, .int .i64 num, .int .i64 til, .slice a2 ms.length cap2] 30)
  have HX := hide hx
  have hneI : ∀ k, (Value.slice a ks.length cap).ownBlock = some k → ¬ w.heap.size = k := fun k hk e => by
    have := (own_row h k hk).2
    obtain ⟨c, hc⟩ := this
    have := heapLt hc
    omega
  have HNE := hide hneI
  clear h hm hb hx hneI
  go_enter Tryz.func31, Tryz.ntmps31
  go_wp2_with fail
  refine (markRoot_any _ n d _ ks B k (unhide H).1 hl k0 (by omega)).mono ?_
  generalize World.alloc _ _ = W1 at *
  rintro e w2 ⟨rfl, h1, h2⟩
  have M2 := hide (h2.own (unhide H).2 (fun k hk hn => own_two (unhide H).1 (unhide H).2 k hn hk))
  have hx2 := (h2.block _ (heapLt (unhide HX)) (fun hn => unhide HNE _ hn rfl)).trans (unhide HX)
  obtain ⟨x0, x1, x2, x3, x4, x5, x6⟩ := box7 hx2
  have F2 := hide ((Fr.of_below (N := fun _ => False) (unhide HB)).trans h2)
  have O2 := hide h1
  clear h1 h2 hx2 H HB HX HNE
  go_wp2_with fail
  refine (markIndex_any _ num til _ ms B (k + ks.length) (unhide M2) hlm (by omega) (by omega)).mono ?_
  rintro e w3 ⟨rfl, h1, h2⟩
  have O3 := hide (h2.own (unhide O2) (fun k hk hn => own_two (unhide O2) (unhide M2) k hk hn))
  have F3 := hide (((unhide F2).trans h2).weak (M := fun j => (Value.slice a ks.length cap).ownBlock = some j ∨ (Value.slice a2 ms.length cap2).ownBlock = some j) (fun k hk => hk.elim (fun h => h.elim False.elim .inl) .inr))
  have M3 := hide h1
  clear h1 h2 x0 x1 x2 x3 x4 x5 x6
  go_wp2
  go_ret
  exact ⟨rfl, unhide O3, unhide M3, unhide F3⟩
end Go.Proofs.YtlnieobmhofkdaaGreatDoor

/- Rows of packages that are not long; what of marks' frames the exact laws use. -/
namespace Go.Proofs.YtlnieobmhofkdaaGreatDoor
open Go.RowKit

def small (A : List Ix.Pg) : Prop := A.length ≤ 1000 ∧ ∀ p ∈ A, p.2.2.1.length ≤ 1000 ∧ p.2.2.2.length ≤ 1000
theorem small.els {A : List Ix.Pg} (h : small A) {els : List El} (hm : els.map (·.1) = A) : els.length ≤ 1000 ∧ ∀ e ∈ els, e.1.2.2.1.length ≤ 1000 ∧ e.1.2.2.2.length ≤ 1000 :=
  ⟨by rw [← List.length_map (f := fun x : El => x.1), hm]; exact h.1, fun e he => h.2 e.1 (by rw [← hm]; exact List.mem_map.2 ⟨e, he, rfl⟩)⟩
theorem small.sub {A l : List Ix.Pg} (h : small l) (hs : ∀ p ∈ A, p ∈ l) (hl : A.length ≤ l.length) : small A := ⟨Nat.le_trans hl h.1, fun p hp => h.2 p (hs p hp)⟩
theorem small.nil : small [] := ⟨Nat.zero_le _, fun p hp => (by cases hp)⟩
theorem small_pkgs {l : List Ix.Pg} (h : Ix.pkgsOk l = true) : small l := by
  refine ⟨by have := Ix.pkgs_len h; omega, fun p hp => ?_⟩
  obtain ⟨i, hi, hie⟩ := List.getElem_of_mem hp
  have hq := Ix.pkgs_pOk h hi
  rw [Ix.pg_get hi, hie] at hq
  unfold Ix.pOk Pk.pkgOk at hq
  rw [Bool.and_eq_true, Bool.and_eq_true, Bool.and_eq_true] at hq
  have h1 := (Pk.filesOk_get hq.1.2).1
  have h2 := (Pk.depsOk_get hq.2).1
  exact ⟨by omega, by omega⟩
theorem PAns.pksA {B : Nat} {w : World} {v : Value} {els : List El} {A : List Ix.Pg} (h : PAns B w v els) (hm : els.map (·.1) = A) (hA : small A) : Pks (fun b => B ≤ b) w v A := by
  obtain ⟨h1, h2⟩ := hA.els hm
  have := h.pks h1 h2
  rw [hm] at this
  exact this
theorem PAns.fr {N : Nat → Prop} {B : Nat} {w w' : World} {v : Value} {l : List El} (h : PAns B w v l) (hs : Fr N w w') (hN : ∀ g, blkP v l g → ¬ N g) : PAns B w' v l := h.keep (fun g hg => hs.block g (h.lt g hg).2 (hN g hg))
theorem WrP.keepN {N : Nat → Prop} {w w' : World} {g n : Nat} (h : WrP N w g n) (hb : ∀ k, k < w.heap.size → N k → w'.heap[k]? = w.heap[k]?) : WrP N w' g n := by
  obtain ⟨C, h1, h2, h3, h4⟩ := h
  refine ⟨C, (hb _ (heapLt h1) h3).trans h1, h2, h3, fun i hi => ?_⟩
  obtain ⟨x, y, g1, n1, g2, n2, k1, k2, k3, k4, k5⟩ := h4 i hi
  exact ⟨x, y, g1, n1, g2, n2, k1, k2, k3, k4.keep (hb _ k4.lt k2.1), k5.keep (hb _ k5.lt k2.2)⟩
theorem WrP.fr {N M : Nat → Prop} {w w' : World} {g n : Nat} (h : WrP N w g n) (hs : Fr M w w') (hd : ∀ b, N b → ¬ M b) : WrP N w' g n := h.keepN (fun k hk hn => hs.block k hk (hd k hn))
theorem WrP.stays {N M : Nat → Prop} {w w' : World} {g n : Nat} (h : WrP N w g n) (hs : Stays M w w') (hd : ∀ b, N b → ¬ M b) : WrP N w' g n := h.keepN (fun k hk hn => hs.block k hk (hd k hn))
theorem WrP.lt {N : Nat → Prop} {w : World} {g n : Nat} (h : WrP N w g n) : g < w.heap.size := by obtain ⟨C, h1, _⟩ := h; exact heapLt h1
/-- From a world on, all that was there stays. -/
theorem Stays.belowB {N : Nat → Prop} {w w' : World} {B : Nat} (h : Stays N w w') (hB : B ≤ w.heap.size) (hN : ∀ b, b < B → ¬ N b) : Below B w w' := ⟨h.os, h.tape, h.output, h.size, fun k hk => h.block k (by omega) (hN k hk)⟩
theorem FillI.lt {w : World} {g k : Nat} {l : List Int} (h : FillI w g l k) : g < w.heap.size := by obtain ⟨C, h1, _⟩ := h; exact heapLt h1
theorem FillM.lt {w : World} {g k : Nat} {l : List Ix.M} (h : FillM w g l k) : g < w.heap.size := by obtain ⟨C, h1, _⟩ := h; exact heapLt h1
theorem FillP.lt {w : World} {g k : Nat} {l : List Ix.Pg} (h : FillP w g l k) : g < w.heap.size := by obtain ⟨C, h1, _⟩ := h; exact heapLt h1
theorem PairsIn.later {w w' : World} {x : Option Addr × Nat × Nat} (h : PairsIn w x) (hb : Below w.heap.size w w') : PairsIn w' x := ⟨h.1, fun hs => by obtain ⟨l, h1, h2⟩ := h.2 hs; exact ⟨l, h1, h2.later hb⟩⟩
theorem PkgsIn.later {w w' : World} {a : Option Addr} {n c : Nat} (h : PkgsIn w a n c) (hb : Below w.heap.size w w') : PkgsIn w' a n c := by
  refine ⟨h.1, fun hs => ?_⟩
  obtain ⟨q, hrow, hp⟩ := h.2 hs
  refine ⟨q, fun hn => ?_, fun i hi => ⟨(hp i hi).1.later hb, (hp i hi).2.later hb⟩⟩
  obtain ⟨b, off, ha, hbs, hc⟩ := hrow hn
  refine ⟨b, off, ha, Nat.lt_of_lt_of_le hbs hb.size, fun i hi => ?_⟩
  obtain ⟨c0, c1, c2, c3⟩ := hc i hi
  exact ⟨(hb.cell hbs).trans c0, (hb.cell hbs).trans c1, (hb.cell hbs).trans c2, (hb.cell hbs).trans c3⟩
end Go.Proofs.YtlnieobmhofkdaaGreatDoor

/- What is kept, and what not, as data: for the laws of trimming. -/
namespace Go.Proofs.YtlnieobmhofkdaaGreatDoor

theorem Ix.trimA_small (t : Tr.T) (l : List Ix.Pg) : small (Ix.trimA t l) := by
  unfold Ix.trimA
  split
  · rename_i h
    exact (small_pkgs h.2).sub (fun p hp => (List.mem_filter.1 hp).1) (List.length_filter_le _ _)
  · exact small.nil
theorem Ix.tells_has {t : Tr.T} {p : Ix.Pg} (h : t.ok = true) (hp : Ix.tellsP t.num t.til t.ms p = true) : t.has = true := by
  have h1 := h
  unfold Tr.T.ok Tr.ok at h1
  rw [Bool.and_eq_true] at h1
  replace h1 := h1.2
  cases hh : t.has
  · rw [hh] at h1
    have h2 : Tr.noIdx t.num t.til t.ms = true := h1
    unfold Ix.tellsP at hp
    rw [Bool.and_eq_true] at hp
    have hx := hp.1
    unfold Tr.noIdx at h2
    unfold Ix.idxOk at hx
    simp only [Bool.and_eq_true, Pk.inB, decide_eq_true_eq] at h2 hx
    omega
  · rfl
theorem Ix.trim_pkgs {num til : Int} {ms : List Ix.M} {l : List Ix.Pg} (h : Ix.pkgsOk l = true) : Ix.pkgsOk (Ix.trim num til ms l) = true := by
  obtain ⟨h1, h2⟩ := Ix.pkgsOk_pair.1 h
  exact Ix.pkgsOk_pair.2 ⟨fun x hx => h1 x (List.mem_filter.1 hx).1, h2.sublist List.filter_sublist⟩
theorem Ix.trim_trim (num til : Int) (ms : List Ix.M) (l : List Ix.Pg) : Ix.trim num til ms (Ix.trim num til ms l) = Ix.trim num til ms l := by
  unfold Ix.trim
  rw [List.filter_filter]
  exact List.filter_congr fun x _ => by simp
theorem Ix.trimA_twice {t : Tr.T} {l : List Ix.Pg} (h1 : t.ok = true) (h2 : Ix.pkgsOk l = true) : Ix.trimA t (Ix.trimA t l) = Ix.trimA t l := by
  rw [Ix.trimA_yes h1 h2, Ix.trimA_yes h1 (Ix.trim_pkgs h2), Ix.trim_trim]
theorem Ix.trim_app (num til : Int) (ms : List Ix.M) (a b : List Ix.Pg) : Ix.trim num til ms (a ++ b) = Ix.trim num til ms a ++ Ix.trim num til ms b := List.filter_append _ _
theorem Ix.trim_at {num til : Int} {ms : List Ix.M} {l : List Ix.Pg} {k : Nat} (hk : k < l.length) (ht : Ix.tellsP num til ms (Ix.pg l k) = true) : (Ix.trim num til ms (l.take k)).length < (Ix.trim num til ms l).length ∧ Ix.pg (Ix.trim num til ms l) (Ix.trim num til ms (l.take k)).length = Ix.pg l k := by
  have e : Ix.trim num til ms l = Ix.trim num til ms (l.take k) ++ Ix.pg l k :: Ix.trim num til ms (l.drop (k + 1)) := by
    have h1 := Ix.trim_snoc (num := num) (til := til) (ms := ms) hk
    rw [if_pos ht] at h1
    conv => lhs; rw [← List.take_append_drop (k + 1) l]
    rw [Ix.trim_app, h1, List.append_assoc]
    rfl
  refine ⟨by rw [e, List.length_append, List.length_cons]; omega, ?_⟩
  conv => lhs; rw [e]
  unfold Ix.pg
  rw [List.getD_eq_getElem?_getD, List.getElem?_append_right (Nat.le_refl _), Nat.sub_self]
  rfl
theorem Ix.trim_none {t : Tr.T} (h : t.ok = true) (hh : t.has = false) (l : List Ix.Pg) : Ix.trim t.num t.til t.ms l = [] := by
  unfold Ix.trim
  rw [List.filter_eq_nil_iff]
  intro p _ hp
  rw [Ix.tells_has h hp] at hh
  cases hh
end Go.Proofs.YtlnieobmhofkdaaGreatDoor
