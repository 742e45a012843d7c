/- What the laws' markIntS, heldIntS, markMetaS, heldMetaS and those over roots, indexes and trust do: marks are laid into a row, and nowhere else; they are read again. -/
import Derived.Test.YtlnieobmhofkdaaGreatCopyTTW
import Derived.Laws.OwnMore
namespace Go.Proofs.YtlnieobmhofkdaaGreat
open Go.RowKit

/-- The marks that are laid, one a place. -/
def marksI (k : Int) (n : Nat) : List Int := (List.range n).map fun i : Nat => k + (i : Int)
theorem marksI_len (k : Int) (n : Nat) : (marksI k n).length = n := by simp [marksI]
theorem marksI_succ (k : Int) (n : Nat) : marksI k (n + 1) = marksI k n ++ [k + (n : Int)] := by simp [marksI, List.range_succ]
/-- The marks that are laid, three a place. -/
def marksM (k : Int) (n : Nat) : List Ix.M := (List.range n).map fun i : Nat => (k + 3 * (i : Int), k + 3 * (i : Int) + 1, k + 3 * (i : Int) + 1 + 1)
theorem marksM_len (k : Int) (n : Nat) : (marksM k n).length = n := by simp [marksM]
theorem marksM_succ (k : Int) (n : Nat) : marksM k (n + 1) = marksM k n ++ [(k + 3 * (n : Int), k + 3 * (n : Int) + 1, k + 3 * (n : Int) + 1 + 1)] := by simp [marksM, List.range_succ]
theorem marksM_at (k : Int) (n j : Nat) (h : j < n) : Ix.nm (marksM k n) j = k + 3 * (j : Int) ∧ Ix.vr (marksM k n) j = k + 3 * (j : Int) + 1 ∧ Ix.sm (marksM k n) j = k + 3 * (j : Int) + 1 + 1 := by
  simp [Ix.nm, Ix.vr, Ix.sm, marksM, h]
theorem flat3_app (a b : List Ix.M) : flat3 (a ++ b) = flat3 a ++ flat3 b := by unfold flat3; rw [List.flatMap_append]
theorem mark_setI (k : Int) (l : List Int) (j : Nat) (h : j < l.length) : ((marksI k j ++ l.drop j).map (Value.int .i64)).set j (.int .i64 (k + j)) = (marksI k (j + 1) ++ l.drop (j + 1)).map (Value.int .i64) := by
  rw [List.drop_eq_getElem_cons h, List.map_append, List.map_cons, List.set_append_right _ _ (by simp [marksI_len]), marksI_succ, List.map_append, List.map_append, List.length_map, marksI_len, Nat.sub_self, List.set_cons_zero, List.append_assoc]
  rfl
theorem mark_setM (k : Int) (l : List Ix.M) (j : Nat) (h : j < l.length) : (((flat3 (marksM k j ++ l.drop j)).set (j * 3) (.int .i64 (k + 3 * j))).set (j * 3 + 1) (.int .i64 (k + 3 * j + 1))).set (j * 3 + 2) (.int .i64 (k + 3 * j + 1 + 1)) = flat3 (marksM k (j + 1) ++ l.drop (j + 1)) := by
  have hlen : (flat3 (marksM k j)).length = j * 3 := by rw [(flat3_cells _).1, marksM_len]
  rw [List.drop_eq_getElem_cons h, flat3_app, List.set_append_right _ _ (by omega), List.set_append_right _ _ (by omega), List.set_append_right _ _ (by omega), hlen, Nat.sub_self, Nat.add_sub_cancel_left, Nat.add_sub_cancel_left, marksM_succ, flat3_app, flat3_app]
  rw [List.append_assoc]
  rfl
theorem FillI.own {w : World} {g B : Nat} {l : List Int} (h : FillI w g l l.length) (hB : B ≤ g) (hl : l.length ≤ 1048576) : OwI B w (.slice (some ⟨g, 0, none⟩) l.length l.length) l := by
  obtain ⟨C, h1, h2, h3⟩ := h
  refine ⟨by simp, .inr ⟨g, l.length, C, rfl, hB, h1, Nat.le_refl _, by unfold maxLen; omega, by rw [h2, Nat.mul_one], ?_⟩⟩
  apply List.ext_getElem?
  intro i
  rcases Nat.lt_or_ge i l.length with hi | hi
  · rw [List.getElem?_take_of_lt (by omega), Array.getElem?_toList, h3 i hi, List.getElem?_map, Ky.nth_get l i hi, List.getElem?_eq_getElem hi]
    rfl
  · rw [List.getElem?_eq_none (by simp; omega), List.getElem?_eq_none (by simp; omega)]
theorem FillM.own {w : World} {g B : Nat} {l : List Ix.M} (h : FillM w g l l.length) (hB : B ≤ g) (hl : l.length ≤ 1048576) : OwM B w (.slice (some ⟨g, 0, none⟩) l.length l.length) l := by
  obtain ⟨C, h1, h2, h3⟩ := h
  have hf := (flat3_cells l).1
  refine ⟨hf, .inr ⟨g, l.length, C, rfl, hB, h1, Nat.le_refl _, by unfold maxLen; omega, h2, ?_⟩⟩
  apply List.ext_getElem?
  intro i
  rcases Nat.lt_or_ge i (l.length * 3) with hi | hi
  · rw [List.getElem?_take_of_lt (by omega), Array.getElem?_toList]
    obtain ⟨a0, a1, a2⟩ := flat3_at l (i / 3) (by omega)
    obtain ⟨b0, b1, b2⟩ := h3 (i / 3) (by omega)
    have hm : i % 3 = 0 ∨ i % 3 = 1 ∨ i % 3 = 2 := by omega
    rcases hm with hm | hm | hm
    · have e : i = i / 3 * 3 := by omega
      rw [e, b0, a0]
    · have e : i = i / 3 * 3 + 1 := by omega
      rw [e, b1, a1]
    · have e : i = i / 3 * 3 + 2 := by omega
      rw [e, b2, a2]
  · rw [List.getElem?_eq_none (by simp; omega), List.getElem?_eq_none (by omega)]

set_option maxHeartbeats 2000000 in
set_option maxRecDepth 100000 in
theorem markIntS_any (w : World) (v : Value) (l : List Int) (B : Nat) (k : Int) (h : OwI B w v l) (hl : l.length ≤ 1048576) (k0 : 0 ≤ k) (k1 : k ≤ 1000000000) :
    Calls Tryz.prog 68 #[v, .int .i64 k] w fun e w' => e = .returned (.int .i64 (k + l.length)) ∧ OwI B w' v (marksI k l.length) ∧ w.grownBy w' v.ownBlock := by
  obtain ⟨a, cap, rfl⟩ := own_formS h
  have H := hide h
  clear h
  go_enter Tryz.func68, Tryz.ntmps68
  go_wp2_with fail
  go_loopw [1, 5] (fun kv i w' => ∃ j : Nat, j ≤ l.length ∧ i = .int .i64 j ∧ kv = .int .i64 (k + j) ∧ w'.ownsRow B 3 1 (.slice a l.length cap) l.length ((marksI k j ++ l.drop j).map (Value.int .i64)) ∧ w.grownBy w' (Value.slice a l.length cap).ownBlock) (fun _ i _ => l.length - (intOf i).toNat)
  case atStart => exact ⟨0, Nat.zero_le _, rfl, by simp, by simpa [marksI] using unhide H, grown_refl _ _⟩
  case round =>
    obtain ⟨j, hj, rfl, rfl, ho, hg⟩ := hrel
    have HO := hide ho
    have HG := hide hg
    by_cases hlt : j < l.length
    · obtain ⟨gb, cp, e, _, hgl⟩ := ho.form (by omega)
      injection e with e1 _ e3
      subst e1 e3
      have c1 : ∃ y, wr.cell? ⟨gb, j, none⟩ = some y := by
        rw [ho.cellAt _ (by omega)]
        exact ⟨_, List.getElem?_eq_getElem (by simp [marksI_len]; omega)⟩
      obtain ⟨y1, c1⟩ := c1
      have f1 : wr.frozen? ⟨gb, j, none⟩ = false := ho.frozenAt _
      have hi0 : (0 : Int) ≤ (j : Int) := Int.natCast_nonneg _
      have hi1 : (j : Int) < (l.length : Int) := by omega
      have HSET := hide (mark_setI k l j hlt)
      clear ho hg
      go_wp2_with fail
      have h1 := (unhide HO).stored j (.int .i64 (k + j))
      go_roundw
      case rel =>
        refine ⟨j + 1, by omega, by go_num, by go_num, ?_, (unhide HG).trans h1.2⟩
        rw [← unhide HSET]
        exact h1.1
      case measure => simp [intOf]; omega
    · obtain rfl : j = l.length := by omega
      rw [List.drop_length, List.append_nil] at HO
      have HO2 : Hid (OwI B wr (.slice a l.length cap) (marksI k l.length)) := by
        show World.ownsRow _ _ _ _ _ _ _
        rw [marksI_len]
        exact unhide HO
      clear ho hg hlt
      go_wp2
      go_ret
      exact ⟨rfl, unhide HO2, unhide HG⟩

set_option maxHeartbeats 2000000 in
set_option maxRecDepth 100000 in
theorem markMetaS_any (w : World) (v : Value) (l : List Ix.M) (B : Nat) (k : Int) (h : OwM B w v l) (hl : l.length ≤ 1048576) (k0 : 0 ≤ k) (k1 : k ≤ 1000000000) :
    Calls Tryz.prog 15 #[v, .int .i64 k] w fun e w' => e = .returned (.int .i64 (k + 3 * l.length)) ∧ OwM B w' v (marksM k l.length) ∧ w.grownBy w' v.ownBlock := by
  obtain ⟨a, cap, rfl⟩ := own_formS h
  have H := hide h
  clear h
  go_enter Tryz.func15, Tryz.ntmps15
  go_wp2_with fail
  go_loopw [1, 5] (fun kv i w' => ∃ j : Nat, j ≤ l.length ∧ i = .int .i64 j ∧ kv = .int .i64 (k + 3 * j) ∧ w'.ownsRow B 60 3 (.slice a l.length cap) l.length (flat3 (marksM k j ++ l.drop j)) ∧ w.grownBy w' (Value.slice a l.length cap).ownBlock) (fun _ i _ => l.length - (intOf i).toNat)
  case atStart => exact ⟨0, Nat.zero_le _, rfl, by simp, by simpa [marksM] using unhide H, grown_refl _ _⟩
  case round =>
    obtain ⟨j, hj, rfl, rfl, ho, hg⟩ := hrel
    have HO := hide ho
    have HG := hide hg
    by_cases hlt : j < l.length
    · obtain ⟨gb, cp, e, _, hgl⟩ := ho.form (by omega)
      injection e with e1 _ e3
      subst e1 e3
      have hat := flat3_at (marksM k j ++ l.drop j) j (by rw [List.length_append, marksM_len, List.length_drop]; omega)
      have c1 : wr.cell? ⟨gb, j * 3, none⟩ = some (.int .i64 (Ix.nm (marksM k j ++ l.drop j) j)) := by rw [ho.cellAt _ (by omega)]; exact hat.1
      have c2 : wr.cell? ⟨gb, j * 3 + 1, none⟩ = some (.int .i64 (Ix.vr (marksM k j ++ l.drop j) j)) := by rw [ho.cellAt _ (by omega)]; exact hat.2.1
      have c3 : wr.cell? ⟨gb, j * 3 + 2, none⟩ = some (.int .i64 (Ix.sm (marksM k j ++ l.drop j) j)) := by rw [ho.cellAt _ (by omega)]; exact hat.2.2
      have f1 : wr.frozen? ⟨gb, j * 3, none⟩ = false := ho.frozenAt _
      have f2 : wr.frozen? ⟨gb, j * 3 + 1, none⟩ = false := ho.frozenAt _
      have f3 : wr.frozen? ⟨gb, j * 3 + 2, none⟩ = false := ho.frozenAt _
      have hi0 : (0 : Int) ≤ (j : Int) := Int.natCast_nonneg _
      have hi1 : (j : Int) < (l.length : Int) := by omega
      have HSET := hide (mark_setM k l j hlt)
      clear ho hg hat
      go_wp2_with fail
      have h1 := (unhide HO).stored (j * 3) (.int .i64 (k + 3 * j))
      have h2 := h1.1.stored (j * 3 + 1) (.int .i64 (k + 3 * j + 1))
      have h3 := h2.1.stored (j * 3 + 2) (.int .i64 (k + 3 * j + 1 + 1))
      go_roundw
      case rel =>
        refine ⟨j + 1, by omega, by go_num, by go_num, ?_, (unhide HG).trans (h1.2.trans (h2.2.trans h3.2))⟩
        rw [← unhide HSET]
        exact h3.1
      case measure => simp [intOf]; omega
    · obtain rfl : j = l.length := by omega
      rw [List.drop_length, List.append_nil] at HO
      have HO2 : Hid (OwM B wr (.slice a l.length cap) (marksM k l.length)) := by
        show World.ownsRow _ _ _ _ _ _ _
        rw [marksM_len]
        exact unhide HO
      clear ho hg hlt
      go_wp2
      go_ret
      exact ⟨rfl, unhide HO2, unhide HG⟩

set_option maxHeartbeats 2000000 in
set_option maxRecDepth 100000 in
theorem heldMetaS_any (w : World) (v : Value) (n : Nat) (B : Nat) (k : Int) (h : OwM B w v (marksM k n)) (hl : n ≤ 1048576) (k0 : 0 ≤ k) (k1 : k ≤ 1000000000) :
    Calls Tryz.prog 16 #[v, .int .i64 k] w fun e w' => e = .returned (.int .i64 (k + 3 * n)) ∧ w' = w := by
  obtain ⟨a, cap, hv⟩ := own_formS h
  rw [marksM_len] at hv
  subst hv
  have h' : w.ownsRow B 60 3 (.slice a n cap) n (flat3 (marksM k n)) := by
    have := h
    unfold OwM at this
    rwa [marksM_len] at this
  have H := hide h'
  clear h h'
  go_enter Tryz.func16, Tryz.ntmps16
  go_wp2_with fail
  go_loop [1, 5] (fun kv i => ∃ j : Nat, j ≤ n ∧ i = .int .i64 j ∧ kv = .int .i64 (k + 3 * j)) (fun _ i => n - (intOf i).toNat)
  case atStart => exact ⟨0, Nat.zero_le _, rfl, by simp⟩
  case round =>
    obtain ⟨j, hj, rfl, rfl⟩ := hrel
    by_cases hlt : j < n
    · obtain ⟨gb, cp, e, _, hgl⟩ := (unhide H).form (by omega)
      injection e with e1 _ e3
      subst e1 e3
      have hat := flat3_at (marksM k n) j (by rw [marksM_len]; exact hlt)
      have c1 : w.cell? ⟨gb, j * 3, none⟩ = some (.int .i64 (k + 3 * j)) := by rw [(unhide H).cellAt _ (by omega), hat.1, (marksM_at k n j hlt).1]
      have c2 : w.cell? ⟨gb, j * 3 + 1, none⟩ = some (.int .i64 (k + 3 * j + 1)) := by rw [(unhide H).cellAt _ (by omega), hat.2.1, (marksM_at k n j hlt).2.1]
      have c3 : w.cell? ⟨gb, j * 3 + 2, none⟩ = some (.int .i64 (k + 3 * j + 1 + 1)) := by rw [(unhide H).cellAt _ (by omega), hat.2.2, (marksM_at k n j hlt).2.2]
      have hi0 : (0 : Int) ≤ (j : Int) := Int.natCast_nonneg _
      have hi1 : (j : Int) < (n : Int) := by omega
      have b1 : (k + 3 * (j : Int) != k + 3 * (j : Int)) = false := by simp
      have b2 : (k + 3 * (j : Int) + 1 != k + 3 * (j : Int) + 1) = false := by simp
      have b3 : (k + 3 * (j : Int) + 1 + 1 != k + 3 * (j : Int) + 1 + 1) = false := by simp
      clear hat
      go_wp2
      go_round
      case rel => exact ⟨j + 1, by omega, by go_num, by go_num⟩
      case measure => simp [intOf]; omega
    · obtain rfl : j = n := by omega
      go_wp2
      go_ret
      exact ⟨rfl, rfl⟩
end Go.Proofs.YtlnieobmhofkdaaGreat
