import Derived.Test.YtoccijcngncghaaGreatDoorMix3
import Derived.Test.YtoccijcngncghaaGreatDoorMix7
import Derived.Laws.OwnMore
import Derived.Deep.AppendLies
import Derived.Maps.AppendAt
/- What the laws' markPkg and heldPkg do: marks are laid into a package's rows, and nowhere else; they are read again. -/
namespace Go.Proofs.YtoccijcngncghaaGreatDoor
open Go.RowKit

/-- The marks that are laid, a pair a place. -/
def marks (k : Int) (n : Nat) : List (Int × Int) := (List.range n).map fun i : Nat => (k + 2 * (i : Int), k + 2 * (i : Int) + 1)
theorem marks_len (k : Int) (n : Nat) : (marks k n).length = n := by simp [marks]
theorem marks_succ (k : Int) (n : Nat) : marks k (n + 1) = marks k n ++ [(k + 2 * (n : Int), k + 2 * (n : Int) + 1)] := by simp [marks, List.range_succ]
theorem marks_at (k : Int) (n j : Nat) (h : j < n) : Pk.fst (marks k n) j = k + 2 * (j : Int) ∧ Pk.snd (marks k n) j = k + 2 * (j : Int) + 1 := by
  simp [Pk.fst, Pk.snd, marks, h]
theorem flat_app (a b : List (Int × Int)) : flat (a ++ b) = flat a ++ flat b := by unfold flat; rw [List.flatMap_append]
theorem flat_length : ∀ a : List (Int × Int), (flat a).length = a.length * 2
  | [] => rfl
  | x :: l => by
    have := flat_length l
    show (Value.int .i64 x.1 :: Value.int .i64 x.2 :: flat l).length = _
    simp only [List.length_cons, this]
    omega
theorem mark_set (k : Int) (l : List (Int × Int)) (j : Nat) (h : j < l.length) : ((flat (marks k j ++ l.drop j)).set (j * 2) (.int .i64 (k + 2 * j))).set (j * 2 + 1) (.int .i64 (k + 2 * j + 1)) = flat (marks k (j + 1) ++ l.drop (j + 1)) := by
  have hlen : (flat (marks k j)).length = j * 2 := by rw [flat_length, marks_len]
  rw [List.drop_eq_getElem_cons h, flat_app, List.set_append_right _ _ (by omega), List.set_append_right _ _ (by omega), hlen, Nat.sub_self, Nat.add_sub_cancel_left, marks_succ, flat_app, flat_app]
  rw [List.append_assoc]
  rfl
theorem grown_reflM (w : World) (r : Option Nat) : w.grownBy w r := ⟨rfl, rfl, rfl, Nat.le_refl _, fun _ _ _ => rfl⟩

set_option maxHeartbeats 2000000 in
set_option maxRecDepth 100000 in
theorem markFileS_any (w : World) (v : Value) (l : List (Int × Int)) (B : Nat) (k : Int) (h : w.ownsRow B 102 2 v l.length (flat l)) (hl : l.length ≤ 1048576) (k0 : 0 ≤ k) (k1 : k ≤ 1000000000000000) :
    Calls Tryz.prog 82 #[v, .int .i64 k] w fun e w' => e = .returned (.int .i64 (k + 2 * l.length)) ∧ w'.ownsRow B 102 2 v l.length (flat (marks k l.length)) ∧ w.grownBy w' v.ownBlock := by
  obtain ⟨a, cap, rfl⟩ := own_form h
  have H := hide h
  clear h
  go_enter Tryz.func82, Tryz.ntmps82
  go_wp2_with fail
  go_loopw [1, 5] (fun kv i w' => ∃ j : Nat, j ≤ l.length ∧ i = .int .i64 j ∧ kv = .int .i64 (k + 2 * j) ∧ w'.ownsRow B 102 2 (.slice a l.length cap) l.length (flat (marks k j ++ l.drop j)) ∧ w.grownBy w' (Value.slice a l.length cap).ownBlock) (fun _ i _ => l.length - (intOf i).toNat)
  case atStart => exact ⟨0, Nat.zero_le _, rfl, by simp, by simpa [marks] using unhide H, grown_reflM _ _⟩
  case round =>
    obtain ⟨j, hj, rfl, rfl, ho, hg⟩ := hrel
    have HO := hide ho
    have HG := hide hg
    by_cases hlt : j < l.length
    · obtain ⟨gb, cp, e, _, hgl⟩ := ho.form (by omega)
      injection e with e1 _ e3
      subst e1 e3
      have hat := flat_at (marks k j ++ l.drop j) j (by rw [List.length_append, marks_len, List.length_drop]; omega)
      have c1 : wr.cell? ⟨gb, j * 2, none⟩ = some (.int .i64 (Pk.fst (marks k j ++ l.drop j) j)) := by rw [ho.cellAt _ (by omega)]; exact hat.1
      have c2 : wr.cell? ⟨gb, j * 2 + 1, none⟩ = some (.int .i64 (Pk.snd (marks k j ++ l.drop j) j)) := by rw [ho.cellAt _ (by omega)]; exact hat.2
      have f1 : wr.frozen? ⟨gb, j * 2, none⟩ = false := ho.frozenAt _
      have f2 : wr.frozen? ⟨gb, j * 2 + 1, none⟩ = false := ho.frozenAt _
      have hi0 : (0 : Int) ≤ (j : Int) := Int.natCast_nonneg _
      have hi1 : (j : Int) < (l.length : Int) := by omega
      have HSET := hide (mark_set k l j hlt)
      clear ho hg hat
      go_wp2_with fail
      have h1 := (unhide HO).stored (j * 2) (.int .i64 (k + 2 * j))
      have h2 := h1.1.stored (j * 2 + 1) (.int .i64 (k + 2 * j + 1))
      go_roundw
      case rel =>
        refine ⟨j + 1, by omega, by go_num, by go_num, ?_, (unhide HG).trans (h1.2.trans h2.2)⟩
        rw [← unhide HSET]
        exact h2.1
      case measure => simp [intOf]; omega
    · obtain rfl : j = l.length := by omega
      rw [List.drop_length, List.append_nil] at HO
      clear ho hg hlt
      go_wp2
      go_ret
      exact ⟨rfl, unhide HO, unhide HG⟩

set_option maxHeartbeats 2000000 in
set_option maxRecDepth 100000 in
theorem heldFileS_any (w : World) (v : Value) (n : Nat) (B : Nat) (k : Int) (h : w.ownsRow B 102 2 v n (flat (marks k n))) (hl : n ≤ 1000) (k0 : 0 ≤ k) (k1 : k ≤ 1000000000000000) :
    Calls Tryz.prog 84 #[v, .int .i64 k] w fun e w' => e = .returned (.int .i64 (k + 2 * n)) ∧ w' = w := by
  obtain ⟨a, cap, rfl⟩ := own_form h
  have H := hide h
  clear h
  go_enter Tryz.func84, Tryz.ntmps84
  go_wp2_with fail
  go_loop [1, 5] (fun kv i => ∃ j : Nat, j ≤ n ∧ i = .int .i64 j ∧ kv = .int .i64 (k + 2 * j)) (fun _ i => n - (intOf i).toNat)
  case atStart => exact ⟨0, Nat.zero_le _, rfl, by simp⟩
  case round =>
    obtain ⟨j, hj, rfl, rfl⟩ := hrel
    by_cases hlt : j < n
    · obtain ⟨gb, cp, e, _, hgl⟩ := (unhide H).form (by omega)
      injection e with e1 _ e3
      subst e1 e3
      have hat := flat_at (marks k n) j (by rw [marks_len]; exact hlt)
      have c1 : w.cell? ⟨gb, j * 2, none⟩ = some (.int .i64 (k + 2 * j)) := by rw [(unhide H).cellAt _ (by omega), hat.1, (marks_at k n j hlt).1]
      have c2 : w.cell? ⟨gb, j * 2 + 1, none⟩ = some (.int .i64 (k + 2 * j + 1)) := by rw [(unhide H).cellAt _ (by omega), hat.2, (marks_at k n j hlt).2]
      have hi0 : (0 : Int) ≤ (j : Int) := Int.natCast_nonneg _
      have hi1 : (j : Int) < (n : Int) := by omega
      have b1 : (k + 2 * (j : Int) != k + 2 * (j : Int)) = false := by simp
      have b2 : (k + 2 * (j : Int) + 1 != k + 2 * (j : Int) + 1) = false := by simp
      clear hat
      go_wp2
      go_round
      case rel => exact ⟨j + 1, by omega, by go_num, by go_num⟩
      case measure => simp [intOf]; omega
    · obtain rfl : j = n := by omega
      go_wp2
      go_ret
      exact ⟨rfl, rfl⟩

set_option maxHeartbeats 2000000 in
set_option maxRecDepth 100000 in
theorem markDepS_any (w : World) (v : Value) (l : List (Int × Int)) (B : Nat) (k : Int) (h : w.ownsRow B 38 2 v l.length (flat l)) (hl : l.length ≤ 1048576) (k0 : 0 ≤ k) (k1 : k ≤ 1000000000000000) :
    Calls Tryz.prog 83 #[v, .int .i64 k] w fun e w' => e = .returned (.int .i64 (k + 2 * l.length)) ∧ w'.ownsRow B 38 2 v l.length (flat (marks k l.length)) ∧ w.grownBy w' v.ownBlock := by
  obtain ⟨a, cap, rfl⟩ := own_form h
  have H := hide h
  clear h
  go_enter Tryz.func83, Tryz.ntmps83
  go_wp2_with fail
  go_loopw [1, 5] (fun kv i w' => ∃ j : Nat, j ≤ l.length ∧ i = .int .i64 j ∧ kv = .int .i64 (k + 2 * j) ∧ w'.ownsRow B 38 2 (.slice a l.length cap) l.length (flat (marks k j ++ l.drop j)) ∧ w.grownBy w' (Value.slice a l.length cap).ownBlock) (fun _ i _ => l.length - (intOf i).toNat)
  case atStart => exact ⟨0, Nat.zero_le _, rfl, by simp, by simpa [marks] using unhide H, grown_reflM _ _⟩
  case round =>
    obtain ⟨j, hj, rfl, rfl, ho, hg⟩ := hrel
    have HO := hide ho
    have HG := hide hg
    by_cases hlt : j < l.length
    · obtain ⟨gb, cp, e, _, hgl⟩ := ho.form (by omega)
      injection e with e1 _ e3
      subst e1 e3
      have hat := flat_at (marks k j ++ l.drop j) j (by rw [List.length_append, marks_len, List.length_drop]; omega)
      have c1 : wr.cell? ⟨gb, j * 2, none⟩ = some (.int .i64 (Pk.fst (marks k j ++ l.drop j) j)) := by rw [ho.cellAt _ (by omega)]; exact hat.1
      have c2 : wr.cell? ⟨gb, j * 2 + 1, none⟩ = some (.int .i64 (Pk.snd (marks k j ++ l.drop j) j)) := by rw [ho.cellAt _ (by omega)]; exact hat.2
      have f1 : wr.frozen? ⟨gb, j * 2, none⟩ = false := ho.frozenAt _
      have f2 : wr.frozen? ⟨gb, j * 2 + 1, none⟩ = false := ho.frozenAt _
      have hi0 : (0 : Int) ≤ (j : Int) := Int.natCast_nonneg _
      have hi1 : (j : Int) < (l.length : Int) := by omega
      have HSET := hide (mark_set k l j hlt)
      clear ho hg hat
      go_wp2_with fail
      have h1 := (unhide HO).stored (j * 2) (.int .i64 (k + 2 * j))
      have h2 := h1.1.stored (j * 2 + 1) (.int .i64 (k + 2 * j + 1))
      go_roundw
      case rel =>
        refine ⟨j + 1, by omega, by go_num, by go_num, ?_, (unhide HG).trans (h1.2.trans h2.2)⟩
        rw [← unhide HSET]
        exact h2.1
      case measure => simp [intOf]; omega
    · obtain rfl : j = l.length := by omega
      rw [List.drop_length, List.append_nil] at HO
      clear ho hg hlt
      go_wp2
      go_ret
      exact ⟨rfl, unhide HO, unhide HG⟩

set_option maxHeartbeats 2000000 in
set_option maxRecDepth 100000 in
theorem heldDepS_any (w : World) (v : Value) (n : Nat) (B : Nat) (k : Int) (h : w.ownsRow B 38 2 v n (flat (marks k n))) (hl : n ≤ 1000) (k0 : 0 ≤ k) (k1 : k ≤ 1000000000000000) :
    Calls Tryz.prog 85 #[v, .int .i64 k] w fun e w' => e = .returned (.int .i64 (k + 2 * n)) ∧ w' = w := by
  obtain ⟨a, cap, rfl⟩ := own_form h
  have H := hide h
  clear h
  go_enter Tryz.func85, Tryz.ntmps85
  go_wp2_with fail
  go_loop [1, 5] (fun kv i => ∃ j : Nat, j ≤ n ∧ i = .int .i64 j ∧ kv = .int .i64 (k + 2 * j)) (fun _ i => n - (intOf i).toNat)
  case atStart => exact ⟨0, Nat.zero_le _, rfl, by simp⟩
  case round =>
    obtain ⟨j, hj, rfl, rfl⟩ := hrel
    by_cases hlt : j < n
    · obtain ⟨gb, cp, e, _, hgl⟩ := (unhide H).form (by omega)
      injection e with e1 _ e3
      subst e1 e3
      have hat := flat_at (marks k n) j (by rw [marks_len]; exact hlt)
      have c1 : w.cell? ⟨gb, j * 2, none⟩ = some (.int .i64 (k + 2 * j)) := by rw [(unhide H).cellAt _ (by omega), hat.1, (marks_at k n j hlt).1]
      have c2 : w.cell? ⟨gb, j * 2 + 1, none⟩ = some (.int .i64 (k + 2 * j + 1)) := by rw [(unhide H).cellAt _ (by omega), hat.2, (marks_at k n j hlt).2]
      have hi0 : (0 : Int) ≤ (j : Int) := Int.natCast_nonneg _
      have hi1 : (j : Int) < (n : Int) := by omega
      have b1 : (k + 2 * (j : Int) != k + 2 * (j : Int)) = false := by simp
      have b2 : (k + 2 * (j : Int) + 1 != k + 2 * (j : Int) + 1) = false := by simp
      clear hat
      go_wp2
      go_round
      case rel => exact ⟨j + 1, by omega, by go_num, by go_num⟩
      case measure => simp [intOf]; omega
    · obtain rfl : j = n := by omega
      go_wp2
      go_ret
      exact ⟨rfl, rfl⟩

/-- A row of files and a row of needs do not lie in one block. -/
theorem file_dep_ne {w : World} {B B' : Nat} {v v' : Value} {n n' : Nat} {xs xs' : List Value} (h : w.ownsRow B 102 2 v n xs) (h' : w.ownsRow B' 38 2 v' n' xs') : ∀ g, v'.ownBlock = some g → some g ≠ v.ownBlock := by
  intro g hg' hg
  rcases h.2 with ⟨rfl, _⟩ | ⟨g1, c1, cur1, rfl, _, hb1, _⟩
  · cases hg
  rcases h'.2 with ⟨rfl, _⟩ | ⟨g2, c2, cur2, rfl, _, hb2, _⟩
  · cases hg'
  simp only [Value.ownBlock, Option.some.injEq] at hg hg'
  subst hg'
  subst hg
  rw [hb1] at hb2
  injection hb2 with hb2
  injection hb2 with _ hb2 _
  revert hb2
  decide

end Go.Proofs.YtoccijcngncghaaGreatDoor
