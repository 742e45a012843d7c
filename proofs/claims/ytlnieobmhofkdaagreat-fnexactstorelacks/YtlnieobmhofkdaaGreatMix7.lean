import Derived.Test.YtlnieobmhofkdaaGreatStoreOkW
import Derived.Test.YtlnieobmhofkdaaGreatMix4
import Derived.Test.YtlnieobmhofkdaaGreatCopyPW
import Derived.Test.YtlnieobmhofkdaaGreatMix3
import Derived.Test.YtlnieobmhofkdaaGreatMix5
import Derived.Laws.OwnMore
import Derived.Deep.AppendLies
import Derived.Maps.AppendAt
/- What spec.StoreNewest returns: the newest of a name, a copy; for every row of packages that can be read. -/
namespace Go.Proofs.YtlnieobmhofkdaaGreat
open Go.RowKit

/-- What StoreNewest answers. -/
def NewAns (B : Nat) (w : World) (v : Value) (a : Ix.Pg × Bool) : Prop :=
  ∃ fv dv, v = .tuple #[.agg #[.int .i64 a.1.1, .int .i64 a.1.2.1, fv, dv], .bool a.2] ∧ OwP B w fv dv a.1.2.2.1 a.1.2.2.2
theorem NewAns.later {B : Nat} {w w' : World} {v : Value} {a : Ix.Pg × Bool} (h : NewAns B w v a) (hb : Below w.heap.size w w') : NewAns B w' v a := by
  obtain ⟨fv, dv, h1, h2⟩ := h
  exact ⟨fv, dv, h1, h2.later hb⟩
theorem NewAns.base {B B' : Nat} {w : World} {v : Value} {a : Ix.Pg × Bool} (h : NewAns B w v a) (hB : B' ≤ B) : NewAns B' w v a := by
  obtain ⟨fv, dv, h1, h2⟩ := h
  exact ⟨fv, dv, h1, h2.base hB⟩
theorem NewAns.none (B : Nat) (w : World) {l : List Ix.Pg} {n : Int} (h : Ix.newA l n = ((0, 0, [], []), false)) : NewAns B w (.tuple #[.agg #[.int .i64 0, .int .i64 0, .slice none 0 0, .slice none 0 0], .bool false]) (Ix.newA l n) := by
  rw [h]
  exact ⟨_, _, rfl, OwP.zero _ _⟩

/-- What a package's box answers with. -/
theorem newAns_box {W w w' : World} {R : Nat} {a : Ix.Pg × Bool} {r0 r1 r2 r3 fv dv : Value} (hR : w.heap[R]? = some (.cells #[r0, r1, r2, r3] 67 (0, 0))) (lR : W.heap.size ≤ R) (hb : Below W.heap.size W w) (ho : OwP W.heap.size w fv dv a.1.2.2.1 a.1.2.2.2)
    (hw : w' = (((w.setCell ⟨R, 0, none⟩ (.int .i64 a.1.1)).setCell ⟨R, 1, none⟩ (.int .i64 a.1.2.1)).setCell ⟨R, 2, none⟩ fv).setCell ⟨R, 3, none⟩ dv) :
    (w'.cell? ⟨R, 0, none⟩ = some (.int .i64 a.1.1) ∧ w'.cell? ⟨R, 1, none⟩ = some (.int .i64 a.1.2.1) ∧ w'.cell? ⟨R, 2, none⟩ = some fv ∧ w'.cell? ⟨R, 3, none⟩ = some dv) ∧ NewAns W.heap.size w' (.tuple #[.agg #[.int .i64 a.1.1, .int .i64 a.1.2.1, fv, dv], .bool a.2]) a ∧ Below W.heap.size W w' := by
  obtain ⟨q, hbel, hfar⟩ := fin4 hR lR hb hw
  exact ⟨q, ⟨_, _, rfl, ⟨own_keepS ho.f (fun g _ e _ _ => hfar g (fun e2 => own_ne ho.f hR (by decide) (by rw [e, e2]))), own_keepS ho.d (fun g _ e _ _ => hfar g (fun e2 => own_ne ho.d hR (by decide) (by rw [e, e2])))⟩⟩, hbel⟩

end Go.Proofs.YtlnieobmhofkdaaGreat

/- What the laws' markPkg and heldPkg do: marks are laid into a package's rows, and nowhere else; they are read again. -/
namespace Go.Proofs.YtlnieobmhofkdaaGreat
open Go.RowKit

/-- The marks that are laid, a pair a place. -/
def marks (k : Int) (n : Nat) : List (Int × Int) := (List.range n).map fun i : Nat => (k + 2 * (i : Int), k + 2 * (i : Int) + 1)
theorem marks_len (k : Int) (n : Nat) : (marks k n).length = n := by simp [marks]
theorem marks_succ (k : Int) (n : Nat) : marks k (n + 1) = marks k n ++ [(k + 2 * (n : Int), k + 2 * (n : Int) + 1)] := by simp [marks, List.range_succ]
theorem marks_at (k : Int) (n j : Nat) (h : j < n) : Pk.fst (marks k n) j = k + 2 * (j : Int) ∧ Pk.snd (marks k n) j = k + 2 * (j : Int) + 1 := by
  simp [Pk.fst, Pk.snd, marks, h]
theorem flat_app (a b : List (Int × Int)) : flat (a ++ b) = flat a ++ flat b := by unfold flat; rw [List.flatMap_append]
theorem flat_length : ∀ a : List (Int × Int), (flat a).length = a.length * 2
  | [] => rfl
  | x :: l => by
    have := flat_length l
    show (Value.int .i64 x.1 :: Value.int .i64 x.2 :: flat l).length = _
    simp only [List.length_cons, this]
    omega
theorem mark_set (k : Int) (l : List (Int × Int)) (j : Nat) (h : j < l.length) : ((flat (marks k j ++ l.drop j)).set (j * 2) (.int .i64 (k + 2 * j))).set (j * 2 + 1) (.int .i64 (k + 2 * j + 1)) = flat (marks k (j + 1) ++ l.drop (j + 1)) := by
  have hlen : (flat (marks k j)).length = j * 2 := by rw [flat_length, marks_len]
  rw [List.drop_eq_getElem_cons h, flat_app, List.set_append_right _ _ (by omega), List.set_append_right _ _ (by omega), hlen, Nat.sub_self, Nat.add_sub_cancel_left, marks_succ, flat_app, flat_app]
  rw [List.append_assoc]
  rfl
theorem grown_reflM (w : World) (r : Option Nat) : w.grownBy w r := ⟨rfl, rfl, rfl, Nat.le_refl _, fun _ _ _ => rfl⟩

set_option maxHeartbeats 2000000 in
set_option maxRecDepth 100000 in
theorem markFileS_any (w : World) (v : Value) (l : List (Int × Int)) (B : Nat) (k : Int) (h : w.ownsRow B 96 2 v l.length (flat l)) (hl : l.length ≤ 1048576) (k0 : 0 ≤ k) (k1 : k ≤ 1000000000000000) :
    Calls Tryz.prog 39 #[v, .int .i64 k] w fun e w' => e = .returned (.int .i64 (k + 2 * l.length)) ∧ w'.ownsRow B 96 2 v l.length (flat (marks k l.length)) ∧ w.grownBy w' v.ownBlock := by
  obtain ⟨a, cap, rfl⟩ := own_form h
  have H := hide h
  clear h
  go_enter Tryz.func39, Tryz.ntmps39
  go_wp2_with fail
  go_loopw [1, 5] (fun kv i w' => ∃ j : Nat, j ≤ l.length ∧ i = .int .i64 j ∧ kv = .int .i64 (k + 2 * j) ∧ w'.ownsRow B 96 2 (.slice a l.length cap) l.length (flat (marks k j ++ l.drop j)) ∧ w.grownBy w' (Value.slice a l.length cap).ownBlock) (fun _ i _ => l.length - (intOf i).toNat)
  case atStart => exact ⟨0, Nat.zero_le _, rfl, by simp, by simpa [marks] using unhide H, grown_reflM _ _⟩
  case round =>
    obtain ⟨j, hj, rfl, rfl, ho, hg⟩ := hrel
    have HO := hide ho
    have HG := hide hg
    by_cases hlt : j < l.length
    · obtain ⟨gb, cp, e, _, hgl⟩ := ho.form (by omega)
      injection e with e1 _ e3
      subst e1 e3
      have hat := flat_at (marks k j ++ l.drop j) j (by rw [List.length_append, marks_len, List.length_drop]; omega)
      have c1 : wr.cell? ⟨gb, j * 2, none⟩ = some (.int .i64 (Pk.fst (marks k j ++ l.drop j) j)) := by rw [ho.cellAt _ (by omega)]; exact hat.1
      have c2 : wr.cell? ⟨gb, j * 2 + 1, none⟩ = some (.int .i64 (Pk.snd (marks k j ++ l.drop j) j)) := by rw [ho.cellAt _ (by omega)]; exact hat.2
      have f1 : wr.frozen? ⟨gb, j * 2, none⟩ = false := ho.frozenAt _
      have f2 : wr.frozen? ⟨gb, j * 2 + 1, none⟩ = false := ho.frozenAt _
      have hi0 : (0 : Int) ≤ (j : Int) := Int.natCast_nonneg _
      have hi1 : (j : Int) < (l.length : Int) := by omega
      have HSET := hide (mark_set k l j hlt)
      clear ho hg hat
      go_wp2_with fail
      have h1 := (unhide HO).stored (j * 2) (.int .i64 (k + 2 * j))
      have h2 := h1.1.stored (j * 2 + 1) (.int .i64 (k + 2 * j + 1))
      go_roundw
      case rel =>
        refine ⟨j + 1, by omega, by go_num, by go_num, ?_, (unhide HG).trans (h1.2.trans h2.2)⟩
        rw [← unhide HSET]
        exact h2.1
      case measure => simp [intOf]; omega
    · obtain rfl : j = l.length := by omega
      rw [List.drop_length, List.append_nil] at HO
      clear ho hg hlt
      go_wp2
      go_ret
      exact ⟨rfl, unhide HO, unhide HG⟩

set_option maxHeartbeats 2000000 in
set_option maxRecDepth 100000 in
theorem markDepS_any (w : World) (v : Value) (l : List (Int × Int)) (B : Nat) (k : Int) (h : w.ownsRow B 98 2 v l.length (flat l)) (hl : l.length ≤ 1048576) (k0 : 0 ≤ k) (k1 : k ≤ 1000000000000000) :
    Calls Tryz.prog 40 #[v, .int .i64 k] w fun e w' => e = .returned (.int .i64 (k + 2 * l.length)) ∧ w'.ownsRow B 98 2 v l.length (flat (marks k l.length)) ∧ w.grownBy w' v.ownBlock := by
  obtain ⟨a, cap, rfl⟩ := own_form h
  have H := hide h
  clear h
  go_enter Tryz.func40, Tryz.ntmps40
  go_wp2_with fail
  go_loopw [1, 5] (fun kv i w' => ∃ j : Nat, j ≤ l.length ∧ i = .int .i64 j ∧ kv = .int .i64 (k + 2 * j) ∧ w'.ownsRow B 98 2 (.slice a l.length cap) l.length (flat (marks k j ++ l.drop j)) ∧ w.grownBy w' (Value.slice a l.length cap).ownBlock) (fun _ i _ => l.length - (intOf i).toNat)
  case atStart => exact ⟨0, Nat.zero_le _, rfl, by simp, by simpa [marks] using unhide H, grown_reflM _ _⟩
  case round =>
    obtain ⟨j, hj, rfl, rfl, ho, hg⟩ := hrel
    have HO := hide ho
    have HG := hide hg
    by_cases hlt : j < l.length
    · obtain ⟨gb, cp, e, _, hgl⟩ := ho.form (by omega)
      injection e with e1 _ e3
      subst e1 e3
      have hat := flat_at (marks k j ++ l.drop j) j (by rw [List.length_append, marks_len, List.length_drop]; omega)
      have c1 : wr.cell? ⟨gb, j * 2, none⟩ = some (.int .i64 (Pk.fst (marks k j ++ l.drop j) j)) := by rw [ho.cellAt _ (by omega)]; exact hat.1
      have c2 : wr.cell? ⟨gb, j * 2 + 1, none⟩ = some (.int .i64 (Pk.snd (marks k j ++ l.drop j) j)) := by rw [ho.cellAt _ (by omega)]; exact hat.2
      have f1 : wr.frozen? ⟨gb, j * 2, none⟩ = false := ho.frozenAt _
      have f2 : wr.frozen? ⟨gb, j * 2 + 1, none⟩ = false := ho.frozenAt _
      have hi0 : (0 : Int) ≤ (j : Int) := Int.natCast_nonneg _
      have hi1 : (j : Int) < (l.length : Int) := by omega
      have HSET := hide (mark_set k l j hlt)
      clear ho hg hat
      go_wp2_with fail
      have h1 := (unhide HO).stored (j * 2) (.int .i64 (k + 2 * j))
      have h2 := h1.1.stored (j * 2 + 1) (.int .i64 (k + 2 * j + 1))
      go_roundw
      case rel =>
        refine ⟨j + 1, by omega, by go_num, by go_num, ?_, (unhide HG).trans (h1.2.trans h2.2)⟩
        rw [← unhide HSET]
        exact h2.1
      case measure => simp [intOf]; omega
    · obtain rfl : j = l.length := by omega
      rw [List.drop_length, List.append_nil] at HO
      clear ho hg hlt
      go_wp2
      go_ret
      exact ⟨rfl, unhide HO, unhide HG⟩

/-- A row of files and a row of needs do not lie in one block. -/
theorem file_dep_ne {w : World} {B B' : Nat} {v v' : Value} {n n' : Nat} {xs xs' : List Value} (h : w.ownsRow B 96 2 v n xs) (h' : w.ownsRow B' 98 2 v' n' xs') : ∀ g, v'.ownBlock = some g → some g ≠ v.ownBlock := by
  intro g hg' hg
  rcases h.2 with ⟨rfl, _⟩ | ⟨g1, c1, cur1, rfl, _, hb1, _⟩
  · cases hg
  rcases h'.2 with ⟨rfl, _⟩ | ⟨g2, c2, cur2, rfl, _, hb2, _⟩
  · cases hg'
  simp only [Value.ownBlock, Option.some.injEq] at hg hg'
  subst hg'
  subst hg
  rw [hb1] at hb2
  injection hb2 with hb2
  injection hb2 with _ hb2 _
  revert hb2
  decide

end Go.Proofs.YtlnieobmhofkdaaGreat
