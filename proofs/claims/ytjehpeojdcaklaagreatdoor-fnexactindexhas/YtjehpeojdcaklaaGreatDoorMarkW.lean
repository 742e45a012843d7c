import Derived.Test.YtjehpeojdcaklaaGreatDoorMixD
import Derived.Test.YtjehpeojdcaklaaGreatDoorSkipW
import Derived.Laws.OwnMore
import Derived.Deep.AppendLies
import Derived.Maps.AppendAt
/- What the laws' markPkg and heldPkg do: marks are laid into a package's rows, and nowhere else; they are read again. -/
namespace Go.Proofs.YtjehpeojdcaklaaGreatDoor
open Go.RowKit

/-- The marks that are laid, a pair a place. -/
def marks (k : Int) (n : Nat) : List (Int × Int) := (List.range n).map fun i : Nat => (k + 2 * (i : Int), k + 2 * (i : Int) + 1)
theorem marks_len (k : Int) (n : Nat) : (marks k n).length = n := by simp [marks]
theorem marks_succ (k : Int) (n : Nat) : marks k (n + 1) = marks k n ++ [(k + 2 * (n : Int), k + 2 * (n : Int) + 1)] := by simp [marks, List.range_succ]
theorem marks_at (k : Int) (n j : Nat) (h : j < n) : Pk.fst (marks k n) j = k + 2 * (j : Int) ∧ Pk.snd (marks k n) j = k + 2 * (j : Int) + 1 := by
  simp [Pk.fst, Pk.snd, marks, h]
theorem flat_app (a b : List (Int × Int)) : flat (a ++ b) = flat a ++ flat b := by unfold flat; rw [List.flatMap_append]
theorem flat_length : ∀ a : List (Int × Int), (flat a).length = a.length * 2
  | [] => rfl
  | x :: l => by
    have := flat_length l
    show (Value.int .i64 x.1 :: Value.int .i64 x.2 :: flat l).length = _
    simp only [List.length_cons, this]
    omega
theorem mark_set (k : Int) (l : List (Int × Int)) (j : Nat) (h : j < l.length) : ((flat (marks k j ++ l.drop j)).set (j * 2) (.int .i64 (k + 2 * j))).set (j * 2 + 1) (.int .i64 (k + 2 * j + 1)) = flat (marks k (j + 1) ++ l.drop (j + 1)) := by
  have hlen : (flat (marks k j)).length = j * 2 := by rw [flat_length, marks_len]
  rw [List.drop_eq_getElem_cons h, flat_app, List.set_append_right _ _ (by omega), List.set_append_right _ _ (by omega), hlen, Nat.sub_self, Nat.add_sub_cancel_left, marks_succ, flat_app, flat_app]
  rw [List.append_assoc]
  rfl
theorem grown_reflM (w : World) (r : Option Nat) : w.grownBy w r := ⟨rfl, rfl, rfl, Nat.le_refl _, fun _ _ _ => rfl⟩

set_option maxHeartbeats 2000000 in
set_option maxRecDepth 100000 in
theorem markFileS_any (w : World) (v : Value) (l : List (Int × Int)) (B : Nat) (k : Int) (h : w.ownsRow B 74 2 v l.length (flat l)) (hl : l.length ≤ 1048576) (k0 : 0 ≤ k) (k1 : k ≤ 1000000000000000) :
    Calls Tryz.prog 58 #[v, .int .i64 k] w fun e w' => e = .returned (.int .i64 (k + 2 * l.length)) ∧ w'.ownsRow B 74 2 v l.length (flat (marks k l.length)) ∧ w.grownBy w' v.ownBlock := by
  obtain ⟨a, cap, rfl⟩ := own_form h
  have H := hide h
  clear h
  go_enter Tryz.func58, Tryz.ntmps58
  go_wp2_with fail
  go_loopw [1, 5] (fun kv i w' => ∃ j : Nat, j ≤ l.length ∧ i = .int .i64 j ∧ kv = .int .i64 (k + 2 * j) ∧ w'.ownsRow B 74 2 (.slice a l.length cap) l.length (flat (marks k j ++ l.drop j)) ∧ w.grownBy w' (Value.slice a l.length cap).ownBlock) (fun _ i _ => l.length - (intOf i).toNat)
  case atStart => exact ⟨0, Nat.zero_le _, rfl, by simp, by simpa [marks] using unhide H, grown_reflM _ _⟩
  case round =>
    obtain ⟨j, hj, rfl, rfl, ho, hg⟩ := hrel
    have HO := hide ho
    have HG := hide hg
    by_cases hlt : j < l.length
    · obtain ⟨gb, cp, e, _, hgl⟩ := ho.form (by omega)
      injection e with e1 _ e3
      subst e1 e3
      have hat := flat_at (marks k j ++ l.drop j) j (by rw [List.length_append, marks_len, List.length_drop]; omega)
      have c1 : wr.cell? ⟨gb, j * 2, none⟩ = some (.int .i64 (Pk.fst (marks k j ++ l.drop j) j)) := by rw [ho.cellAt _ (by omega)]; exact hat.1
      have c2 : wr.cell? ⟨gb, j * 2 + 1, none⟩ = some (.int .i64 (Pk.snd (marks k j ++ l.drop j) j)) := by rw [ho.cellAt _ (by omega)]; exact hat.2
      have f1 : wr.frozen? ⟨gb, j * 2, none⟩ = false := ho.frozenAt _
      have f2 : wr.frozen? ⟨gb, j * 2 + 1, none⟩ = false := ho.frozenAt _
      have hi0 : (0 : Int) ≤ (j : Int) := Int.natCast_nonneg _
      have hi1 : (j : Int) < (l.length : Int) := by omega
      have HSET := hide (mark_set k l j hlt)
      clear ho hg hat
      go_wp2_with fail
      have h1 := (unhide HO).stored (j * 2) (.int .i64 (k + 2 * j))
      have h2 := h1.1.stored (j * 2 + 1) (.int .i64 (k + 2 * j + 1))
      go_roundw
      case rel =>
        refine ⟨j + 1, by omega, by go_num, by go_num, ?_, (unhide HG).trans (h1.2.trans h2.2)⟩
        rw [← unhide HSET]
        exact h2.1
      case measure => simp [intOf]; omega
    · obtain rfl : j = l.length := by omega
      rw [List.drop_length, List.append_nil] at HO
      clear ho hg hlt
      go_wp2
      go_ret
      exact ⟨rfl, unhide HO, unhide HG⟩

set_option maxHeartbeats 2000000 in
set_option maxRecDepth 100000 in
theorem heldFileS_any (w : World) (v : Value) (n : Nat) (B : Nat) (k : Int) (h : w.ownsRow B 74 2 v n (flat (marks k n))) (hl : n ≤ 1000) (k0 : 0 ≤ k) (k1 : k ≤ 1000000000000000) :
    Calls Tryz.prog 60 #[v, .int .i64 k] w fun e w' => e = .returned (.int .i64 (k + 2 * n)) ∧ w' = w := by
  obtain ⟨a, cap, rfl⟩ := own_form h
  have H := hide h
  clear h
  go_enter Tryz.func60, Tryz.ntmps60
  go_wp2_with fail
  go_loop [1, 5] (fun kv i => ∃ j : Nat, j ≤ n ∧ i = .int .i64 j ∧ kv = .int .i64 (k + 2 * j)) (fun _ i => n - (intOf i).toNat)
  case atStart => exact ⟨0, Nat.zero_le _, rfl, by simp⟩
  case round =>
    obtain ⟨j, hj, rfl, rfl⟩ := hrel
    by_cases hlt : j < n
    · obtain ⟨gb, cp, e, _, hgl⟩ := (unhide H).form (by omega)
      injection e with e1 _ e3
      subst e1 e3
      have hat := flat_at (marks k n) j (by rw [marks_len]; exact hlt)
      have c1 : w.cell? ⟨gb, j * 2, none⟩ = some (.int .i64 (k + 2 * j)) := by rw [(unhide H).cellAt _ (by omega), hat.1, (marks_at k n j hlt).1]
      have c2 : w.cell? ⟨gb, j * 2 + 1, none⟩ = some (.int .i64 (k + 2 * j + 1)) := by rw [(unhide H).cellAt _ (by omega), hat.2, (marks_at k n j hlt).2]
      have hi0 : (0 : Int) ≤ (j : Int) := Int.natCast_nonneg _
      have hi1 : (j : Int) < (n : Int) := by omega
      have b1 : (k + 2 * (j : Int) != k + 2 * (j : Int)) = false := by simp
      have b2 : (k + 2 * (j : Int) + 1 != k + 2 * (j : Int) + 1) = false := by simp
      clear hat
      go_wp2
      go_round
      case rel => exact ⟨j + 1, by omega, by go_num, by go_num⟩
      case measure => simp [intOf]; omega
    · obtain rfl : j = n := by omega
      go_wp2
      go_ret
      exact ⟨rfl, rfl⟩

set_option maxHeartbeats 2000000 in
set_option maxRecDepth 100000 in
theorem markDepS_any (w : World) (v : Value) (l : List (Int × Int)) (B : Nat) (k : Int) (h : w.ownsRow B 76 2 v l.length (flat l)) (hl : l.length ≤ 1048576) (k0 : 0 ≤ k) (k1 : k ≤ 1000000000000000) :
    Calls Tryz.prog 59 #[v, .int .i64 k] w fun e w' => e = .returned (.int .i64 (k + 2 * l.length)) ∧ w'.ownsRow B 76 2 v l.length (flat (marks k l.length)) ∧ w.grownBy w' v.ownBlock := by
  obtain ⟨a, cap, rfl⟩ := own_form h
  have H := hide h
  clear h
  go_enter Tryz.func59, Tryz.ntmps59
  go_wp2_with fail
  go_loopw [1, 5] (fun kv i w' => ∃ j : Nat, j ≤ l.length ∧ i = .int .i64 j ∧ kv = .int .i64 (k + 2 * j) ∧ w'.ownsRow B 76 2 (.slice a l.length cap) l.length (flat (marks k j ++ l.drop j)) ∧ w.grownBy w' (Value.slice a l.length cap).ownBlock) (fun _ i _ => l.length - (intOf i).toNat)
  case atStart => exact ⟨0, Nat.zero_le _, rfl, by simp, by simpa [marks] using unhide H, grown_reflM _ _⟩
  case round =>
    obtain ⟨j, hj, rfl, rfl, ho, hg⟩ := hrel
    have HO := hide ho
    have HG := hide hg
    by_cases hlt : j < l.length
    · obtain ⟨gb, cp, e, _, hgl⟩ := ho.form (by omega)
      injection e with e1 _ e3
      subst e1 e3
      have hat := flat_at (marks k j ++ l.drop j) j (by rw [List.length_append, marks_len, List.length_drop]; omega)
      have c1 : wr.cell? ⟨gb, j * 2, none⟩ = some (.int .i64 (Pk.fst (marks k j ++ l.drop j) j)) := by rw [ho.cellAt _ (by omega)]; exact hat.1
      have c2 : wr.cell? ⟨gb, j * 2 + 1, none⟩ = some (.int .i64 (Pk.snd (marks k j ++ l.drop j) j)) := by rw [ho.cellAt _ (by omega)]; exact hat.2
      have f1 : wr.frozen? ⟨gb, j * 2, none⟩ = false := ho.frozenAt _
      have f2 : wr.frozen? ⟨gb, j * 2 + 1, none⟩ = false := ho.frozenAt _
      have hi0 : (0 : Int) ≤ (j : Int) := Int.natCast_nonneg _
      have hi1 : (j : Int) < (l.length : Int) := by omega
      have HSET := hide (mark_set k l j hlt)
      clear ho hg hat
      go_wp2_with fail
      have h1 := (unhide HO).stored (j * 2) (.int .i64 (k + 2 * j))
      have h2 := h1.1.stored (j * 2 + 1) (.int .i64 (k + 2 * j + 1))
      go_roundw
      case rel =>
        refine ⟨j + 1, by omega, by go_num, by go_num, ?_, (unhide HG).trans (h1.2.trans h2.2)⟩
        rw [← unhide HSET]
        exact h2.1
      case measure => simp [intOf]; omega
    · obtain rfl : j = l.length := by omega
      rw [List.drop_length, List.append_nil] at HO
      clear ho hg hlt
      go_wp2
      go_ret
      exact ⟨rfl, unhide HO, unhide HG⟩

set_option maxHeartbeats 2000000 in
set_option maxRecDepth 100000 in
theorem heldDepS_any (w : World) (v : Value) (n : Nat) (B : Nat) (k : Int) (h : w.ownsRow B 76 2 v n (flat (marks k n))) (hl : n ≤ 1000) (k0 : 0 ≤ k) (k1 : k ≤ 1000000000000000) :
    Calls Tryz.prog 61 #[v, .int .i64 k] w fun e w' => e = .returned (.int .i64 (k + 2 * n)) ∧ w' = w := by
  obtain ⟨a, cap, rfl⟩ := own_form h
  have H := hide h
  clear h
  go_enter Tryz.func61, Tryz.ntmps61
  go_wp2_with fail
  go_loop [1, 5] (fun kv i => ∃ j : Nat, j ≤ n ∧ i = .int .i64 j ∧ kv = .int .i64 (k + 2 * j)) (fun _ i => n - (intOf i).toNat)
  case atStart => exact ⟨0, Nat.zero_le _, rfl, by simp⟩
  case round =>
    obtain ⟨j, hj, rfl, rfl⟩ := hrel
    by_cases hlt : j < n
    · obtain ⟨gb, cp, e, _, hgl⟩ := (unhide H).form (by omega)
      injection e with e1 _ e3
      subst e1 e3
      have hat := flat_at (marks k n) j (by rw [marks_len]; exact hlt)
      have c1 : w.cell? ⟨gb, j * 2, none⟩ = some (.int .i64 (k + 2 * j)) := by rw [(unhide H).cellAt _ (by omega), hat.1, (marks_at k n j hlt).1]
      have c2 : w.cell? ⟨gb, j * 2 + 1, none⟩ = some (.int .i64 (k + 2 * j + 1)) := by rw [(unhide H).cellAt _ (by omega), hat.2, (marks_at k n j hlt).2]
      have hi0 : (0 : Int) ≤ (j : Int) := Int.natCast_nonneg _
      have hi1 : (j : Int) < (n : Int) := by omega
      have b1 : (k + 2 * (j : Int) != k + 2 * (j : Int)) = false := by simp
      have b2 : (k + 2 * (j : Int) + 1 != k + 2 * (j : Int) + 1) = false := by simp
      clear hat
      go_wp2
      go_round
      case rel => exact ⟨j + 1, by omega, by go_num, by go_num⟩
      case measure => simp [intOf]; omega
    · obtain rfl : j = n := by omega
      go_wp2
      go_ret
      exact ⟨rfl, rfl⟩

/-- A row of files and a row of needs do not lie in one block. -/
theorem file_dep_ne {w : World} {B B' : Nat} {v v' : Value} {n n' : Nat} {xs xs' : List Value} (h : w.ownsRow B 74 2 v n xs) (h' : w.ownsRow B' 76 2 v' n' xs') : ∀ g, v'.ownBlock = some g → some g ≠ v.ownBlock := by
  intro g hg' hg
  rcases h.2 with ⟨rfl, _⟩ | ⟨g1, c1, cur1, rfl, _, hb1, _⟩
  · cases hg
  rcases h'.2 with ⟨rfl, _⟩ | ⟨g2, c2, cur2, rfl, _, hb2, _⟩
  · cases hg'
  simp only [Value.ownBlock, Option.some.injEq] at hg hg'
  subst hg'
  subst hg
  rw [hb1] at hb2
  injection hb2 with hb2
  injection hb2 with _ hb2 _
  revert hb2
  decide

set_option maxHeartbeats 2000000 in
set_option maxRecDepth 100000 in
theorem markPkg_any (w : World) (nm vr : Int) (fv dv : Value) (fs ds : List (Int × Int)) (B : Nat) (hf : w.ownsRow B 74 2 fv fs.length (flat fs)) (hd : w.ownsRow B 76 2 dv ds.length (flat ds)) (hB : B ≤ w.heap.size) (hfl : fs.length ≤ 1000) (hdl : ds.length ≤ 1000) :
    Calls Tryz.prog 26 #[.agg #[.int .i64 nm, .int .i64 vr, fv, dv], .int .i64 1] w fun e w' => e = .returned (.int .i64 (1 + 2 * fs.length + 2 * ds.length)) ∧ w'.ownsRow B 74 2 fv fs.length (flat (marks 1 fs.length)) ∧ w'.ownsRow B 76 2 dv ds.length (flat (marks (1 + 2 * fs.length) ds.length)) ∧ Below B w w' ∧ (∀ k, k < w.heap.size → some k ≠ fv.ownBlock → some k ≠ dv.ownBlock → w'.heap[k]? = w.heap[k]?) := by
  have HF := hide hf
  have HD := hide hd
  obtain ⟨fa, fc, rfl⟩ := own_form hf
  obtain ⟨da, dc, rfl⟩ := own_form hd
  have hB1 : Below w.heap.size w (w.alloc (.cells #[.int .i64 nm, .int .i64 vr, .slice fa fs.length fc, .slice da ds.length dc] 35)) := (Below.refl _ _).alloc (Nat.le_refl _) _
  have HX := hide (box4 w (.int .i64 nm) (.int .i64 vr) (.slice fa fs.length fc) (.slice da ds.length dc) 35)
  have HXH := hide (heap_alloc_new w (.cells #[.int .i64 nm, .int .i64 vr, .slice fa fs.length fc, .slice da ds.length dc] 35))
  have HB1 := hide hB1
  have HF1 := hide (hf.alloc (.cells #[.int .i64 nm, .int .i64 vr, .slice fa fs.length fc, .slice da ds.length dc] 35))
  have HD1 := hide (hd.alloc (.cells #[.int .i64 nm, .int .i64 vr, .slice fa fs.length fc, .slice da ds.length dc] 35))
  clear hB1 hf hd
  go_enter Tryz.func26, Tryz.ntmps26
  go_wp2_with fail
  refine (markFileS_any _ _ fs B 1 (unhide HF1) (by omega) (by omega) (by omega)).mono ?_
  generalize w.alloc _ = W1 at *
  rintro e w2 ⟨rfl, hf2, hg2⟩
  have hne : ∀ k, (Value.slice fa fs.length fc).ownBlock = some k → k ≠ w.heap.size := fun k hk => Nat.ne_of_lt ((unhide HF).lt k hk).2
  have hne' : ∀ k, (Value.slice da ds.length dc).ownBlock = some k → k ≠ w.heap.size := fun k hk => Nat.ne_of_lt ((unhide HD).lt k hk).2
  have hlt1 : w.heap.size < W1.heap.size := by have := (unhide HX).1; omega
  have hX2 : w2.heap[w.heap.size]? = _ := (hg2.block _ hlt1 (fun e => hne _ e.symm rfl)).trans (unhide HXH)
  obtain ⟨x0, x1, x2, x3⟩ : _ ∧ _ ∧ _ ∧ _ := ⟨cellOf hX2 0, cellOf hX2 1, cellOf hX2 2, cellOf hX2 3⟩
  have HD2 : Hid (w2.ownsRow B 76 2 (.slice da ds.length dc) ds.length (flat ds)) := own_keep (unhide HD1) (fun k _ hk _ hkk => hg2.block k (heap_lt hkk) (file_dep_ne (unhide HF1) (unhide HD1) k hk))
  have HF2 := hide hf2
  have HG2 := hide hg2
  have k0 : (0 : Int) ≤ 1 + 2 * (fs.length : Int) := by omega
  have k1 : 1 + 2 * (fs.length : Int) ≤ 1000000 := by omega
  clear hf2 hg2 hX2
  go_wp2_with fail
  refine (markDepS_any _ _ ds B _ (unhide HD2) (by omega) k0 (by omega)).mono ?_
  rintro e w3 ⟨rfl, hd3, hg3⟩
  have HF3 : Hid (w3.ownsRow B 74 2 (.slice fa fs.length fc) fs.length (flat (marks 1 fs.length))) := own_keep (unhide HF2) (fun k _ hk _ hkk => hg3.block k (heap_lt hkk) (fun e => file_dep_ne (unhide HF2) (unhide HD2) k e.symm hk.symm))
  have HD3 := hide hd3
  have HB3 : Hid (Below B w w3) := by
    have b1 : Below B w W1 := (unhide HB1).mono hB
    have b2 := b1.grown (unhide HG2) (Nat.le_trans hB b1.size) (fun k hk => ((unhide HF).lt k hk).1)
    exact b2.grown hg3 (Nat.le_trans (Nat.le_trans hB b1.size) (unhide HG2).size) (fun k hk => ((unhide HD).lt k hk).1)
  have HK3 : Hid (∀ k, k < w.heap.size → some k ≠ (Value.slice fa fs.length fc).ownBlock → some k ≠ (Value.slice da ds.length dc).ownBlock → w3.heap[k]? = w.heap[k]?) := fun k hk h1 h2 => by
    rw [hg3.block k (Nat.lt_of_lt_of_le hk (Nat.le_trans (Nat.le_of_lt hlt1) (unhide HG2).size)) h2, (unhide HG2).block k (by omega) h1]
    exact (unhide HB1).block k hk
  clear hd3 hg3
  go_wp2
  go_ret
  exact ⟨rfl, unhide HF3, unhide HD3, unhide HB3, unhide HK3⟩

set_option maxHeartbeats 2000000 in
set_option maxRecDepth 100000 in
theorem heldPkg_any (w : World) (nm vr : Int) (fv dv : Value) (n m : Nat) (B : Nat) (hf : w.ownsRow B 74 2 fv n (flat (marks 1 n))) (hd : w.ownsRow B 76 2 dv m (flat (marks (1 + 2 * n) m))) (hn : n ≤ 1000) (hm : m ≤ 1000) :
    Calls Tryz.prog 27 #[.agg #[.int .i64 nm, .int .i64 vr, fv, dv], .int .i64 1] w fun e w' => e = .returned (.int .i64 (1 + 2 * n + 2 * m)) ∧ Below w.heap.size w w' := by
  obtain ⟨fa, fc, rfl⟩ := own_form hf
  obtain ⟨da, dc, rfl⟩ := own_form hd
  have HB1 : Hid (Below w.heap.size w (w.alloc (.cells #[.int .i64 nm, .int .i64 vr, .slice fa n fc, .slice da m dc] 35))) := (Below.refl _ _).alloc (Nat.le_refl _) _
  have HF1 := hide (hf.alloc (.cells #[.int .i64 nm, .int .i64 vr, .slice fa n fc, .slice da m dc] 35))
  have HD1 := hide (hd.alloc (.cells #[.int .i64 nm, .int .i64 vr, .slice fa n fc, .slice da m dc] 35))
  have k0 : (0 : Int) ≤ 1 + 2 * (n : Int) := by omega
  have k1 : 1 + 2 * (n : Int) ≤ 1000000 := by omega
  clear hf hd
  go_enter Tryz.func27, Tryz.ntmps27
  go_wp2_with fail
  refine (heldFileS_any _ _ n B 1 (unhide HF1) hn (by omega) (by omega)).mono ?_
  rintro e w2 ⟨rfl, rfl⟩
  go_wp2_with fail
  refine (heldDepS_any _ _ m B _ (unhide HD1) hm k0 (by omega)).mono ?_
  rintro e w3 ⟨rfl, rfl⟩
  go_wp2
  go_ret
  exact ⟨rfl, unhide HB1⟩
end Go.Proofs.YtjehpeojdcaklaaGreatDoor
