import Derived.Test.YtlidgoomlllonaaDoorPlanLawMath
import Derived.Test.YtlidgoomlllonaaDoorMixF
import Derived.Laws.MakeOwn
/- Places that are used, counted, as plain data. -/
namespace Go.Proofs.YtlidgoomlllonaaDoor.Ix
open Pk

/-- Each place was met at most once, and only where a file had it. -/
def usedOk (l : List Pg) (k : Nat) (fs : List (Int × Int)) (U : List Int) : Prop :=
  U.length = 6 ∧ ∀ n : Nat, n < 6 → U.getD n 0 = 0 ∨ (U.getD n 0 = 1 ∧ ((∃ j, j < k ∧ hasAt n (pg l j) = true) ∨ ∃ f ∈ fs, f.1 = n))
theorem usedOk.start (l : List Pg) : usedOk l 0 [] (List.replicate 6 0) := by
  refine ⟨rfl, fun n hn => .inl ?_⟩
  rw [List.getD_eq_getElem?_getD, List.getElem?_replicate, if_pos hn]
  rfl
theorem usedOk.zero {l : List Pg} {k m n : Nat} {U : List Int} (h : usedOk l k ((pg l k).2.2.1.take m) U) (hp : planOk l = true) (hk : k < l.length) (hm : m < (pg l k).2.2.1.length) (hn : Pk.fst (pg l k).2.2.1 m = n) (hn6 : n < 6) : U.getD n 0 = 0 := by
  rcases h.2 n hn6 with h0 | ⟨_, ⟨j, hj, hh⟩ | ⟨f, hf, he⟩⟩
  · exact h0
  · obtain ⟨g, hg, e⟩ := hasAt_true.1 hh
    exact absurd (e.trans hn.symm) ((plan_pairs hp hj hk).2 g hg _ (pair_mem hm).1)
  · obtain ⟨i, hi, e⟩ := mem_pair hf
    rw [List.length_take] at hi
    have hi2 : i < m := by omega
    have h1 := files_asc (pkgs_pOk (planOk_pkgs hp) hk) hi2 hm
    have h2 : Pk.fst ((pg l k).2.2.1.take m) i = Pk.fst (pg l k).2.2.1 i := by
      unfold Pk.fst
      rw [List.getD_eq_getElem?_getD, List.getD_eq_getElem?_getD, List.getElem?_take_of_lt hi2]
    rw [e] at he
    dsimp only at he
    omega
theorem usedOk.next {l : List Pg} {k m n : Nat} {U : List Int} (h : usedOk l k ((pg l k).2.2.1.take m) U) (hm : m < (pg l k).2.2.1.length) (hn : Pk.fst (pg l k).2.2.1 m = n) (hn6 : n < 6) : usedOk l k ((pg l k).2.2.1.take (m + 1)) (U.set n 1) := by
  refine ⟨by rw [List.length_set]; exact h.1, fun i hi => ?_⟩
  have ht : (pg l k).2.2.1.take (m + 1) = (pg l k).2.2.1.take m ++ [(Pk.fst (pg l k).2.2.1 m, Pk.snd (pg l k).2.2.1 m)] := by rw [List.take_add_one, (pair_mem hm).2]; rfl
  rw [ht]
  by_cases hin : i = n
  · subst hin
    right
    rw [List.getD_eq_getElem?_getD, List.getElem?_set_self (by rw [h.1]; exact hi)]
    exact ⟨rfl, .inr ⟨_, List.mem_append_right _ (List.mem_singleton.2 rfl), hn⟩⟩
  · rw [List.getD_eq_getElem?_getD, List.getElem?_set_ne (fun e => hin e.symm), ← List.getD_eq_getElem?_getD]
    rcases h.2 i hi with h0 | ⟨h1, h2⟩
    · exact .inl h0
    · refine .inr ⟨h1, ?_⟩
      rcases h2 with h2 | ⟨f, hf, e⟩
      · exact .inl h2
      · exact .inr ⟨f, List.mem_append_left _ hf, e⟩
theorem usedOk.pkg {l : List Pg} {k : Nat} {U : List Int} (h : usedOk l k (pg l k).2.2.1 U) : usedOk l (k + 1) [] U := by
  refine ⟨h.1, fun n hn => ?_⟩
  rcases h.2 n hn with h0 | ⟨h1, h2⟩
  · exact .inl h0
  · refine .inr ⟨h1, .inl ?_⟩
    rcases h2 with ⟨j, hj, hh⟩ | ⟨f, hf, e⟩
    · exact ⟨j, by omega, hh⟩
    · exact ⟨k, by omega, hasAt_true.2 ⟨f, hf, e⟩⟩
end Go.Proofs.YtlidgoomlllonaaDoor.Ix

/- What the laws' own helpers for rows of numbers return: toIntS a copy in memory of its own, eqIntS true of two that read the same, szIntS how much is left. -/
namespace Go.Proofs.YtlidgoomlllonaaDoor
open Go.RowKit



/-- A new row of n numbers. -/
theorem mk_ints (w : World) (n : Nat) (hn : n ≤ 1048576) :
    ∃ C : Array Value, C.size = n ∧ (Instr.makeSlice 26 (.int .i64 (n : Int)) (.int .i64 (n : Int))).run Tryd.prog w = .ok (.slice (some ⟨w.heap.size, 0, none⟩) n n) (w.alloc (.cells C 3)) := by
  obtain ⟨i, hi0, hz0, hz1, hz2⟩ := info_parts infoI
  have h := run_make (P := Tryd.prog) w 26 3 i (.int .i64 0) Tryd.underlying26 hi0 hz0 .i64 .i64 (n : Int) (n : Int) (by omega) (Int.le_refl _) (by rw [hz2]; omega) (by omega)
  rw [hz1] at h
  simp only [Int.toNat_natCast] at h
  exact ⟨_, by rw [size_madeCells, Nat.mul_one], h⟩

/-- The row that is filled: the first k numbers are there. -/
def FillI (w : World) (g : Nat) (l : List Int) (k : Nat) : Prop :=
  ∃ C : Array Value, w.heap[g]? = some (.cells C 3 (0, 0)) ∧ C.size = l.length ∧ ∀ i, i < k → C[i]? = some (.int .i64 (Ky.nth l i))

theorem FillI.more {w : World} {g : Nat} {l : List Int} {k : Nat} (h : FillI w g l k) (hk : k < l.length) :
    FillI (w.setCell ⟨g, k, none⟩ (.int .i64 (Ky.nth l k))) g l (k + 1) := by
  obtain ⟨C, h1, h2, h3⟩ := h
  refine ⟨_, heapSet h1, by simpa using h2, fun i hi => ?_⟩
  rcases Nat.lt_or_ge i k with hlt | hge
  · rw [Array.getElem?_setIfInBounds_ne (by omega)]
    exact h3 i hlt
  · obtain rfl : i = k := by omega
    rw [Array.getElem?_setIfInBounds_self_of_lt (by omega)]

theorem FillI.keep {w w' : World} {g k : Nat} {l : List Int} (h : FillI w g l k) (hb : w'.heap[g]? = w.heap[g]?) : FillI w' g l k := by
  obtain ⟨C, h1, h2, h3⟩ := h
  exact ⟨C, hb.trans h1, h2, h3⟩
theorem FillI.later {w w' : World} {g k : Nat} {l : List Int} (h : FillI w g l k) (hb : Below w.heap.size w w') : FillI w' g l k := by
  obtain ⟨C, h1, h2, h3⟩ := h
  exact ⟨C, (hb.block g (heapLt h1)).trans h1, h2, h3⟩
theorem FillI.ins {w : World} {g : Nat} {l : List Int} (h : FillI w g l l.length) (hl : l.length ≤ 1048576) : Ins w (.slice (some ⟨g, 0, none⟩) l.length l.length) l := by
  obtain ⟨C, h1, h2, h3⟩ := h
  refine ⟨_, _, rfl, by omega, fun _ => ⟨g, 0, rfl, heapLt h1, fun i hi => ?_⟩⟩
  rw [Nat.zero_add, cellOf h1]
  exact h3 i hi

end Go.Proofs.YtlidgoomlllonaaDoor
