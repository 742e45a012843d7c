import Derived.Test.YtlnieobmhofkdaaGreatMix2
import Derived.Test.YtlnieobmhofkdaaGreatMathW
import Derived.Test.YtlnieobmhofkdaaGreatMix0
/- What impl.metaOk and impl.metaBelow return. -/
namespace Go.Proofs.YtlnieobmhofkdaaGreat
open Go.RowKit

set_option maxHeartbeats 2000000 in
theorem metaOk_any (w : World) (n v s : Int) :
    Calls Tryz.prog 89 #[.agg #[.int .i64 n, .int .i64 v, .int .i64 s]] w fun e w' => e = .returned (.bool (Ix.mOk n v s)) ∧ Below w.heap.size w w' := by
  have HB := hide (below1 w (.cells #[.int .i64 n, .int .i64 v, .int .i64 s] 60))
  cases hA : Pk.inB n 1 4
  · go_enter Tryz.func89, Tryz.ntmps89
    go_wp2_with (go_at_call 77; refine (between_any _ _ _ _).mono ?_; rintro e w' ⟨rfl, rfl⟩)
    go_ret
    exact ⟨ret_bool (by simp [Ix.mOk, hA]), unhide HB⟩
  cases hB : Pk.inB v 1 5
  · go_enter Tryz.func89, Tryz.ntmps89
    go_wp2_with (go_at_call 77; refine (between_any _ _ _ _).mono ?_; rintro e w' ⟨rfl, rfl⟩)
    go_ret
    exact ⟨ret_bool (by simp [Ix.mOk, hB]), unhide HB⟩
  go_enter Tryz.func89, Tryz.ntmps89
  go_wp2_with (go_at_call 77; refine (between_any _ _ _ _).mono ?_; rintro e w' ⟨rfl, rfl⟩)
  go_ret
  exact ⟨ret_bool (by simp [Ix.mOk, hA, hB]), unhide HB⟩

set_option maxHeartbeats 2000000 in
theorem metaBelow_any (w : World) (n v s m u t : Int) :
    Calls Tryz.prog 59 #[.agg #[.int .i64 n, .int .i64 v, .int .i64 s], .agg #[.int .i64 m, .int .i64 u, .int .i64 t]] w fun e w' => e = .returned (.bool (Ix.less n v m u)) ∧ Below w.heap.size w w' := by
  have HB := hide ((below1 w (.cells #[.int .i64 n, .int .i64 v, .int .i64 s] 60)).alloc (by rw [sz1']; omega) (.cells #[.int .i64 m, .int .i64 u, .int .i64 t] 60))
  by_cases h : n = m
  · have hb : (n != m) = false := by simp [h]
    have HE := hide h
    clear h
    go_enter Tryz.func59, Tryz.ntmps59
    go_wp2
    go_ret
    exact ⟨ret_bool (by have := unhide HE; subst this; simp [Ix.less]), unhide HB⟩
  · have hb : (n != m) = true := by simp [h]
    go_enter Tryz.func59, Tryz.ntmps59
    go_wp2
    go_ret
    exact ⟨ret_bool (by simp [Ix.less, h]), unhide HB⟩
end Go.Proofs.YtlnieobmhofkdaaGreat

/- Rows of pairs that a call makes: how they lie, what they read as, what stays. -/
namespace Go.Proofs.YtlnieobmhofkdaaGreat
open Go.RowKit

/-- Pairs as cells. -/
def flat (l : List (Int × Int)) : List Value := l.flatMap fun x => [.int .i64 x.1, .int .i64 x.2]
theorem flat_snoc (l : List (Int × Int)) (a b : Int) : flat (l ++ [(a, b)]) = flat l ++ [.int .i64 a, .int .i64 b] := by unfold flat; rw [List.flatMap_append]; rfl
theorem flat_at : ∀ (l : List (Int × Int)) (i : Nat), i < l.length → (flat l)[i * 2]? = some (.int .i64 (Pk.fst l i)) ∧ (flat l)[i * 2 + 1]? = some (.int .i64 (Pk.snd l i))
  | [], i, h => by simp at h
  | x :: l, 0, _ => ⟨rfl, rfl⟩
  | x :: l, i + 1, h => by
    have := flat_at l i (by simpa using h)
    have e : flat (x :: l) = .int .i64 x.1 :: .int .i64 x.2 :: flat l := rfl
    have e1 : (i + 1) * 2 = i * 2 + 1 + 1 := by omega
    rw [e, e1]
    exact ⟨by rw [List.getElem?_cons_succ, List.getElem?_cons_succ]; exact this.1, by rw [List.getElem?_cons_succ, List.getElem?_cons_succ]; exact this.2⟩

/-- A row of one's own can be read. -/
theorem Prs.own {w : World} {B : Nat} {t : TypeId} {v : Value} {l : List (Int × Int)} (h : w.ownsRow B t 2 v l.length (flat l)) (hl : l.length ≤ 1000000) : Prs w v l := by
  rcases h.2 with ⟨hv, hn⟩ | ⟨g, cap, cur, hv, hb, hg, hc, hm, hs, ht⟩
  · exact ⟨none, 0, by rw [hv, hn], by omega, fun hp => by omega⟩
  · refine ⟨some ⟨g, 0, none⟩, cap, hv, by omega, fun _ => ⟨g, 0, rfl, ?_, fun i hi => ?_⟩⟩
    · rcases Nat.lt_or_ge g w.heap.size with h | h
      · exact h
      · rw [Array.getElem?_eq_none h] at hg; cases hg
    · have hx := flat_at l i hi
      have hcell : ∀ j u, (flat l)[j]? = some u → w.cell? ⟨g, 0 + j, none⟩ = some u := by
        intro j u hu
        rw [Nat.zero_add, World.cell?, hg]
        rw [← ht] at hu
        have : cur.toList[j]? = some u := by
          rw [List.getElem?_take] at hu
          split at hu
          · exact hu
          · cases hu
        simpa using this
      exact ⟨hcell _ _ hx.1, by rw [Nat.add_assoc]; exact hcell _ _ hx.2⟩

theorem heap_lt {w : World} {k : Nat} {o : Obj} (h : w.heap[k]? = some o) : k < w.heap.size := by
  rcases Nat.lt_or_ge k w.heap.size with h1 | h1
  · exact h1
  · rw [Array.getElem?_eq_none h1] at h; cases h

/-- A row of one's own stays where its block does. -/
theorem own_keep {w w' : World} {B : Nat} {t : TypeId} {v : Value} {n : Nat} {xs : List Value} (h : w.ownsRow B t 2 v n xs) (hb : ∀ g cur, v.ownBlock = some g → B ≤ g → w.heap[g]? = some (.cells cur t (0, 0)) → w'.heap[g]? = w.heap[g]?) : w'.ownsRow B t 2 v n xs := by
  refine ⟨h.1, ?_⟩
  rcases h.2 with hn | ⟨g, cap, cur, rfl, hb1, hgg, rest⟩
  · exact .inl hn
  · exact .inr ⟨g, cap, cur, rfl, hb1, by rw [hb g cur rfl hb1 hgg]; exact hgg, rest⟩

theorem own_form {w : World} {B : Nat} {t : TypeId} {v : Value} {n : Nat} {xs : List Value} (h : w.ownsRow B t 2 v n xs) : ∃ a cap, v = .slice a n cap := by
  rcases h.2 with ⟨hv, hn⟩ | ⟨g, cap, cur, hv, _⟩
  · exact ⟨none, 0, by rw [hv, hn]⟩
  · exact ⟨_, cap, hv⟩

theorem cell_of {w : World} {b : Nat} {c : Array Value} {t : TypeId} {fr : Nat × Nat} (h : w.heap[b]? = some (.cells c t fr)) (o : Nat) : w.cell? ⟨b, o, none⟩ = c[o]? := by
  rw [World.cell?, h]; rfl
theorem frozen_of {w : World} {b : Nat} {c : Array Value} {t : TypeId} (h : w.heap[b]? = some (.cells c t (0, 0))) (o : Nat) : w.frozen? ⟨b, o, none⟩ = false := by
  rw [World.frozen?, h]; simp

theorem heap_set {w : World} {b o : Nat} {c : Array Value} {t : TypeId} {fr : Nat × Nat} {v : Value} (h : w.heap[b]? = some (.cells c t fr)) : (w.setCell ⟨b, o, none⟩ v).heap[b]? = some (.cells (c.setIfInBounds o v) t fr) := by
  simp [World.setCell, Array.getElem?_modify, h]

theorem infoFile : (Tryz.prog.info? 96).map (fun i => (i.zero, i.size, i.bytes)) = some (some (.agg #[.int .i64 0, .int .i64 0]), 2, 16) := by kernel_rfl
theorem infoDep : (Tryz.prog.info? 98).map (fun i => (i.zero, i.size, i.bytes)) = some (some (.agg #[.int .i64 0, .int .i64 0]), 2, 16) := by kernel_rfl

theorem sz1 (w : World) (o : Obj) : (w.alloc o).heap.size = w.heap.size + 1 := by simp
theorem at_new (w : World) (o : Obj) (k : Nat) (hk : k = w.heap.size) : (w.alloc o).heap[k]? = some o := by rw [hk]; exact heap_alloc_new w o
theorem at_old (w : World) (o : Obj) (k : Nat) (hk : k < w.heap.size) : (w.alloc o).heap[k]? = w.heap[k]? := Below.heap_alloc w o k hk
end Go.Proofs.YtlnieobmhofkdaaGreat
