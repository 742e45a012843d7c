import Derived.Test.YtlnieobmhofkdaaGreatPksW
import Derived.Test.YtlnieobmhofkdaaGreatMathW
import Derived.Test.YtlnieobmhofkdaaGreatMix3
import Derived.Test.YtlnieobmhofkdaaGreatMetasW
/- Rows of one's own in boxes: what stays where a row grows and its place in a box is written; rows of metas and of packages that a call makes, and how they are read. -/
namespace Go.Proofs.YtlnieobmhofkdaaGreat
open Go.RowKit

theorem own_keepS {w w' : World} {B sz : Nat} {t : TypeId} {v : Value} {n : Nat} {xs : List Value} (h : w.ownsRow B t sz v n xs) (hb : ∀ g cur, v.ownBlock = some g → B ≤ g → w.heap[g]? = some (.cells cur t (0, 0)) → w'.heap[g]? = w.heap[g]?) : w'.ownsRow B t sz v n xs := by
  refine ⟨h.1, ?_⟩
  rcases h.2 with hn | ⟨g, cap, cur, rfl, hb1, hgg, rest⟩
  · exact .inl hn
  · exact .inr ⟨g, cap, cur, rfl, hb1, by rw [hb g cur rfl hb1 hgg]; exact hgg, rest⟩
theorem own_later {w w' : World} {B sz : Nat} {t : TypeId} {v : Value} {n : Nat} {xs : List Value} (h : w.ownsRow B t sz v n xs) (hb : Below w.heap.size w w') : w'.ownsRow B t sz v n xs :=
  own_keepS h (fun g _ _ _ hg => hb.block g (heapLt hg))
theorem own_formS {w : World} {B sz : Nat} {t : TypeId} {v : Value} {n : Nat} {xs : List Value} (h : w.ownsRow B t sz v n xs) : ∃ a cap, v = .slice a n cap := by
  rcases h.2 with ⟨hv, hn⟩ | ⟨g, cap, cur, hv, _⟩
  · exact ⟨none, 0, by rw [hv, hn]⟩
  · exact ⟨_, cap, hv⟩
/-- The block of a row is of the row's type. -/
theorem own_row {w : World} {B sz : Nat} {t : TypeId} {v : Value} {n : Nat} {xs : List Value} (h : w.ownsRow B t sz v n xs) : ∀ k, v.ownBlock = some k → B ≤ k ∧ ∃ cur, w.heap[k]? = some (.cells cur t (0, 0)) := by
  intro k hk
  rcases h.2 with ⟨rfl, _⟩ | ⟨g', cap', cur, rfl, hb, hgg, _⟩
  · cases hk
  · simp only [Value.ownBlock, Option.some.injEq] at hk
    subst hk
    exact ⟨hb, cur, hgg⟩
/-- A block of another type is not the row's. -/
theorem own_ne {w : World} {B sz : Nat} {t t' : TypeId} {v : Value} {n : Nat} {xs : List Value} (h : w.ownsRow B t sz v n xs) {k : Nat} {c : Array Value} (hk : w.heap[k]? = some (.cells c t' (0, 0))) (ht : t' ≠ t) : v.ownBlock ≠ some k := by
  intro e
  obtain ⟨_, cur, hc⟩ := own_row h k e
  rw [hk] at hc
  injection hc with hc
  injection hc with _ hc _
  exact ht hc
/-- A row grows: blocks of other types, and those below its base, stay. -/
theorem grown_other {w1 w2 : World} {B sz : Nat} {t : TypeId} {v : Value} {n : Nat} {xs : List Value} (h : w1.ownsRow B t sz v n xs) (hg : w1.grownBy w2 v.ownBlock) {k : Nat} {c : Array Value} {t' : TypeId} (hk : w1.heap[k]? = some (.cells c t' (0, 0))) (ht : t' ≠ t) : w2.heap[k]? = w1.heap[k]? :=
  hg.block k (heapLt hk) (fun e => own_ne h hk ht e.symm)
theorem grown_below {W w1 w2 : World} {B sz : Nat} {t : TypeId} {v : Value} {n : Nat} {xs : List Value} (h : w1.ownsRow B t sz v n xs) (hg : w1.grownBy w2 v.ownBlock) (hb : Below B W w1) (hB : B ≤ w1.heap.size) : Below B W w2 :=
  ⟨hg.os.trans hb.os, hg.tape.trans hb.tape, hg.output.trans hb.output, Nat.le_trans hb.size hg.size, fun k hk => (hg.block k (by omega) (fun e => by obtain ⟨h1, _⟩ := own_row h k e.symm; omega)).trans (hb.block k hk)⟩
/-- A store into a box leaves rows alone. -/
theorem own_set {w : World} {B sz : Nat} {t t' : TypeId} {v u : Value} {n X o : Nat} {xs : List Value} {c : Array Value} (h : w.ownsRow B t sz v n xs) (hX : w.heap[X]? = some (.cells c t' (0, 0))) (ht : t' ≠ t) : (w.setCell ⟨X, o, none⟩ u).ownsRow B t sz v n xs :=
  own_keepS h (fun g _ e _ _ => Below.heap_setCell _ _ _ _ (fun e2 => own_ne h hX ht (by rw [e, e2])))
theorem below_set {B : Nat} {W w : World} {X o : Nat} {u : Value} (h : Below B W w) (hX : B ≤ X) : Below B W (w.setCell ⟨X, o, none⟩ u) :=
  ⟨h.os, h.tape, h.output, by simp only [World.setCell, Array.size_modify]; exact h.size, fun k hk => by rw [Below.heap_setCell _ _ _ _ (by show k ≠ X; omega)]; exact h.block k hk⟩

/-- Metas as cells. -/
def flat3 (l : List Ix.M) : List Value := l.flatMap fun x => [.int .i64 x.1, .int .i64 x.2.1, .int .i64 x.2.2]
theorem flat3_snoc (l : List Ix.M) (x : Ix.M) : flat3 (l ++ [x]) = flat3 l ++ [.int .i64 x.1, .int .i64 x.2.1, .int .i64 x.2.2] := by unfold flat3; rw [List.flatMap_append]; rfl
theorem flat3_at : ∀ (l : List Ix.M) (i : Nat), i < l.length → (flat3 l)[i * 3]? = some (.int .i64 (Ix.nm l i)) ∧ (flat3 l)[i * 3 + 1]? = some (.int .i64 (Ix.vr l i)) ∧ (flat3 l)[i * 3 + 2]? = some (.int .i64 (Ix.sm l i))
  | [], i, h => by simp at h
  | x :: l, 0, _ => ⟨rfl, rfl, rfl⟩
  | x :: l, i + 1, h => by
    have := flat3_at l i (by simpa using h)
    have e : flat3 (x :: l) = .int .i64 x.1 :: .int .i64 x.2.1 :: .int .i64 x.2.2 :: flat3 l := rfl
    have e1 : (i + 1) * 3 = i * 3 + 1 + 1 + 1 := by omega
    rw [e, e1]
    exact ⟨this.1, by show (flat3 l)[i * 3 + 1]? = _; exact this.2.1, by show (flat3 l)[i * 3 + 2]? = _; exact this.2.2⟩
/-- A cell of a row of one's own. -/
theorem own_cell {w : World} {g cap n sz : Nat} {B : Nat} {t : TypeId} {xs : List Value} (h : w.ownsRow B t sz (.slice (some ⟨g, 0, none⟩) n cap) n xs) (j : Nat) (u : Value) (hu : xs[j]? = some u) : w.cell? ⟨g, j, none⟩ = some u := by
  rcases h.2 with ⟨hv, hn⟩ | ⟨g', cap', cur, hv, hb, hg, hc, hm, hs, ht⟩
  · cases hv
  · injection hv with hv _ _
    injection hv with hv
    injection hv with hv _ _
    subst hv
    rw [World.cell?, hg]
    rw [← ht] at hu
    have : cur.toList[j]? = some u := by
      rw [List.getElem?_take] at hu
      split at hu
      · exact hu
      · cases hu
    simpa using this
theorem own_shape {w : World} {B sz : Nat} {t : TypeId} {v : Value} {n : Nat} {xs : List Value} (h : w.ownsRow B t sz v n xs) : (v = .slice none 0 0 ∧ n = 0) ∨ ∃ g cap, v = .slice (some ⟨g, 0, none⟩) n cap ∧ B ≤ g ∧ g < w.heap.size := by
  rcases h.2 with ⟨hv, hn⟩ | ⟨g, cap, cur, hv, hb, hg, _⟩
  · exact .inl ⟨hv, hn⟩
  · exact .inr ⟨g, cap, hv, hb, heapLt hg⟩
theorem Trs.own {w : World} {B : Nat} {t : TypeId} {v : Value} {l : List Ix.M} (h : w.ownsRow B t 3 v l.length (flat3 l)) (hl : l.length ≤ 1000000000) : Trs w v l := by
  rcases own_shape h with ⟨hv, hn⟩ | ⟨g, cap, hv, hb, hg⟩
  · exact ⟨none, 0, by rw [hv, hn], by omega, fun hp => by omega⟩
  · subst hv
    refine ⟨some ⟨g, 0, none⟩, cap, rfl, by omega, fun _ => ⟨g, 0, rfl, hg, fun i hi => ?_⟩⟩
    obtain ⟨h0, h1, h2⟩ := flat3_at l i hi
    rw [Nat.zero_add]
    exact ⟨own_cell h _ _ h0, own_cell h _ _ h1, own_cell h _ _ h2⟩

/-- A package, and the rows of its files and needs. -/
abbrev El := Ix.Pg × Value × Value
def flat4 (l : List El) : List Value := l.flatMap fun e => [.int .i64 e.1.1, .int .i64 e.1.2.1, e.2.1, e.2.2]
theorem flat4_snoc (l : List El) (e : El) : flat4 (l ++ [e]) = flat4 l ++ [.int .i64 e.1.1, .int .i64 e.1.2.1, e.2.1, e.2.2] := by unfold flat4; rw [List.flatMap_append]; rfl
theorem flat4_at : ∀ (l : List El) (i : Nat) (e : El), l[i]? = some e → (flat4 l)[i * 4]? = some (.int .i64 e.1.1) ∧ (flat4 l)[i * 4 + 1]? = some (.int .i64 e.1.2.1) ∧ (flat4 l)[i * 4 + 2]? = some e.2.1 ∧ (flat4 l)[i * 4 + 3]? = some e.2.2
  | [], i, e, h => by simp at h
  | x :: l, 0, e, h => by
    injection h with h
    subst h
    exact ⟨rfl, rfl, rfl, rfl⟩
  | x :: l, i + 1, e, h => by
    have := flat4_at l i e (by simpa using h)
    have e0 : flat4 (x :: l) = .int .i64 x.1.1 :: .int .i64 x.1.2.1 :: x.2.1 :: x.2.2 :: flat4 l := rfl
    have e1 : (i + 1) * 4 = i * 4 + 1 + 1 + 1 + 1 := by omega
    rw [e0, e1]
    exact ⟨this.1, this.2.1, this.2.2.1, this.2.2.2⟩
/-- A row of packages of one's own. -/
structure POwn (N : Nat → Prop) (B : Nat) (w : World) (v : Value) (l : List El) : Prop where
  own : w.ownsRow B 67 4 v l.length (flat4 l)
  el : ∀ e ∈ l, PrsN N w e.2.1 e.1.2.2.1 ∧ PrsN N w e.2.2 e.1.2.2.2
theorem POwn.pks {N : Nat → Prop} {B : Nat} {w : World} {v : Value} {l : List El} (h : POwn N B w v l) (hN : ∀ b, B ≤ b → N b) (hl : l.length ≤ 1000000) : Pks N w v (l.map (·.1)) := by
  have hlen : (l.map (·.1)).length = l.length := List.length_map _
  rcases own_shape h.own with ⟨hv, hn⟩ | ⟨g, cap, hv, hb, hg⟩
  · exact ⟨none, 0, by rw [hlen, hv, hn], by omega, fun hp => by omega⟩
  · subst hv
    refine ⟨some ⟨g, 0, none⟩, cap, by rw [hlen], by omega, fun _ => ⟨g, 0, rfl, hg, hN g hb, fun i hi => ?_⟩⟩
    rw [hlen] at hi
    have he : l[i]? = some l[i] := List.getElem?_eq_getElem hi
    obtain ⟨h0, h1, h2, h3⟩ := flat4_at l i _ he
    have hp : Ix.pg (l.map (·.1)) i = l[i].1 := by
      unfold Ix.pg
      rw [List.getD_eq_getElem?_getD, List.getElem?_map, he]
      rfl
    obtain ⟨p1, p2⟩ := h.el l[i] (List.getElem_mem hi)
    refine ⟨l[i].2.1, l[i].2.2, ?_, by rw [hp]; exact p1, by rw [hp]; exact p2⟩
    rw [hp, Nat.zero_add]
    exact ⟨own_cell h.own _ _ h0, own_cell h.own _ _ h1, own_cell h.own _ _ h2, own_cell h.own _ _ h3⟩
/-- A box of three is written. -/
theorem fin3 {W w w' : World} {R : Nat} {a b c r0 r1 r2 : Value} {t : TypeId} (hR : w.heap[R]? = some (.cells #[r0, r1, r2] t (0, 0))) (lR : W.heap.size ≤ R) (hb : Below W.heap.size W w)
    (hw : w' = ((w.setCell ⟨R, 0, none⟩ a).setCell ⟨R, 1, none⟩ b).setCell ⟨R, 2, none⟩ c) : (w'.cell? ⟨R, 0, none⟩ = some a ∧ w'.cell? ⟨R, 1, none⟩ = some b ∧ w'.cell? ⟨R, 2, none⟩ = some c) ∧ Below W.heap.size W w' ∧ (∀ k, k ≠ R → w'.heap[k]? = w.heap[k]?) := by
  have far : ∀ k, k ≠ R → w'.heap[k]? = w.heap[k]? := fun k hk => by
    rw [hw, Below.heap_setCell _ _ _ _ hk, Below.heap_setCell _ _ _ _ hk, Below.heap_setCell _ _ _ _ hk]
  have h' : w'.heap[R]? = some (.cells #[a, b, c] t (0, 0)) := by rw [hw, heapSet (heapSet (heapSet hR))]; rfl
  exact ⟨⟨cellOf h' 0, cellOf h' 1, cellOf h' 2⟩, by rw [hw]; exact below_set (below_set (below_set hb lR) lR) lR, far⟩
theorem infoMeta : (Tryz.prog.info? 60).map (fun i => (i.zero, i.size, i.bytes)) = some (some (.agg #[.int .i64 0, .int .i64 0, .int .i64 0]), 3, 24) := by kernel_rfl
theorem infoPkg : (Tryz.prog.info? 67).map (fun i => (i.zero, i.size, i.bytes)) = some (some (.agg #[.int .i64 0, .int .i64 0, .slice none 0 0, .slice none 0 0]), 4, 64) := by kernel_rfl
end Go.Proofs.YtlnieobmhofkdaaGreat
