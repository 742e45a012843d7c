import Derived.Test.YtkkkookgpphpiaaDoorAllW
import Derived.Test.YtkkkookgpphpiaaDoorMixF
/- What impl.copyOf, copyRoot, copyIndex and spec's l11RootCopy, l11IndexCopy return: the same, in a row of one's own; for every row. -/
namespace Go.Proofs.YtkkkookgpphpiaaDoor
open Go.RowKit

/-- A row of one's own: numbers; metas. -/
abbrev OwI (B : Nat) (w : World) (v : Value) (l : List Int) : Prop := w.ownsRow B 3 1 v l.length (l.map (Value.int .i64))
abbrev OwM (B : Nat) (w : World) (v : Value) (l : List Ix.M) : Prop := w.ownsRow B 87 3 v l.length (flat3 l)
theorem grown_none {w w' : World} {v : Value} (h : w.grownBy w' v.ownBlock) (hv : v.ownBlock = none) : Below w.heap.size w w' :=
  ⟨h.os, h.tape, h.output, h.size, fun k hk => h.block k hk (by rw [hv]; simp)⟩
theorem grown_new {W w w' : World} {v : Value} {g : Nat} (h : w.grownBy w' v.ownBlock) (hv : v.ownBlock = some g) (hb : Below W.heap.size W w) (hg : W.heap.size ≤ g) : Below W.heap.size W w' :=
  ⟨h.os.trans hb.os, h.tape.trans hb.tape, h.output.trans hb.output, Nat.le_trans hb.size h.size, fun k hk => (h.block k (by have := hb.size; omega) (by rw [hv]; simp; omega)).trans (hb.block k hk)⟩
theorem OwI.wide {B : Nat} {w : World} {v : Value} {l : List Int} (h : OwI B w v l) (hl : l.length ≤ 1048576) : Ins w v l := by
  rcases h.2 with ⟨hv, hn⟩ | ⟨g, cap, cur, hv, hb, hg, hc, hm, hs, ht⟩
  · exact ⟨none, 0, by rw [hv, hn], by omega, fun hp => by omega⟩
  · refine ⟨some ⟨g, 0, none⟩, cap, hv, by omega, fun _ => ⟨g, 0, rfl, heapLt hg, fun i hi => ?_⟩⟩
    rw [Nat.zero_add, cellOf hg]
    have hu : (l.map (Value.int .i64))[i]? = some (.int .i64 (Ky.nth l i)) := by rw [List.getElem?_map, List.getElem?_eq_getElem hi, Ky.nth_get l i hi]; rfl
    rw [← ht, List.getElem?_take] at hu
    split at hu
    · simpa using hu
    · cases hu
theorem empty_own {w : World} {g : Nat} {t : TypeId} {sz B : Nat} (h : w.heap[g]? = some (.cells #[] t (0, 0))) (hg : B ≤ g) : w.ownsRow B t sz (.slice (some ⟨g, 0, none⟩) 0 0) 0 [] :=
  ⟨by simp, .inr ⟨g, 0, #[], rfl, hg, h, Nat.le_refl _, by unfold maxLen; omega, by simp, by simp⟩⟩
theorem infoI' : (Tryd.prog.info? 3).map (fun i => (i.zero, i.size, i.bytes)) = some (some (.int .i64 0), 1, 8) := by kernel_rfl

theorem own_base' {w : World} {B B' sz n : Nat} {t : TypeId} {v : Value} {xs : List Value} (h : w.ownsRow B t sz v n xs) (hB : B' ≤ B) : w.ownsRow B' t sz v n xs := by
  refine ⟨h.1, ?_⟩
  rcases h.2 with hn | ⟨g, cap, cur, rfl, hb1, rest⟩
  · exact .inl hn
  · exact .inr ⟨g, cap, cur, rfl, Nat.le_trans hB hb1, rest⟩

end Go.Proofs.YtkkkookgpphpiaaDoor
