/- Two rows of numbers that grow beside each other. -/
import Derived.Test.YtneaceieaafjdaaKeyDrawW
namespace Go.Proofs.Ytneaceieaafjdaa
open Go.RowKit

theorem own_lt {B : Nat} {w : World} {v : Value} {l : List Int} (h : OwnI B w v l) {g : Nat} (hg : v.ownBlock = some g) : B ≤ g ∧ g < w.heap.size := by
  rcases h.2 with ⟨rfl, _⟩ | ⟨g', cap', cur, rfl, hb, hgg, _⟩
  · cases hg
  · simp only [Value.ownBlock, Option.some.injEq] at hg
    subst hg
    exact ⟨hb, heapLt hgg⟩

/-- Two rows of numbers that grow, from a base on. -/
structure Gr (W w : World) (v u : Value) (l m : List Int) : Prop where
  ov : OwnI W.heap.size w v l
  ou : OwnI W.heap.size w u m
  ne : ∀ g, v.ownBlock = some g → u.ownBlock ≠ some g
  be : Below W.heap.size W w

theorem Gr.later {W w w' : World} {v u : Value} {l m : List Int} (h : Gr W w v u l m) (hb : Below w.heap.size w w') : Gr W w' v u l m :=
  ⟨h.ov.later hb, h.ou.later hb, h.ne, h.be.trans (hb.mono h.be.size)⟩
theorem Gr.start (W : World) : Gr W ((W.alloc (.cells #[] 3)).alloc (.cells #[] 3)) (.slice (some ⟨W.heap.size, 0, none⟩) 0 0) (.slice (some ⟨W.heap.size + 1, 0, none⟩) 0 0) [] [] := by
  have b1 : Below W.heap.size W (W.alloc (.cells #[] 3)) := (Below.refl _ _).alloc (Nat.le_refl _) _
  have o1 := OwnI.empty W
  generalize hW : W.alloc (.cells #[] 3) = W1 at *
  have hz : W1.heap.size = W.heap.size + 1 := by rw [← hW]; simp
  have b2 : Below W1.heap.size W1 (W1.alloc (.cells #[] 3)) := (Below.refl _ _).alloc (Nat.le_refl _) _
  have o2 := OwnI.empty W1
  rw [← hz]
  exact ⟨o1.later b2, o2.mono b1.size, fun g hg h => by simp only [Value.ownBlock, Option.some.injEq] at hg h; omega, b1.trans (b2.mono b1.size)⟩
theorem Gr.appv {W w w' : World} {v v' u : Value} {l m : List Int} {x : Int} (h : Gr W w v u l m) (hg : w.grownBy w' v.ownBlock) (ho : w'.ownsRow W.heap.size 3 1 v' (l.length + 1) (l.map (Value.int .i64) ++ [.int .i64 x])) (hloc : v'.ownBlock = v.ownBlock ∨ v'.ownBlock = some w.heap.size) : Gr W w' v' u (l ++ [x]) m := by
  refine ⟨?_, h.ou.keep (fun g _ hu _ hgg => hg.block g (heapLt hgg) (fun e => h.ne g e.symm hu)), ?_, h.be.grown hg h.be.size (fun j hj => (own_lt h.ov hj).1)⟩
  · unfold OwnI
    rw [List.length_append, List.map_append]
    exact ho
  · intro g hv hu
    rcases hloc with e | e
    · exact h.ne g (e ▸ hv) hu
    · rw [e] at hv
      injection hv with hv
      have := (own_lt h.ou hu).2
      omega
theorem Gr.appu {W w w' : World} {v u u' : Value} {l m : List Int} {x : Int} (h : Gr W w v u l m) (hg : w.grownBy w' u.ownBlock) (ho : w'.ownsRow W.heap.size 3 1 u' (m.length + 1) (m.map (Value.int .i64) ++ [.int .i64 x])) (hloc : u'.ownBlock = u.ownBlock ∨ u'.ownBlock = some w.heap.size) : Gr W w' v u' l (m ++ [x]) := by
  refine ⟨h.ov.keep (fun g _ hv _ hgg => hg.block g (heapLt hgg) (fun e => h.ne g hv e.symm)), ?_, ?_, h.be.grown hg h.be.size (fun j hj => (own_lt h.ou hj).1)⟩
  · unfold OwnI
    rw [List.length_append, List.map_append]
    exact ho
  · intro g hv hu
    rcases hloc with e | e
    · exact h.ne g hv (e ▸ hu)
    · rw [e] at hu
      injection hu with hu
      have := (own_lt h.ov hv).2
      omega
end Go.Proofs.Ytneaceieaafjdaa
