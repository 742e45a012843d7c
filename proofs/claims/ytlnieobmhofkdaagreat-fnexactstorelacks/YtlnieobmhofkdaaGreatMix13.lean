import Derived.Test.YtlnieobmhofkdaaGreatMix6
import Derived.Test.YtlnieobmhofkdaaGreatMathW
import Derived.Test.YtlnieobmhofkdaaGreatMix1
import Derived.Test.YtlnieobmhofkdaaGreatMix0
import Derived.Test.YtlnieobmhofkdaaGreatMix5
import Derived.Deep.DrawnRows
/- What laws.luInts, luRoot, luMetas, luIndex and luTrust return of the same data: true. -/
namespace Go.Proofs.YtlnieobmhofkdaaGreat
open Go.RowKit

/-- Trust as a value. -/
abbrev tvT (t : Tr.T) (kv mv : Value) : Value := tv t.n t.d kv t.has t.num t.til mv

end Go.Proofs.YtlnieobmhofkdaaGreat

/- Boxes of seven: read, written. -/
namespace Go.Proofs.YtlnieobmhofkdaaGreat
open Go.RowKit

theorem box7 {w : World} {X : Nat} {a b c d e f g : Value} {t : TypeId} (h : w.heap[X]? = some (.cells #[a, b, c, d, e, f, g] t (0, 0))) : w.cell? ⟨X, 0, none⟩ = some a ∧ w.cell? ⟨X, 1, none⟩ = some b ∧ w.cell? ⟨X, 2, none⟩ = some c ∧ w.cell? ⟨X, 3, none⟩ = some d ∧ w.cell? ⟨X, 4, none⟩ = some e ∧ w.cell? ⟨X, 5, none⟩ = some f ∧ w.cell? ⟨X, 6, none⟩ = some g :=
  ⟨cellOf h 0, cellOf h 1, cellOf h 2, cellOf h 3, cellOf h 4, cellOf h 5, cellOf h 6⟩
theorem frz7 {w : World} {X : Nat} {c : Array Value} {t : TypeId} (h : w.heap[X]? = some (.cells c t (0, 0))) : w.frozen? ⟨X, 0, none⟩ = false ∧ w.frozen? ⟨X, 1, none⟩ = false ∧ w.frozen? ⟨X, 2, none⟩ = false ∧ w.frozen? ⟨X, 3, none⟩ = false ∧ w.frozen? ⟨X, 4, none⟩ = false ∧ w.frozen? ⟨X, 5, none⟩ = false ∧ w.frozen? ⟨X, 6, none⟩ = false :=
  ⟨frozenOf h 0, frozenOf h 1, frozenOf h 2, frozenOf h 3, frozenOf h 4, frozenOf h 5, frozenOf h 6⟩
/-- A box of seven is written. -/
theorem fin7 {w w' : World} {R : Nat} {a b c d e f g a0 b0 c0 d0 e0 f0 g0 : Value} {t : TypeId} (hR : w.heap[R]? = some (.cells #[a0, b0, c0, d0, e0, f0, g0] t (0, 0)))
    (hw : w' = ((((((w.setCell ⟨R, 0, none⟩ a).setCell ⟨R, 1, none⟩ b).setCell ⟨R, 2, none⟩ c).setCell ⟨R, 3, none⟩ d).setCell ⟨R, 4, none⟩ e).setCell ⟨R, 5, none⟩ f).setCell ⟨R, 6, none⟩ g) :
    w'.heap[R]? = some (.cells #[a, b, c, d, e, f, g] t (0, 0)) ∧ (∀ k, k ≠ R → w'.heap[k]? = w.heap[k]?) ∧ w'.heap.size = w.heap.size ∧ w'.os = w.os ∧ w'.tape = w.tape ∧ w'.output = w.output := by
  refine ⟨by rw [hw, heapSet (heapSet (heapSet (heapSet (heapSet (heapSet (heapSet hR))))))]; rfl, fun k hk => ?_, by rw [hw]; simp [World.setCell], by rw [hw]; simp [World.setCell], by rw [hw]; simp [World.setCell], by rw [hw]; simp [World.setCell]⟩
  rw [hw, Below.heap_setCell _ _ _ _ hk, Below.heap_setCell _ _ _ _ hk, Below.heap_setCell _ _ _ _ hk, Below.heap_setCell _ _ _ _ hk, Below.heap_setCell _ _ _ _ hk, Below.heap_setCell _ _ _ _ hk, Below.heap_setCell _ _ _ _ hk]
theorem below_far {B : Nat} {w0 w w' : World} {R : Nat} (h : Below B w0 w) (hR : B ≤ R) (hf : ∀ k, k ≠ R → w'.heap[k]? = w.heap[k]?) (hs : w'.heap.size = w.heap.size) (ho : w'.os = w.os) (ht : w'.tape = w.tape) (hp : w'.output = w.output) : Below B w0 w' :=
  ⟨ho.trans h.os, ht.trans h.tape, hp.trans h.output, by rw [hs]; exact h.size, fun k hk => (hf k (by omega)).trans (h.block k hk)⟩
end Go.Proofs.YtlnieobmhofkdaaGreat

/- What impl.copyTrust, spec.l11Copy, and both TrustNew return: trust in rows of one's own; for every trust and root. -/
namespace Go.Proofs.YtlnieobmhofkdaaGreat
open Go.RowKit

attribute [local go_sem ↓] Go.wp_at_zero Go.wp_at_succ

/-- Trust is laid into the answer's box. -/
theorem finT {W w w' : World} {R : Nat} {n d num til : Int} {has : Bool} {kv mv a0 b0 c0 d0 e0 f0 g0 : Value} {ks : List Int} {ms : List Ix.M} (hR : w.heap[R]? = some (.cells #[a0, b0, c0, d0, e0, f0, g0] 39 (0, 0))) (lR : W.heap.size ≤ R) (hb : Below W.heap.size W w) (hk : OwI W.heap.size w kv ks) (hm : OwM W.heap.size w mv ms)
    (hw : w' = ((((((w.setCell ⟨R, 0, none⟩ (.int .i64 n)).setCell ⟨R, 1, none⟩ kv).setCell ⟨R, 2, none⟩ (.int .i64 d)).setCell ⟨R, 3, none⟩ (.bool has)).setCell ⟨R, 4, none⟩ (.int .i64 num)).setCell ⟨R, 5, none⟩ (.int .i64 til)).setCell ⟨R, 6, none⟩ mv) :
    (w'.cell? ⟨R, 0, none⟩ = some (.int .i64 n) ∧ w'.cell? ⟨R, 1, none⟩ = some kv ∧ w'.cell? ⟨R, 2, none⟩ = some (.int .i64 d) ∧ w'.cell? ⟨R, 3, none⟩ = some (.bool has) ∧ w'.cell? ⟨R, 4, none⟩ = some (.int .i64 num) ∧ w'.cell? ⟨R, 5, none⟩ = some (.int .i64 til) ∧ w'.cell? ⟨R, 6, none⟩ = some mv) ∧ OwI W.heap.size w' kv ks ∧ OwM W.heap.size w' mv ms ∧ Below W.heap.size W w' ∧ (∀ k, k ≠ R → w'.heap[k]? = w.heap[k]?) := by
  obtain ⟨h1, hf, hs, ho, ht, hp⟩ := fin7 hR hw
  exact ⟨box7 h1, own_keepS hk (fun g _ e _ _ => hf g (fun e2 => own_ne hk hR (by decide) (by rw [e, e2]))), own_keepS hm (fun g _ e _ _ => hf g (fun e2 => own_ne hm hR (by decide) (by rw [e, e2]))), below_far hb lR hf hs ho ht hp, hf⟩
/-- What is answered: trust in rows of one's own, and whether. -/
def Ans (W : World) (r : Tr.T × Bool) (e : Ending) (w' : World) : Prop := ∃ kv mv, e = .returned (.tuple #[tvT r.1 kv mv, .bool r.2]) ∧ OwI W.heap.size w' kv r.1.ks ∧ OwM W.heap.size w' mv r.1.ms ∧ Below W.heap.size W w'
/-- The boxes at the beginning: what came in, the answer's. -/
theorem two_boxesT (w : World) (o1 o2 : Obj) : Below w.heap.size w ((w.alloc o1).alloc o2) ∧ ((w.alloc o1).alloc o2).heap[w.heap.size]? = some o1 ∧ ((w.alloc o1).alloc o2).heap[w.heap.size + 1]? = some o2 := by
  have h1 := below1 w o1
  have h2 := below1 (w.alloc o1) o2
  have e1 := heap_alloc_new w o1
  have e2 := heap_alloc_new (w.alloc o1) o2
  rw [sz1'] at e2
  exact ⟨h1.trans (h2.mono h1.size), (h2.block _ (heapLt e1)).trans e1, e2⟩
theorem three_boxesT (w : World) (o1 o2 o3 : Obj) : Below w.heap.size w (((w.alloc o1).alloc o2).alloc o3) ∧ (((w.alloc o1).alloc o2).alloc o3).heap[w.heap.size]? = some o1 ∧ (((w.alloc o1).alloc o2).alloc o3).heap[w.heap.size + 1]? = some o2 ∧ (((w.alloc o1).alloc o2).alloc o3).heap[w.heap.size + 1 + 1]? = some o3 := by
  obtain ⟨h1, e1, e2⟩ := two_boxesT w o1 o2
  have h3 := below1 ((w.alloc o1).alloc o2) o3
  have e3 := heap_alloc_new ((w.alloc o1).alloc o2) o3
  rw [sz1', sz1'] at e3
  exact ⟨h1.trans (h3.mono h1.size), (h3.block _ (heapLt e1)).trans e1, (h3.block _ (heapLt e2)).trans e2, e3⟩

end Go.Proofs.YtlnieobmhofkdaaGreat
