import Derived.Test.YtnoghnkhfgiloaaDoorMixI
import Derived.Test.YtnoghnkhfgiloaaDoorMixF
import Derived.Deep.DrawnRows
import Derived.Test.YtnoghnkhfgiloaaDoorMathW
import Derived.Test.YtnoghnkhfgiloaaDoorIndexOkW
import Derived.Test.YtnoghnkhfgiloaaDoorImplIndexOkW
/- What spec's and impl's RootOk, RootSigned and RootNext return: whether a root is ok, whether enough of its keys signed, whether a root may come behind another one; for every root and row of numbers; nothing old is written. -/
namespace Go.Proofs.YtnoghnkhfgiloaaDoor
open Go.RowKit

attribute [local go_sem ↓] Go.wp_at_zero Go.wp_at_succ

/-- What a box of three holds, in its own world. -/
theorem box3 (w : World) (a b c : Value) (t : TypeId) : (w.alloc (.cells #[a, b, c] t)).heap.size = w.heap.size + 1 ∧ (w.alloc (.cells #[a, b, c] t)).cell? ⟨w.heap.size, 0, none⟩ = some a ∧ (w.alloc (.cells #[a, b, c] t)).cell? ⟨w.heap.size, 1, none⟩ = some b ∧ (w.alloc (.cells #[a, b, c] t)).cell? ⟨w.heap.size, 2, none⟩ = some c :=
  ⟨by simp, by rw [World.cell?_alloc_new]; rfl, by rw [World.cell?_alloc_new]; rfl, by rw [World.cell?_alloc_new]; rfl⟩
theorem box4i (w : World) (a b c d : Value) (t : TypeId) : (w.alloc (.cells #[a, b, c, d] t)).heap.size = w.heap.size + 1 ∧ (w.alloc (.cells #[a, b, c, d] t)).cell? ⟨w.heap.size, 0, none⟩ = some a ∧ (w.alloc (.cells #[a, b, c, d] t)).cell? ⟨w.heap.size, 1, none⟩ = some b ∧ (w.alloc (.cells #[a, b, c, d] t)).cell? ⟨w.heap.size, 2, none⟩ = some c ∧ (w.alloc (.cells #[a, b, c, d] t)).cell? ⟨w.heap.size, 3, none⟩ = some d :=
  ⟨by simp, by rw [World.cell?_alloc_new]; rfl, by rw [World.cell?_alloc_new]; rfl, by rw [World.cell?_alloc_new]; rfl, by rw [World.cell?_alloc_new]; rfl⟩

/-- A root in a box, and its keys. -/
structure Bx (w : World) (g : Nat) (n d : Int) (v : Value) (k : List Int) : Prop where
  lt : g < w.heap.size
  c0 : w.cell? ⟨g, 0, none⟩ = some (.int .i64 n)
  c1 : w.cell? ⟨g, 1, none⟩ = some v
  c2 : w.cell? ⟨g, 2, none⟩ = some (.int .i64 d)
  ins : Ins w v k
theorem Bx.later {w w' : World} {g : Nat} {n d : Int} {v : Value} {k : List Int} (h : Bx w g n d v k) (hb : Below w.heap.size w w') : Bx w' g n d v k :=
  ⟨Nat.lt_of_lt_of_le h.lt hb.size, (hb.cell h.lt).trans h.c0, (hb.cell h.lt).trans h.c1, (hb.cell h.lt).trans h.c2, h.ins.later hb⟩
theorem Bx.new {w : World} {n d : Int} {v : Value} {k : List Int} (h : Ins w v k) (t : TypeId) : Bx (w.alloc (.cells #[.int .i64 n, v, .int .i64 d] t)) w.heap.size n d v k := by
  obtain ⟨z, x0, x1, x2⟩ := box3 w (.int .i64 n) v (.int .i64 d) t
  exact ⟨by omega, x0, x1, x2, h.later (below1 _ _)⟩

theorem Bx.cells {w : World} {g : Nat} {n d : Int} {v : Value} {k : List Int} (h : Bx w g n d v k) : w.cell? ⟨g, 0, none⟩ = some (.int .i64 n) ∧ w.cell? ⟨g, 1, none⟩ = some v ∧ w.cell? ⟨g, 2, none⟩ = some (.int .i64 d) := ⟨h.c0, h.c1, h.c2⟩
theorem Bx.drew {w : World} {g : Nat} {n d : Int} {v : Value} {k : List Int} (h : Bx w g n d v k) : Bx w.drew g n d v k := ⟨h.lt, h.c0, h.c1, h.c2, h.ins⟩

theorem rootOk_keys {n d : Int} {k : List Int} (h : Ky.rootOk n k d = true) : Ky.keysOk k = true := by unfold Ky.rootOk at h; rw [Bool.and_eq_true, Bool.and_eq_true] at h; exact h.1.2

end Go.Proofs.YtnoghnkhfgiloaaDoor

/- What spec's and impl's TrustOk and TrustFresh return; for every trust; nothing old is written. -/
namespace Go.Proofs.YtnoghnkhfgiloaaDoor
open Go.RowKit

/-- Trust as a value. -/
abbrev tv (n d : Int) (kv : Value) (has : Bool) (num til : Int) (mv : Value) : Value := .agg #[.int .i64 n, kv, .int .i64 d, .bool has, .int .i64 num, .int .i64 til, mv]
/-- Trust in a box, and its rows. -/
structure Tb (w : World) (g : Nat) (n d : Int) (kv : Value) (ks : List Int) (has : Bool) (num til : Int) (mv : Value) (ms : List Ix.M) : Prop where
  lt : g < w.heap.size
  c0 : w.cell? ⟨g, 0, none⟩ = some (.int .i64 n)
  c1 : w.cell? ⟨g, 1, none⟩ = some kv
  c2 : w.cell? ⟨g, 2, none⟩ = some (.int .i64 d)
  c3 : w.cell? ⟨g, 3, none⟩ = some (.bool has)
  c4 : w.cell? ⟨g, 4, none⟩ = some (.int .i64 num)
  c5 : w.cell? ⟨g, 5, none⟩ = some (.int .i64 til)
  c6 : w.cell? ⟨g, 6, none⟩ = some mv
  ins : Ins w kv ks
  trs : Trs w mv ms
section
variable {w w' : World} {g : Nat} {n d num til : Int} {kv mv : Value} {ks : List Int} {has : Bool} {ms : List Ix.M}
theorem Tb.later (h : Tb w g n d kv ks has num til mv ms) (hb : Below w.heap.size w w') : Tb w' g n d kv ks has num til mv ms :=
  ⟨Nat.lt_of_lt_of_le h.lt hb.size, (hb.cell h.lt).trans h.c0, (hb.cell h.lt).trans h.c1, (hb.cell h.lt).trans h.c2, (hb.cell h.lt).trans h.c3, (hb.cell h.lt).trans h.c4, (hb.cell h.lt).trans h.c5, (hb.cell h.lt).trans h.c6, h.ins.later hb, h.trs.later hb⟩
theorem Tb.new (hk : Ins w kv ks) (hm : Trs w mv ms) (t : TypeId) : Tb (w.alloc (.cells #[.int .i64 n, kv, .int .i64 d, .bool has, .int .i64 num, .int .i64 til, mv] t)) w.heap.size n d kv ks has num til mv ms := by
  have e : ∀ i, (w.alloc (.cells #[.int .i64 n, kv, .int .i64 d, .bool has, .int .i64 num, .int .i64 til, mv] t)).cell? ⟨w.heap.size, i, none⟩ = (#[Value.int .i64 n, kv, .int .i64 d, .bool has, .int .i64 num, .int .i64 til, mv])[i]? := fun i => by rw [World.cell?_alloc_new]
  exact ⟨by rw [sz1']; omega, e 0, e 1, e 2, e 3, e 4, e 5, e 6, hk.later (below1 _ _), hm.later (below1 _ _)⟩
theorem Tb.cells (h : Tb w g n d kv ks has num til mv ms) : w.cell? ⟨g, 0, none⟩ = some (.int .i64 n) ∧ w.cell? ⟨g, 1, none⟩ = some kv ∧ w.cell? ⟨g, 2, none⟩ = some (.int .i64 d) ∧ w.cell? ⟨g, 3, none⟩ = some (.bool has) ∧ w.cell? ⟨g, 4, none⟩ = some (.int .i64 num) ∧ w.cell? ⟨g, 5, none⟩ = some (.int .i64 til) ∧ w.cell? ⟨g, 6, none⟩ = some mv := ⟨h.c0, h.c1, h.c2, h.c3, h.c4, h.c5, h.c6⟩
end
theorem len0 (l : List Ix.M) : ((l.length : Int) == 0) = decide (l = []) := by
  cases l with
  | nil => rfl
  | cons x l => rw [decide_eq_false (by simp)]; simp; omega

end Go.Proofs.YtnoghnkhfgiloaaDoor
