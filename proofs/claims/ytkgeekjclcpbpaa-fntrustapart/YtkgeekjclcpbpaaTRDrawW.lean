/- What spec's DrawTrustRoot returns: trust and a signed root that can be read. -/
import Derived.Test.YtkgeekjclcpbpaaFreshDrawW
import Derived.Test.YtkgeekjclcpbpaaNextDrawW
import Derived.Test.YtkgeekjclcpbpaaLastW
namespace Go.Proofs.Ytkgeekjclcpbpaa
open Go.RowKit

attribute [local go_sem ↓] Go.wp_at_zero Go.wp_at_succ

/-- Trust and a root that a call drew. -/
structure TdR (B : Nat) (W : World) (blk : Nat) (w : World) (p X : Nat) (n d : Int) (kv : Value) (ks : List Int) (has : Bool) (num til : Int) (mv : Value) (ms : List Ix.M) (Z : Nat) (n2 d2 : Int) (v2 : Value) (k2 : List Int) : Prop where
  td : Td B W blk w p X n d kv ks has num til mv ms
  hZ : w.heap[Z]? = some (.cells #[.int .i64 n2, v2, .int .i64 d2] 25 (0, 0))
  lZ : W.heap.size ≤ Z
  ne : Z ≠ X
  keys : w.ownsRow W.heap.size 3 1 v2 k2.length (k2.map (Value.int .i64))
section
variable {B : Nat} {W w w' : World} {blk p p' X Z : Nat} {n d num til n2 d2 : Int} {kv mv v2 : Value} {ks k2 : List Int} {has : Bool} {ms : List Ix.M}
theorem TdR.keep (h : TdR B W blk w p X n d kv ks has num til mv ms Z n2 d2 v2 k2) (hk : Kp w.heap.size blk w w') (hr : Rd B w' blk p') : TdR B W blk w' p' X n d kv ks has num til mv ms Z n2 d2 v2 k2 :=
  ⟨h.td.keep hk hr, h.td.dr.box hk h.lZ h.hZ, h.lZ, h.ne, h.td.dr.row hk h.keys⟩
theorem TdR.later (h : TdR B W blk w p X n d kv ks has num til mv ms Z n2 d2 v2 k2) (hb : Below w.heap.size w w') : TdR B W blk w' p X n d kv ks has num til mv ms Z n2 d2 v2 k2 := h.keep (Kp.of_below hb) (h.td.dr.later hb).rd
theorem TdR.setNum (h : TdR B W blk w p X n d kv ks has num til mv ms Z n2 d2 v2 k2) (a : Int) : TdR B W blk (w.setCell ⟨Z, 0, none⟩ (.int .i64 a)) p X n d kv ks has num til mv ms Z a d2 v2 k2 :=
  ⟨⟨h.td.dr.set h.lZ, box_set h.td.hX h.ne.symm, h.td.lX, own_set h.td.keys h.hZ (by decide), own_set h.td.own h.hZ (by decide)⟩, by rw [heapSet h.hZ]; rfl, h.lZ, h.ne, own_set h.keys h.hZ (by decide)⟩
end
theorem box3c {w : World} {X : Nat} {a b c : Value} {t : TypeId} (h : w.heap[X]? = some (.cells #[a, b, c] t (0, 0))) : w.cell? ⟨X, 0, none⟩ = some a ∧ w.cell? ⟨X, 1, none⟩ = some b ∧ w.cell? ⟨X, 2, none⟩ = some c := ⟨cellOf h 0, cellOf h 1, cellOf h 2⟩
theorem box4d {w : World} {X : Nat} {a b c d : Value} {t : TypeId} (h : w.heap[X]? = some (.cells #[a, b, c, d] t (0, 0))) : w.cell? ⟨X, 0, none⟩ = some a ∧ w.cell? ⟨X, 1, none⟩ = some b ∧ w.cell? ⟨X, 2, none⟩ = some c ∧ w.cell? ⟨X, 3, none⟩ = some d := ⟨cellOf h 0, cellOf h 1, cellOf h 2, cellOf h 3⟩
theorem fin4 {w w' : World} {R : Nat} {a b c d a0 b0 c0 d0 : Value} {t : TypeId} (hR : w.heap[R]? = some (.cells #[a0, b0, c0, d0] t (0, 0)))
    (hw : w' = (((w.setCell ⟨R, 0, none⟩ a).setCell ⟨R, 1, none⟩ b).setCell ⟨R, 2, none⟩ c).setCell ⟨R, 3, none⟩ d) :
    w'.heap[R]? = some (.cells #[a, b, c, d] t (0, 0)) ∧ (∀ k, k ≠ R → w'.heap[k]? = w.heap[k]?) ∧ w'.heap.size = w.heap.size ∧ w'.os = w.os ∧ w'.tape = w.tape ∧ w'.output = w.output := by
  refine ⟨by rw [hw, heapSet (heapSet (heapSet (heapSet hR)))]; rfl, fun k hk => ?_, by rw [hw]; simp [World.setCell], by rw [hw]; simp [World.setCell], by rw [hw]; simp [World.setCell], by rw [hw]; simp [World.setCell]⟩
  rw [hw, Below.heap_setCell _ _ _ _ hk, Below.heap_setCell _ _ _ _ hk, Below.heap_setCell _ _ _ _ hk, Below.heap_setCell _ _ _ _ hk]

end Go.Proofs.Ytkgeekjclcpbpaa
