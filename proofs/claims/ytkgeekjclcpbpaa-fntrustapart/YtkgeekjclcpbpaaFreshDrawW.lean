/- What spec's DrawTrustFresh returns: trust that can be read, and a small number. -/
import Derived.Test.YtkgeekjclcpbpaaTrustDrawW
import Derived.Test.YtkgeekjclcpbpaaTrustOkW
import Derived.Test.YtkgeekjclcpbpaaSkipW
import Derived.Test.YtkgeekjclcpbpaaBox7W
import Derived.Deep.DrawnRows
namespace Go.Proofs.Ytkgeekjclcpbpaa
open Go.RowKit

attribute [local go_sem ↓] Go.wp_at_zero Go.wp_at_succ

theorem wrap_in' {v : Int} (h0 : -1000 ≤ v) (h1 : v ≤ 1000) : IntKind.i64.wrap v = v := by simp [IntKind.wrap, IntKind.bits, IntKind.signed]; omega
theorem quo_in' {v : Int} (h0 : 0 ≤ v) (h1 : v < 12) : ∃ q, IntKind.i64.wrap (v.tdiv 11) = q ∧ 0 ≤ q ∧ q ≤ 1 := by
  refine ⟨v.tdiv 11, wrap_in' ?_ ?_, ?_, ?_⟩ <;> rw [Int.tdiv_eq_ediv_of_nonneg h0] <;> omega
/-- Trust that a call drew: its box, its rows, the reader. -/
structure Td (B : Nat) (W : World) (blk : Nat) (w : World) (p X : Nat) (n d : Int) (kv : Value) (ks : List Int) (has : Bool) (num til : Int) (mv : Value) (ms : List Ix.M) : Prop where
  dr : Dr B W blk w p
  hX : w.heap[X]? = some (.cells #[.int .i64 n, kv, .int .i64 d, .bool has, .int .i64 num, .int .i64 til, mv] 30 (0, 0))
  lX : W.heap.size ≤ X
  keys : w.ownsRow W.heap.size 3 1 kv ks.length (ks.map (Value.int .i64))
  own : w.ownsRow W.heap.size 122 3 mv ms.length (flat3 ms)
section
variable {B : Nat} {W w w' : World} {blk p p' X R : Nat} {o : Obj} {n d num til : Int} {kv mv : Value} {ks : List Int} {has : Bool} {ms : List Ix.M}
theorem Td.keep (h : Td B W blk w p X n d kv ks has num til mv ms) (hk : Kp w.heap.size blk w w') (hr : Rd B w' blk p') : Td B W blk w' p' X n d kv ks has num til mv ms :=
  ⟨h.dr.keep hk hr, h.dr.box hk h.lX h.hX, h.lX, h.dr.row hk h.keys, h.dr.row hk h.own⟩
theorem Td.later (h : Td B W blk w p X n d kv ks has num til mv ms) (hb : Below w.heap.size w w') : Td B W blk w' p X n d kv ks has num til mv ms := h.keep (Kp.of_below hb) (h.dr.later hb).rd
theorem Td.box0 (h : Td B W blk w p X n d kv ks has num til mv ms) (hR : W.heap[R]? = some o) (hne : R ≠ blk) : w.heap[R]? = some o := (h.dr.kp.block R (heapLt hR) hne).trans hR
/-- The rows, read in a world where all but one elder block stay. -/
theorem Td.reads (h : Td B W blk w p X n d kv ks has num til mv ms) (hf : ∀ k, k ≠ R → w'.heap[k]? = w.heap[k]?) (hR : R < W.heap.size) (hk7 : ks.length ≤ 7) (hm9 : ms.length ≤ 9) : Ins w' kv ks ∧ Trs w' mv ms := by
  refine ⟨OwnI.ins (B := W.heap.size) (own_keepS h.keys (fun g _ _ hb _ => hf g (by omega))) (by omega), Trs.own (B := W.heap.size) (own_keepS h.own (fun g _ _ hb _ => hf g (by omega))) (by omega)⟩
theorem Td.below {w0 : World} (h : Td B W blk w p X n d kv ks has num til mv ms) (hb : Below w0.heap.size w0 W) (hblk : w0.heap.size ≤ blk) : Below w0.heap.size w0 w := hb.trans ((h.dr.kp.mono hb.size).below hblk)
end
end Go.Proofs.Ytkgeekjclcpbpaa
