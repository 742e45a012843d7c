/- What spec's DrawKeysBoth, DrawKeysOk, DrawRootOk and DrawRootSigned return: small rows and roots in memory of their own; nothing old is written. -/
import Derived.Test.YtkgeekjclcpbpaaRootDrawW
import Derived.Test.YtkgeekjclcpbpaaOpenW
namespace Go.Proofs.Ytkgeekjclcpbpaa
open Go.RowKit

variable {B : Nat} {W w w' : World} {blk : Nat} {v : Value} {l : List Int} {p p' : Nat}

/-- Behind a reader that is new nothing old is written. -/
theorem KSt.below {W0 : World} (h : KSt B W0 W.heap.size w v l p) (hb : Below W.heap.size W W0) : Below W.heap.size W w := hb.trans ((h.kp.mono hb.size).below (Nat.le_refl _))
/-- A slice that reaches no further than its room. -/
def Cap (v : Value) (l : List Int) : Prop := ∃ a c, v = .slice a l.length c ∧ l.length ≤ c ∧ c ≤ 9223372036854775807
theorem OwnI.cap {B : Nat} {w : World} {v : Value} {l : List Int} (h : OwnI B w v l) : Cap v l := by
  rcases h.2 with ⟨hv, hn⟩ | ⟨g, cap, cur, hv, hb, hg, hc, hm, _⟩
  · exact ⟨none, 0, by rw [hv, hn], by omega, by omega⟩
  · unfold maxLen at hm
    exact ⟨_, cap, hv, by omega, by omega⟩
theorem KSt.ins (h : KSt B W blk w v l p) (hl : l.length ≤ 8) : Ins w v l := h.own.ins (by omega)

/-- A row stays over three stores into a box that is older. -/
theorem KSt.set3 (h : KSt B W blk w v l p) {R : Nat} (hR : R < W.heap.size) (a b c : Value) : OwnI W.heap.size (((w.setCell ⟨R, 0, none⟩ a).setCell ⟨R, 1, none⟩ b).setCell ⟨R, 2, none⟩ c) v l :=
  h.own.keep (fun g _ _ hg _ => by rw [Below.heap_setCell _ _ _ _ (by show g ≠ R; omega), Below.heap_setCell _ _ _ _ (by show g ≠ R; omega), Below.heap_setCell _ _ _ _ (by show g ≠ R; omega)])
theorem below_set3 {n : Nat} (h : Below n W w) {R : Nat} (hR : n ≤ R) (a b c : Value) : Below n W (((w.setCell ⟨R, 0, none⟩ a).setCell ⟨R, 1, none⟩ b).setCell ⟨R, 2, none⟩ c) :=
  ((h.setCell (by exact hR) _).setCell (by exact hR) _).setCell (by exact hR) _

end Go.Proofs.Ytkgeekjclcpbpaa
