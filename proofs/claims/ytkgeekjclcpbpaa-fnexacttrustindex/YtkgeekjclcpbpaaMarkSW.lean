/- What the laws' markSigRoot and markSigIndex do: marks are laid into the two rows, and nowhere else. -/
import Derived.Test.YtkgeekjclcpbpaaMarkRW
namespace Go.Proofs.Ytkgeekjclcpbpaa
open Go.RowKit

theorem box4f {w : World} {X : Nat} {a b c d : Value} {t : TypeId} (h : w.heap[X]? = some (.cells #[a, b, c, d] t (0, 0))) : w.cell? ⟨X, 0, none⟩ = some a ∧ w.cell? ⟨X, 1, none⟩ = some b ∧ w.cell? ⟨X, 2, none⟩ = some c ∧ w.cell? ⟨X, 3, none⟩ = some d := ⟨cellOf h 0, cellOf h 1, cellOf h 2, cellOf h 3⟩

set_option maxHeartbeats 2000000 in
set_option maxRecDepth 100000 in
theorem markSigRoot_any (w : World) (n d : Int) (v vb : Value) (l by' : List Int) (B : Nat) (k : Int) (h : OwI B w v l) (hb : OwI B w vb by') (hne : ∀ j, v.ownBlock = some j → ¬ vb.ownBlock = some j) (hl : l.length ≤ 1048576) (hlb : by'.length ≤ 1048576) (k0 : 0 ≤ k) (k1 : k ≤ 100000000) :
    Calls Try.prog 35 #[.agg #[.int .i64 n, v, .int .i64 d, vb], .int .i64 k] w fun e w' => e = .returned (.int .i64 (k + l.length + by'.length)) ∧ Fr (fun j => v.ownBlock = some j ∨ vb.ownBlock = some j) w w' := by
  obtain ⟨a, cap, rfl⟩ := own_formS h
  obtain ⟨a2, cap2, rfl⟩ := own_formS hb
  have hb0 := below1 w (.cells #[.int .i64 n, .slice a l.length cap, .int .i64 d, .slice a2 by'.length cap2] 46)
  have H := hide (And.intro (own_later h hb0) (own_later hb hb0))
  have HB := hide hb0
  have HX := hide (heap_alloc_new w (.cells #[.int .i64 n, .slice a l.length cap, .int .i64 d, .slice a2 by'.length cap2] 46))
  have hneI : ∀ k, (Value.slice a l.length cap).ownBlock = some k → ¬ w.heap.size = k := fun k hk e => by
    obtain ⟨c, hc⟩ := (own_row h k hk).2
    have := heapLt hc
    omega
  have HNE := hide (And.intro hneI hne)
  clear h hb hb0 hneI hne
  go_enter Try.func35, Try.ntmps35
  go_wp2_with fail
  refine (markRoot_any _ n d _ l B k (unhide H).1 hl k0 (by omega)).mono ?_
  generalize World.alloc _ _ = W1 at *
  rintro e w2 ⟨rfl, h1, h2⟩
  have M2 := hide (h2.own (unhide H).2 (fun k hk hn => (unhide HNE).2 k hn hk))
  have hx2 := (h2.block _ (heapLt (unhide HX)) (fun hn => (unhide HNE).1 _ hn rfl)).trans (unhide HX)
  obtain ⟨x0, x1, x2, x3⟩ := box4f hx2
  have F2 := hide ((Fr.of_below (N := fun _ => False) (unhide HB)).trans h2)
  clear h1 h2 hx2 H HB HX HNE
  go_wp2_with fail
  refine (markIntS_any _ _ by' B (k + l.length) (unhide M2) hlb (by omega) (by omega)).mono ?_
  rintro e w3 ⟨rfl, _, h2⟩
  have F3 := hide (((unhide F2).trans (Fr.of_grown h2)).weak (M := fun j => (Value.slice a l.length cap).ownBlock = some j ∨ (Value.slice a2 by'.length cap2).ownBlock = some j) (fun k hk => hk.elim (fun h => h.elim False.elim .inl) .inr))
  clear h2 x0 x1 x2 x3
  go_wp2
  go_ret
  exact ⟨rfl, unhide F3⟩
set_option maxHeartbeats 2000000 in
set_option maxRecDepth 100000 in
theorem markSigIndex_any (w : World) (n d : Int) (v vb : Value) (l : List Ix.M) (by' : List Int) (B : Nat) (k : Int) (h : OwM B w v l) (hb : OwI B w vb by') (hl : l.length ≤ 1048576) (hlb : by'.length ≤ 1048576) (k0 : 0 ≤ k) (k1 : k ≤ 100000000) :
    Calls Try.prog 39 #[.agg #[.int .i64 n, .int .i64 d, v, vb], .int .i64 k] w fun e w' => e = .returned (.int .i64 (k + 3 * l.length + by'.length)) ∧ Fr (fun j => v.ownBlock = some j ∨ vb.ownBlock = some j) w w' := by
  obtain ⟨a, cap, rfl⟩ := own_formS h
  obtain ⟨a2, cap2, rfl⟩ := own_formS hb
  have hb0 := below1 w (.cells #[.int .i64 n, .int .i64 d, .slice a l.length cap, .slice a2 by'.length cap2] 32)
  have H := hide (And.intro (own_later h hb0) (own_later hb hb0))
  have HB := hide hb0
  have HX := hide (heap_alloc_new w (.cells #[.int .i64 n, .int .i64 d, .slice a l.length cap, .slice a2 by'.length cap2] 32))
  have hneI : ∀ k, (Value.slice a l.length cap).ownBlock = some k → ¬ w.heap.size = k := fun k hk e => by
    obtain ⟨c, hc⟩ := (own_row h k hk).2
    have := heapLt hc
    omega
  have HNE := hide hneI
  clear h hb hb0 hneI
  go_enter Try.func39, Try.ntmps39
  go_wp2_with fail
  refine (markIndex_any _ n d _ l B k (unhide H).1 hl k0 (by omega)).mono ?_
  generalize World.alloc _ _ = W1 at *
  rintro e w2 ⟨rfl, h1, h2⟩
  have M2 := hide (h2.own (unhide H).2 (fun k hk hn => own_two (unhide H).2 (unhide H).1 k hk hn))
  have hx2 := (h2.block _ (heapLt (unhide HX)) (fun hn => unhide HNE _ hn rfl)).trans (unhide HX)
  obtain ⟨x0, x1, x2, x3⟩ := box4f hx2
  have F2 := hide ((Fr.of_below (N := fun _ => False) (unhide HB)).trans h2)
  clear h1 h2 hx2 H HB HX HNE
  go_wp2_with fail
  refine (markIntS_any _ _ by' B (k + 3 * l.length) (unhide M2) hlb (by omega) (by omega)).mono ?_
  rintro e w3 ⟨rfl, _, h2⟩
  have F3 := hide (((unhide F2).trans (Fr.of_grown h2)).weak (M := fun j => (Value.slice a l.length cap).ownBlock = some j ∨ (Value.slice a2 by'.length cap2).ownBlock = some j) (fun k hk => hk.elim (fun h => h.elim False.elim .inl) .inr))
  clear h2 x0 x1 x2 x3
  go_wp2
  go_ret
  exact ⟨rfl, unhide F3⟩
end Go.Proofs.Ytkgeekjclcpbpaa
