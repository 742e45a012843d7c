/- What the laws' markRoot, heldRoot, markIndex, heldIndex, markTrust and heldTrust do: marks are laid into the rows, and nowhere else; they are read again. -/
import Derived.Test.YtnoghnkhfgiloaaDoorMarkTW
namespace Go.Proofs.YtnoghnkhfgiloaaDoor
open Go.RowKit

/-- All that was there stays but blocks among N. -/
structure Fr (N : Nat → Prop) (w w' : World) : Prop where
  os : w'.os = w.os
  tape : w'.tape = w.tape
  output : w'.output = w.output
  size : w.heap.size ≤ w'.heap.size
  block : ∀ k, k < w.heap.size → ¬ N k → w'.heap[k]? = w.heap[k]?
theorem Fr.trans {N M : Nat → Prop} {w w1 w2 : World} (h : Fr N w w1) (h2 : Fr M w1 w2) : Fr (fun k => N k ∨ M k) w w2 :=
  ⟨h2.os.trans h.os, h2.tape.trans h.tape, h2.output.trans h.output, Nat.le_trans h.size h2.size, fun k hk hn => (h2.block k (Nat.lt_of_lt_of_le hk h.size) (fun hm => hn (.inr hm))).trans (h.block k hk (fun hm => hn (.inl hm)))⟩
theorem Fr.of_below {N : Nat → Prop} {w w' : World} (h : Below w.heap.size w w') : Fr N w w' := ⟨h.os, h.tape, h.output, h.size, fun k hk _ => h.block k hk⟩
theorem Fr.of_grown {w w' : World} {r : Option Nat} (h : w.grownBy w' r) : Fr (fun k => r = some k) w w' := ⟨h.os, h.tape, h.output, h.size, fun k hk hn => h.block k hk (fun e => hn e.symm)⟩
theorem Fr.weak {N M : Nat → Prop} {w w' : World} (h : Fr N w w') (hm : ∀ k, N k → M k) : Fr M w w' := ⟨h.os, h.tape, h.output, h.size, fun k hk hn => h.block k hk (fun hx => hn (hm k hx))⟩
theorem Fr.below {N : Nat → Prop} {B : Nat} {w w' : World} (h : Fr N w w') (hB : B ≤ w.heap.size) (hN : ∀ k, N k → B ≤ k) : Below B w w' :=
  ⟨h.os, h.tape, h.output, h.size, fun k hk => h.block k (by omega) (fun hn => by have := hN k hn; omega)⟩
theorem Fr.own {N : Nat → Prop} {w w' : World} {B sz n : Nat} {t : TypeId} {v : Value} {xs : List Value} (h : Fr N w w') (ho : w.ownsRow B t sz v n xs) (hN : ∀ k, v.ownBlock = some k → ¬ N k) : w'.ownsRow B t sz v n xs :=
  own_keepS ho (fun g _ e _ hg => h.block g (heapLt hg) (hN g e))

set_option maxHeartbeats 1000000 in
set_option maxRecDepth 100000 in
theorem markIndex_any (w : World) (n d : Int) (v : Value) (l : List Ix.M) (B : Nat) (k : Int) (h : OwM B w v l) (hl : l.length ≤ 1048576) (k0 : 0 ≤ k) (k1 : k ≤ 1000000000) :
    Calls Tryd.prog 17 #[.agg #[.int .i64 n, .int .i64 d, v], .int .i64 k] w fun e w' => e = .returned (.int .i64 (k + 3 * l.length)) ∧ OwM B w' v (marksM k l.length) ∧ Fr (fun j => v.ownBlock = some j) w w' := by
  obtain ⟨a, cap, rfl⟩ := own_formS h
  have H := hide (own_later h (below1 w (.cells #[.int .i64 n, .int .i64 d, .slice a l.length cap] 25)))
  have HB := hide (below1 w (.cells #[.int .i64 n, .int .i64 d, .slice a l.length cap] 25))
  clear h
  go_enter Tryd.func17, Tryd.ntmps17
  go_wp2_with fail
  refine (markMetaS_any _ _ l B k (unhide H) hl k0 k1).mono ?_
  rintro e w1 ⟨rfl, h1, h2⟩
  have H1 := hide (And.intro h1 (((Fr.of_below (N := fun j => (Value.slice a l.length cap).ownBlock = some j) (unhide HB)).trans (Fr.of_grown h2)).weak (fun k hk => hk.elim id id)))
  clear h1 h2 H HB
  go_wp2
  go_ret
  exact ⟨rfl, (unhide H1).1, (unhide H1).2⟩
set_option maxHeartbeats 1000000 in
set_option maxRecDepth 100000 in
theorem heldIndex_any (w : World) (x d : Int) (v : Value) (n : Nat) (B : Nat) (k : Int) (h : OwM B w v (marksM k n)) (hl : n ≤ 1048576) (k0 : 0 ≤ k) (k1 : k ≤ 1000000000) :
    Calls Tryd.prog 18 #[.agg #[.int .i64 x, .int .i64 d, v], .int .i64 k] w fun e w' => e = .returned (.int .i64 (k + 3 * n)) ∧ Below w.heap.size w w' := by
  obtain ⟨a, cap, hv⟩ := own_formS h
  rw [marksM_len] at hv
  subst hv
  have H := hide (own_later h (below1 w (.cells #[.int .i64 x, .int .i64 d, .slice a n cap] 25)))
  have HB := hide (below1 w (.cells #[.int .i64 x, .int .i64 d, .slice a n cap] 25))
  have hk : ¬ k + 3 * (n : Int) < 0 := by omega
  clear h
  go_enter Tryd.func18, Tryd.ntmps18
  go_wp2_with fail
  refine (heldMetaS_any _ _ n B k (unhide H) hl k0 k1).mono ?_
  rintro e w1 ⟨rfl, rfl⟩
  go_wp2
  go_ret
  exact ⟨rfl, unhide HB⟩

/-- A row of numbers and a row of metas are not one. -/
theorem own_two {w : World} {B C : Nat} {v u : Value} {l : List Int} {m : List Ix.M} (h : OwI B w v l) (h2 : OwM C w u m) : ∀ k, v.ownBlock = some k → ¬ u.ownBlock = some k := by
  intro k hv hu
  obtain ⟨_, c, hc⟩ := own_row h k hv
  obtain ⟨_, c2, hc2⟩ := own_row h2 k hu
  rw [hc] at hc2
  injection hc2 with hc2
  injection hc2 with _ hc2 _
  revert hc2
  decide
end Go.Proofs.YtnoghnkhfgiloaaDoor
