/- What the laws' markRoot, heldRoot, markIndex, heldIndex, markTrust and heldTrust do: marks are laid into the rows, and nowhere else; they are read again. -/
import Derived.Test.YtlnieobmhofkdaaGreatMarkTW
namespace Go.Proofs.YtlnieobmhofkdaaGreat
open Go.RowKit

/-- All that was there stays but blocks among N. -/
structure Fr (N : Nat → Prop) (w w' : World) : Prop where
  os : w'.os = w.os
  tape : w'.tape = w.tape
  output : w'.output = w.output
  size : w.heap.size ≤ w'.heap.size
  block : ∀ k, k < w.heap.size → ¬ N k → w'.heap[k]? = w.heap[k]?
theorem Fr.trans {N M : Nat → Prop} {w w1 w2 : World} (h : Fr N w w1) (h2 : Fr M w1 w2) : Fr (fun k => N k ∨ M k) w w2 :=
  ⟨h2.os.trans h.os, h2.tape.trans h.tape, h2.output.trans h.output, Nat.le_trans h.size h2.size, fun k hk hn => (h2.block k (Nat.lt_of_lt_of_le hk h.size) (fun hm => hn (.inr hm))).trans (h.block k hk (fun hm => hn (.inl hm)))⟩
theorem Fr.of_below {N : Nat → Prop} {w w' : World} (h : Below w.heap.size w w') : Fr N w w' := ⟨h.os, h.tape, h.output, h.size, fun k hk _ => h.block k hk⟩
theorem Fr.of_grown {w w' : World} {r : Option Nat} (h : w.grownBy w' r) : Fr (fun k => r = some k) w w' := ⟨h.os, h.tape, h.output, h.size, fun k hk hn => h.block k hk (fun e => hn e.symm)⟩
theorem Fr.weak {N M : Nat → Prop} {w w' : World} (h : Fr N w w') (hm : ∀ k, N k → M k) : Fr M w w' := ⟨h.os, h.tape, h.output, h.size, fun k hk hn => h.block k hk (fun hx => hn (hm k hx))⟩
theorem Fr.below {N : Nat → Prop} {B : Nat} {w w' : World} (h : Fr N w w') (hB : B ≤ w.heap.size) (hN : ∀ k, N k → B ≤ k) : Below B w w' :=
  ⟨h.os, h.tape, h.output, h.size, fun k hk => h.block k (by omega) (fun hn => by have := hN k hn; omega)⟩
theorem Fr.own {N : Nat → Prop} {w w' : World} {B sz n : Nat} {t : TypeId} {v : Value} {xs : List Value} (h : Fr N w w') (ho : w.ownsRow B t sz v n xs) (hN : ∀ k, v.ownBlock = some k → ¬ N k) : w'.ownsRow B t sz v n xs :=
  own_keepS ho (fun g _ e _ hg => h.block g (heapLt hg) (hN g e))

set_option maxHeartbeats 1000000 in
set_option maxRecDepth 100000 in
theorem markRoot_any (w : World) (n d : Int) (v : Value) (l : List Int) (B : Nat) (k : Int) (h : OwI B w v l) (hl : l.length ≤ 1048576) (k0 : 0 ≤ k) (k1 : k ≤ 1000000000) :
    Calls Tryz.prog 37 #[.agg #[.int .i64 n, v, .int .i64 d], .int .i64 k] w fun e w' => e = .returned (.int .i64 (k + l.length)) ∧ OwI B w' v (marksI k l.length) ∧ Fr (fun j => v.ownBlock = some j) w w' := by
  obtain ⟨a, cap, rfl⟩ := own_formS h
  have H := hide (own_later h (below1 w (.cells #[.int .i64 n, .slice a l.length cap, .int .i64 d] 35)))
  have HB := hide (below1 w (.cells #[.int .i64 n, .slice a l.length cap, .int .i64 d] 35))
  clear h
  go_enter Tryz.func37, Tryz.ntmps37
  go_wp2_with fail
  refine (markIntS_any _ _ l B k (unhide H) hl k0 k1).mono ?_
  rintro e w1 ⟨rfl, h1, h2⟩
  have H1 := hide (And.intro h1 (((Fr.of_below (N := fun j => (Value.slice a l.length cap).ownBlock = some j) (unhide HB)).trans (Fr.of_grown h2)).weak (fun k hk => hk.elim id id)))
  clear h1 h2 H HB
  go_wp2
  go_ret
  exact ⟨rfl, (unhide H1).1, (unhide H1).2⟩
set_option maxHeartbeats 1000000 in
set_option maxRecDepth 100000 in
theorem markIndex_any (w : World) (n d : Int) (v : Value) (l : List Ix.M) (B : Nat) (k : Int) (h : OwM B w v l) (hl : l.length ≤ 1048576) (k0 : 0 ≤ k) (k1 : k ≤ 1000000000) :
    Calls Tryz.prog 38 #[.agg #[.int .i64 n, .int .i64 d, v], .int .i64 k] w fun e w' => e = .returned (.int .i64 (k + 3 * l.length)) ∧ OwM B w' v (marksM k l.length) ∧ Fr (fun j => v.ownBlock = some j) w w' := by
  obtain ⟨a, cap, rfl⟩ := own_formS h
  have H := hide (own_later h (below1 w (.cells #[.int .i64 n, .int .i64 d, .slice a l.length cap] 37)))
  have HB := hide (below1 w (.cells #[.int .i64 n, .int .i64 d, .slice a l.length cap] 37))
  clear h
  go_enter Tryz.func38, Tryz.ntmps38
  go_wp2_with fail
  refine (markMetaS_any _ _ l B k (unhide H) hl k0 k1).mono ?_
  rintro e w1 ⟨rfl, h1, h2⟩
  have H1 := hide (And.intro h1 (((Fr.of_below (N := fun j => (Value.slice a l.length cap).ownBlock = some j) (unhide HB)).trans (Fr.of_grown h2)).weak (fun k hk => hk.elim id id)))
  clear h1 h2 H HB
  go_wp2
  go_ret
  exact ⟨rfl, (unhide H1).1, (unhide H1).2⟩
/-- A row of numbers and a row of metas are not one. -/
theorem own_two {w : World} {B C : Nat} {v u : Value} {l : List Int} {m : List Ix.M} (h : OwI B w v l) (h2 : OwM C w u m) : ∀ k, v.ownBlock = some k → ¬ u.ownBlock = some k := by
  intro k hv hu
  obtain ⟨_, c, hc⟩ := own_row h k hv
  obtain ⟨_, c2, hc2⟩ := own_row h2 k hu
  rw [hc] at hc2
  injection hc2 with hc2
  injection hc2 with _ hc2 _
  revert hc2
  decide
set_option maxHeartbeats 2000000 in
set_option maxRecDepth 100000 in
theorem markTrust_any (w : World) (t : Tr.T) (kv mv : Value) (B : Nat) (k : Int) (h : OwI B w kv t.ks) (hm : OwM B w mv t.ms) (hl : t.ks.length ≤ 1048576) (hlm : t.ms.length ≤ 1048576) (k0 : 0 ≤ k) (k1 : k ≤ 100000000) :
    Calls Tryz.prog 13 #[tvT t kv mv, .int .i64 k] w fun e w' => e = .returned (.int .i64 (k + t.ks.length + 3 * t.ms.length)) ∧ OwI B w' kv (marksI k t.ks.length) ∧ OwM B w' mv (marksM (k + t.ks.length) t.ms.length) ∧ Fr (fun j => kv.ownBlock = some j ∨ mv.ownBlock = some j) w w' := by
  obtain ⟨n, ks, d, has, num, til, ms⟩ := t
  dsimp only [tvT, tv] at *
  obtain ⟨a, cap, rfl⟩ := own_formS h
  obtain ⟨a2, cap2, rfl⟩ := own_formS hm
  have hb := below1 w (.cells #[.int .i64 n, .slice a ks.length cap, .int .i64 d, .bool has, .int .i64 num, .int .i64 til, .slice a2 ms.length cap2] 39)
  have H := hide (And.intro (own_later h hb) (own_later hm hb))
  have HB := hide hb
  have hx := heap_alloc_new w (.cells #[.int .i64 n, .slice a ks.length cap, .int .i64 d, .bool has, .int .i64 num, .int .i64 til, .slice a2 ms.length cap2] 39)
  have HX := hide hx
  have hneI : ∀ k, (Value.slice a ks.length cap).ownBlock = some k → ¬ w.heap.size = k := fun k hk e => by
    have := (own_row h k hk).2
    obtain ⟨c, hc⟩ := this
    have := heapLt hc
    omega
  have HNE := hide hneI
  clear h hm hb hx hneI
  go_enter Tryz.func13, Tryz.ntmps13
  go_wp2_with fail
  refine (markRoot_any _ n d _ ks B k (unhide H).1 hl k0 (by omega)).mono ?_
  generalize World.alloc _ _ = W1 at *
  rintro e w2 ⟨rfl, h1, h2⟩
  have M2 := hide (h2.own (unhide H).2 (fun k hk hn => own_two (unhide H).1 (unhide H).2 k hn hk))
  have hx2 := (h2.block _ (heapLt (unhide HX)) (fun hn => unhide HNE _ hn rfl)).trans (unhide HX)
  obtain ⟨x0, x1, x2, x3, x4, x5, x6⟩ := box7 hx2
  have F2 := hide ((Fr.of_below (N := fun _ => False) (unhide HB)).trans h2)
  have O2 := hide h1
  clear h1 h2 hx2 H HB HX HNE
  go_wp2_with fail
  refine (markIndex_any _ num til _ ms B (k + ks.length) (unhide M2) hlm (by omega) (by omega)).mono ?_
  rintro e w3 ⟨rfl, h1, h2⟩
  have O3 := hide (h2.own (unhide O2) (fun k hk hn => own_two (unhide O2) (unhide M2) k hk hn))
  have F3 := hide (((unhide F2).trans h2).weak (M := fun j => (Value.slice a ks.length cap).ownBlock = some j ∨ (Value.slice a2 ms.length cap2).ownBlock = some j) (fun k hk => hk.elim (fun h => h.elim False.elim .inl) .inr))
  have M3 := hide h1
  clear h1 h2 x0 x1 x2 x3 x4 x5 x6
  go_wp2
  go_ret
  exact ⟨rfl, unhide O3, unhide M3, unhide F3⟩
end Go.Proofs.YtlnieobmhofkdaaGreat
