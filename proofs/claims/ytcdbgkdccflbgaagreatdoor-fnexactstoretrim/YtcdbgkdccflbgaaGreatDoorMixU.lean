import Derived.Test.YtcdbgkdccflbgaaGreatDoorMarkTW
import Derived.Test.YtcdbgkdccflbgaaGreatDoorMetasW
import Derived.Deep.SlicePairs
import Derived.Lib.SmallJoins
import Derived.ProofKit
/- What the laws' markRoot, heldRoot, markIndex, heldIndex, markTrust and heldTrust do: marks are laid into the rows, and nowhere else; they are read again. -/
namespace Go.Proofs.YtcdbgkdccflbgaaGreatDoor
open Go.RowKit

/-- All that was there stays but blocks among N. -/
structure Fr (N : Nat → Prop) (w w' : World) : Prop where
  os : w'.os = w.os
  tape : w'.tape = w.tape
  output : w'.output = w.output
  size : w.heap.size ≤ w'.heap.size
  block : ∀ k, k < w.heap.size → ¬ N k → w'.heap[k]? = w.heap[k]?
theorem Fr.trans {N M : Nat → Prop} {w w1 w2 : World} (h : Fr N w w1) (h2 : Fr M w1 w2) : Fr (fun k => N k ∨ M k) w w2 :=
  ⟨h2.os.trans h.os, h2.tape.trans h.tape, h2.output.trans h.output, Nat.le_trans h.size h2.size, fun k hk hn => (h2.block k (Nat.lt_of_lt_of_le hk h.size) (fun hm => hn (.inr hm))).trans (h.block k hk (fun hm => hn (.inl hm)))⟩
theorem Fr.of_below {N : Nat → Prop} {w w' : World} (h : Below w.heap.size w w') : Fr N w w' := ⟨h.os, h.tape, h.output, h.size, fun k hk _ => h.block k hk⟩
theorem Fr.of_grown {w w' : World} {r : Option Nat} (h : w.grownBy w' r) : Fr (fun k => r = some k) w w' := ⟨h.os, h.tape, h.output, h.size, fun k hk hn => h.block k hk (fun e => hn e.symm)⟩
theorem Fr.weak {N M : Nat → Prop} {w w' : World} (h : Fr N w w') (hm : ∀ k, N k → M k) : Fr M w w' := ⟨h.os, h.tape, h.output, h.size, fun k hk hn => h.block k hk (fun hx => hn (hm k hx))⟩
theorem Fr.below {N : Nat → Prop} {B : Nat} {w w' : World} (h : Fr N w w') (hB : B ≤ w.heap.size) (hN : ∀ k, N k → B ≤ k) : Below B w w' :=
  ⟨h.os, h.tape, h.output, h.size, fun k hk => h.block k (by omega) (fun hn => by have := hN k hn; omega)⟩
theorem Fr.own {N : Nat → Prop} {w w' : World} {B sz n : Nat} {t : TypeId} {v : Value} {xs : List Value} (h : Fr N w w') (ho : w.ownsRow B t sz v n xs) (hN : ∀ k, v.ownBlock = some k → ¬ N k) : w'.ownsRow B t sz v n xs :=
  own_keepS ho (fun g _ e _ hg => h.block g (heapLt hg) (hN g e))

set_option maxHeartbeats 1000000 in
set_option maxRecDepth 100000 in
theorem markRoot_any (w : World) (n d : Int) (v : Value) (l : List Int) (B : Nat) (k : Int) (h : OwI B w v l) (hl : l.length ≤ 1048576) (k0 : 0 ≤ k) (k1 : k ≤ 1000000000) :
    Calls Tryz.prog 80 #[.agg #[.int .i64 n, v, .int .i64 d], .int .i64 k] w fun e w' => e = .returned (.int .i64 (k + l.length)) ∧ OwI B w' v (marksI k l.length) ∧ Fr (fun j => v.ownBlock = some j) w w' := by
  obtain ⟨a, cap, rfl⟩ := own_formS h
  have H := hide (own_later h (below1 w (.cells #[.int .i64 n, .slice a l.length cap, .int .i64 d] 25)))
  have HB := hide (below1 w (.cells #[.int .i64 n, .slice a l.length cap, .int .i64 d] 25))
  clear h
  go_enter Tryz.func80, Tryz.ntmps80
  go_wp2_with fail
  refine (markIntS_any _ _ l B k (unhide H) hl k0 k1).mono ?_
  rintro e w1 ⟨rfl, h1, h2⟩
  have H1 := hide (And.intro h1 (((Fr.of_below (N := fun j => (Value.slice a l.length cap).ownBlock = some j) (unhide HB)).trans (Fr.of_grown h2)).weak (fun k hk => hk.elim id id)))
  clear h1 h2 H HB
  go_wp2
  go_ret
  exact ⟨rfl, (unhide H1).1, (unhide H1).2⟩
set_option maxHeartbeats 1000000 in
set_option maxRecDepth 100000 in
theorem markIndex_any (w : World) (n d : Int) (v : Value) (l : List Ix.M) (B : Nat) (k : Int) (h : OwM B w v l) (hl : l.length ≤ 1048576) (k0 : 0 ≤ k) (k1 : k ≤ 1000000000) :
    Calls Tryz.prog 81 #[.agg #[.int .i64 n, .int .i64 d, v], .int .i64 k] w fun e w' => e = .returned (.int .i64 (k + 3 * l.length)) ∧ OwM B w' v (marksM k l.length) ∧ Fr (fun j => v.ownBlock = some j) w w' := by
  obtain ⟨a, cap, rfl⟩ := own_formS h
  have H := hide (own_later h (below1 w (.cells #[.int .i64 n, .int .i64 d, .slice a l.length cap] 28)))
  have HB := hide (below1 w (.cells #[.int .i64 n, .int .i64 d, .slice a l.length cap] 28))
  clear h
  go_enter Tryz.func81, Tryz.ntmps81
  go_wp2_with fail
  refine (markMetaS_any _ _ l B k (unhide H) hl k0 k1).mono ?_
  rintro e w1 ⟨rfl, h1, h2⟩
  have H1 := hide (And.intro h1 (((Fr.of_below (N := fun j => (Value.slice a l.length cap).ownBlock = some j) (unhide HB)).trans (Fr.of_grown h2)).weak (fun k hk => hk.elim id id)))
  clear h1 h2 H HB
  go_wp2
  go_ret
  exact ⟨rfl, (unhide H1).1, (unhide H1).2⟩
/-- A row of numbers and a row of metas are not one. -/
theorem own_two {w : World} {B C : Nat} {v u : Value} {l : List Int} {m : List Ix.M} (h : OwI B w v l) (h2 : OwM C w u m) : ∀ k, v.ownBlock = some k → ¬ u.ownBlock = some k := by
  intro k hv hu
  obtain ⟨_, c, hc⟩ := own_row h k hv
  obtain ⟨_, c2, hc2⟩ := own_row h2 k hu
  rw [hc] at hc2
  injection hc2 with hc2
  injection hc2 with _ hc2 _
  revert hc2
  decide
set_option maxHeartbeats 2000000 in
set_option maxRecDepth 100000 in
theorem markTrust_any (w : World) (t : Tr.T) (kv mv : Value) (B : Nat) (k : Int) (h : OwI B w kv t.ks) (hm : OwM B w mv t.ms) (hl : t.ks.length ≤ 1048576) (hlm : t.ms.length ≤ 1048576) (k0 : 0 ≤ k) (k1 : k ≤ 100000000) :
    Calls Tryz.prog 36 #[tvT t kv mv, .int .i64 k] w fun e w' => e = .returned (.int .i64 (k + t.ks.length + 3 * t.ms.length)) ∧ OwI B w' kv (marksI k t.ks.length) ∧ OwM B w' mv (marksM (k + t.ks.length) t.ms.length) ∧ Fr (fun j => kv.ownBlock = some j ∨ mv.ownBlock = some j) w w' := by
  obtain ⟨n, ks, d, has, num, til, ms⟩ := t
  dsimp only [tvT, tv] at *
  obtain ⟨a, cap, rfl⟩ := own_formS h
  obtain ⟨a2, cap2, rfl⟩ := own_formS hm
  have hb := below1 w (.cells #[.int .i64 n, .slice a ks.length cap, .int .i64 d, .bool has, .int .i64 num, .int .i64 til, .slice a2 ms.length cap2] 30)
  have H := hide (And.intro (own_later h hb) (own_later hm hb))
  have HB := hide hb
  have hx := heap_alloc_new w (.cells #[.int .i64 n, .slice a ks.length cap, .int .i64 d, .bool has, .int .i64 num, .int .i64 til, .slice a2 ms.length cap2] 30)
  have HX := hide hx
  have hneI : ∀ k, (Value.slice a ks.length cap).ownBlock = some k → ¬ w.heap.size = k := fun k hk e => by
    have := (own_row h k hk).2
    obtain ⟨c, hc⟩ := this
    have := heapLt hc
    omega
  have HNE := hide hneI
  clear h hm hb hx hneI
  go_enter Tryz.func36, Tryz.ntmps36
  go_wp2_with fail
  refine (markRoot_any _ n d _ ks B k (unhide H).1 hl k0 (by omega)).mono ?_
  generalize World.alloc _ _ = W1 at *
  rintro e w2 ⟨rfl, h1, h2⟩
  have M2 := hide (h2.own (unhide H).2 (fun k hk hn => own_two (unhide H).1 (unhide H).2 k hn hk))
  have hx2 := (h2.block _ (heapLt (unhide HX)) (fun hn => unhide HNE _ hn rfl)).trans (unhide HX)
  obtain ⟨x0, x1, x2, x3, x4, x5, x6⟩ := box7 hx2
  have F2 := hide ((Fr.of_below (N := fun _ => False) (unhide HB)).trans h2)
  have O2 := hide h1
  clear h1 h2 hx2 H HB HX HNE
  go_wp2_with fail
  refine (markIndex_any _ num til _ ms B (k + ks.length) (unhide M2) hlm (by omega) (by omega)).mono ?_
  rintro e w3 ⟨rfl, h1, h2⟩
  have O3 := hide (h2.own (unhide O2) (fun k hk hn => own_two (unhide O2) (unhide M2) k hk hn))
  have F3 := hide (((unhide F2).trans h2).weak (M := fun j => (Value.slice a ks.length cap).ownBlock = some j ∨ (Value.slice a2 ms.length cap2).ownBlock = some j) (fun k hk => hk.elim (fun h => h.elim False.elim .inl) .inr))
  have M3 := hide h1
  clear h1 h2 x0 x1 x2 x3 x4 x5 x6
  go_wp2
  go_ret
  exact ⟨rfl, unhide O3, unhide M3, unhide F3⟩
end Go.Proofs.YtcdbgkdccflbgaaGreatDoor

/- How an index that came in is read: its numbers, and its row of metas. -/
namespace Go.Proofs.YtcdbgkdccflbgaaGreatDoor
open Go.RowKit Go.Deep Go.Joins Go.WideShapes

theorem ix_map (n : Nat) (f g h : Nat → Int) (i : Nat) (hi : i < n) : Ix.nm ((List.range n).map fun i => (f i, g i, h i)) i = f i ∧ Ix.vr ((List.range n).map fun i => (f i, g i, h i)) i = g i ∧ Ix.sm ((List.range n).map fun i => (f i, g i, h i)) i = h i := by
  unfold Ix.nm Ix.vr Ix.sm
  simp [List.getD, hi]
theorem add_none3 (b off i : Nat) : (⟨b, off, none⟩ : Addr).add i = ⟨b, off + i, none⟩ := by unfold Addr.add; split <;> simp_all

/-- What is known of a row of metas that came in. -/
def MetasIn (W : World) (a : Option Addr) (n c : Nat) : Prop := n ≤ 9223372036854775807 ∧ (n ≤ 1048576 → ∃ l : List Ix.M, l.length = n ∧ Trs W (.slice a n c) l)

set_option maxRecDepth 100000 in
theorem open_metas {H : Type} {enc : TypeId × Value → H} {W : World} {base fuel : Nat} {spare : Nat → Bool} {held : Bool} {v : Value} {x : DataW H × List MemPlace} (h : DataW.trod enc Tryz.prog W base spare held fuel 60 [v] = some x) :
    ∃ a n c, v = .slice a n c ∧ MetasIn W a n c := by
  rcases open_slice Tryz.underlying60 h with ⟨hv, _⟩ | ⟨a, len, cap, m, n, D, Pl, hv, _, hl, hm, hmm, _, hx⟩
  · injection hv with hv _
    exact ⟨none, 0, 0, hv, by omega, fun _ => ⟨[], rfl, none, 0, rfl, by simp, fun h => by simp at h⟩⟩
  · injection hv with hv _
    unfold maxLen at hm
    refine ⟨some a, len, cap, hv, by omega, fun hs => ?_⟩
    have hlm : len ≤ m := by rw [hmm]; split <;> omega
    have each : ∀ i, i < len → ∃ q : Int × Int × Int, W.cell? (a.add (i * 3)) = some (.int .i64 q.1) ∧ W.cell? (a.add (i * 3 + 1)) = some (.int .i64 q.2.1) ∧ W.cell? (a.add (i * 3 + 2)) = some (.int .i64 q.2.2) := by
      intro i hi
      obtain ⟨cs', h1, h2⟩ := hx i (by omega)
      rw [show Tryz.prog.cellsOf 194 = 3 by kernel_rfl] at h1
      obtain ⟨_, hlen, hcell⟩ := World.cells?_some h1
      match cs', hlen with
      | [v0, v1, v2], _ =>
        obtain ⟨y0, y1, y2, k, _, _, g0, g1, g2⟩ := trod_struct3 Tryz.underlying194 h2
        have g0' : DataW.trod enc Tryz.prog W base spare held k 3 [v0] = some y0 := g0
        have g1' : DataW.trod enc Tryz.prog W base spare held k 3 [v1] = some y1 := g1
        have g2' : DataW.trod enc Tryz.prog W base spare held k 3 [v2] = some y2 := g2
        obtain ⟨z0, e0, _, _⟩ := DataW.trod_int Tryz.underlying3 g0'
        obtain ⟨z1, e1, _, _⟩ := DataW.trod_int Tryz.underlying3 g1'
        obtain ⟨z2, e2, _, _⟩ := DataW.trod_int Tryz.underlying3 g2'
        injection e0 with e0 _
        injection e1 with e1 _
        injection e2 with e2 _
        have f0 := hcell 0 (by omega)
        have f1 := hcell 1 (by omega)
        have f2 := hcell 2 (by omega)
        rw [add_add] at f0 f1 f2
        subst e0 e1 e2
        exact ⟨(z0, z1, z2), by simpa using f0, by simpa using f1, by simpa using f2⟩
    obtain ⟨q, hq⟩ := choose_lt each
    refine ⟨(List.range len).map fun i => ((q i).1, (q i).2.1, (q i).2.2), by simp, some a, cap, by simp, by simp; omega, fun hp => ?_⟩
    have hp' : 0 < len := by simpa using hp
    obtain ⟨b, off, spot⟩ := a
    have h0 := (hq 0 hp').1
    have hspot : spot = none := by simpa [Addr.add] using World.cell?_spot h0
    subst hspot
    refine ⟨b, off, rfl, ?_, fun i hi => ?_⟩
    · rcases Nat.lt_or_ge b W.heap.size with h1 | h1
      · exact h1
      · rw [add_none3, World.cell?, Array.getElem?_eq_none h1] at h0; cases h0
    · have hi' : i < len := by simpa using hi
      obtain ⟨g0, g1, g2⟩ := hq i hi'
      obtain ⟨m0, m1, m2⟩ := ix_map len (fun i => (q i).1) (fun i => (q i).2.1) (fun i => (q i).2.2) i hi'
      rw [m0, m1, m2]
      rw [add_none3] at g0 g1 g2
      exact ⟨g0, by rw [Nat.add_assoc]; exact g1, by rw [Nat.add_assoc]; exact g2⟩

set_option maxRecDepth 100000 in
theorem open_index {H : Type} {enc : TypeId × Value → H} {W : World} {base b0 : Nat} {r : Reach} {spare : Nat → Bool} {held : Bool} {v : Value} {d : DataW H} {p : List MemPlace} (hv : Value.okWide Tryz.prog W r b0 62 v)
    (h : DataW.Trod enc Tryz.prog W base spare held 62 v d p) : ∃ x y a n c, v = .agg #[.int .i64 x, .int .i64 y, .slice a n c] ∧ MetasIn W a n c := by
  obtain ⟨c0, c1, c2, y0, y1, y2, m, rfl, _, _, g0, g1, g2⟩ := open_agg3 Tryz.underlying62 (by kernel_rfl) (by kernel_rfl) hv h
  obtain ⟨x, e0, _, _⟩ := DataW.trod_int Tryz.underlying3 g0
  obtain ⟨y, e1, _, _⟩ := DataW.trod_int Tryz.underlying3 g1
  injection e0 with e0 _
  injection e1 with e1 _
  obtain ⟨a, n, c, e2, hR⟩ := open_metas g2
  exact ⟨x, y, a, n, c, by rw [e0, e1, e2], hR⟩
end Go.Proofs.YtcdbgkdccflbgaaGreatDoor
