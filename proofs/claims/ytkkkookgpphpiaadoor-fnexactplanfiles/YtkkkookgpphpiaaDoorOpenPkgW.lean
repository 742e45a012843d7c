/- How a package that came in is read: its numbers, and its two rows of pairs. -/
import Derived.Test.YtkkkookgpphpiaaDoorPkgOkW
import Derived.Deep.SlicePairs
import Derived.Lib.SmallJoins
namespace Go.Proofs.YtkkkookgpphpiaaDoor
open Go.RowKit Go.Deep Go.Joins

theorem fst_map (n : Nat) (f g : Nat → Int) (i : Nat) (h : i < n) : Pk.fst ((List.range n).map fun i => (f i, g i)) i = f i ∧ Pk.snd ((List.range n).map fun i => (f i, g i)) i = g i := by
  unfold Pk.fst Pk.snd
  simp [List.getD, h]

theorem add_none (b off i : Nat) : (⟨b, off, none⟩ : Addr).add i = ⟨b, off + i, none⟩ := by unfold Addr.add; split <;> simp_all

/-- A row of pairs that came in. -/
theorem open_pairs {H : Type} {enc : TypeId × Value → H} {W : World} {base fuel : Nat} {spare : Nat → Bool} {held : Bool} {t e : TypeId} {f0 f1 : Field} {v : Value} {x : DataW H × List MemPlace} (ht : Tryd.prog.underlying t = some (.slice e)) (he : Tryd.prog.underlying e = some (.struct #[f0, f1]))
    (ce : Tryd.prog.cellsOf e = 2) (o0 : f0.offset = 0) (o1 : f1.offset = 1) (c0 : Tryd.prog.cellsOf f0.type = 1) (c1 : Tryd.prog.cellsOf f1.type = 1) (u0 : Tryd.prog.underlying f0.type = some (.int .i64)) (u1 : Tryd.prog.underlying f1.type = some (.int .i64))
    (h : DataW.trod enc Tryd.prog W base spare held fuel t [v] = some x) :
    ∃ a n c, v = .slice a n c ∧ n ≤ 9223372036854775807 ∧ (n ≤ 1048576 → ∃ l : List (Int × Int), l.length = n ∧ Prs W (.slice a n c) l) := by
  rcases open_slice_pairs ht he ce o0 o1 c0 c1 h with ⟨hv, _⟩ | ⟨a, len, cap, m, n, V0, V1, D0, D1, P0, P1, hv, _, hl, hm, hmm, _, hx⟩
  · injection hv with hv _
    exact ⟨none, 0, 0, hv, by omega, fun _ => ⟨[], rfl, none, 0, rfl, by simp, fun h => by simp at h⟩⟩
  · injection hv with hv _
    unfold maxLen at hm
    refine ⟨some a, len, cap, hv, by omega, fun hs => ?_⟩
    have hlm : len ≤ m := by rw [hmm]; split <;> omega
    have each : ∀ i, i < len → ∃ q : Int × Int, W.cell? (a.add (i * 2)) = some (.int .i64 q.1) ∧ W.cell? (a.add (i * 2 + 1)) = some (.int .i64 q.2) := by
      intro i hi
      obtain ⟨h1, h2, h3, h4⟩ := hx i (by omega)
      obtain ⟨z0, e0, _, _⟩ := DataW.trod_int u0 h3
      obtain ⟨z1, e1, _, _⟩ := DataW.trod_int u1 h4
      injection e0 with e0 _
      injection e1 with e1 _
      exact ⟨(z0, z1), by rw [h1, e0], by rw [h2, e1]⟩
    obtain ⟨q, hq⟩ := choose_lt each
    refine ⟨(List.range len).map fun i => ((q i).1, (q i).2), by simp, some a, cap, by simp, by simp; omega, fun hp => ?_⟩
    have hp' : 0 < len := by simpa using hp
    obtain ⟨b, off, spot⟩ := a
    have h0 := (hq 0 hp').1
    have hspot : spot = none := by simpa [Addr.add] using World.cell?_spot h0
    subst hspot
    refine ⟨b, off, rfl, ?_, fun i hi => ?_⟩
    · rcases Nat.lt_or_ge b W.heap.size with h1 | h1
      · exact h1
      · rw [add_none, World.cell?, Array.getElem?_eq_none h1] at h0; cases h0
    · have hi' : i < len := by simpa using hi
      obtain ⟨g0, g1⟩ := hq i hi'
      obtain ⟨m0, m1⟩ := fst_map len (fun i => (q i).1) (fun i => (q i).2) i hi'
      rw [m0, m1]
      rw [add_none] at g0 g1
      exact ⟨g0, by rw [Nat.add_assoc]; exact g1⟩
end Go.Proofs.YtkkkookgpphpiaaDoor
