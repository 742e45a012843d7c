import Derived.Test.YtlnieobmhofkdaaGreatMetasW
import Derived.Deep.SlicePairs
import Derived.Lib.SmallJoins
import Derived.ProofKit
import Derived.Test.YtlnieobmhofkdaaGreatKeyW
import Derived.ChangeSlices
/- How an index that came in is read: its numbers, and its row of metas. -/
namespace Go.Proofs.YtlnieobmhofkdaaGreat
open Go.RowKit Go.Deep Go.Joins Go.WideShapes

theorem ix_map (n : Nat) (f g h : Nat → Int) (i : Nat) (hi : i < n) : Ix.nm ((List.range n).map fun i => (f i, g i, h i)) i = f i ∧ Ix.vr ((List.range n).map fun i => (f i, g i, h i)) i = g i ∧ Ix.sm ((List.range n).map fun i => (f i, g i, h i)) i = h i := by
  unfold Ix.nm Ix.vr Ix.sm
  simp [List.getD, hi]
theorem add_none3 (b off i : Nat) : (⟨b, off, none⟩ : Addr).add i = ⟨b, off + i, none⟩ := by unfold Addr.add; split <;> simp_all

/-- What is known of a row of metas that came in. -/
def MetasIn (W : World) (a : Option Addr) (n c : Nat) : Prop := n ≤ 9223372036854775807 ∧ (n ≤ 1048576 → ∃ l : List Ix.M, l.length = n ∧ Trs W (.slice a n c) l)

set_option maxRecDepth 100000 in
theorem open_metas {H : Type} {enc : TypeId × Value → H} {W : World} {base fuel : Nat} {spare : Nat → Bool} {held : Bool} {v : Value} {x : DataW H × List MemPlace} (h : DataW.trod enc Tryz.prog W base spare held fuel 25 [v] = some x) :
    ∃ a n c, v = .slice a n c ∧ MetasIn W a n c := by
  rcases open_slice Tryz.underlying25 h with ⟨hv, _⟩ | ⟨a, len, cap, m, n, D, Pl, hv, _, hl, hm, hmm, _, hx⟩
  · injection hv with hv _
    exact ⟨none, 0, 0, hv, by omega, fun _ => ⟨[], rfl, none, 0, rfl, by simp, fun h => by simp at h⟩⟩
  · injection hv with hv _
    unfold maxLen at hm
    refine ⟨some a, len, cap, hv, by omega, fun hs => ?_⟩
    have hlm : len ≤ m := by rw [hmm]; split <;> omega
    have each : ∀ i, i < len → ∃ q : Int × Int × Int, W.cell? (a.add (i * 3)) = some (.int .i64 q.1) ∧ W.cell? (a.add (i * 3 + 1)) = some (.int .i64 q.2.1) ∧ W.cell? (a.add (i * 3 + 2)) = some (.int .i64 q.2.2) := by
      intro i hi
      obtain ⟨cs', h1, h2⟩ := hx i (by omega)
      rw [show Tryz.prog.cellsOf 116 = 3 by kernel_rfl] at h1
      obtain ⟨_, hlen, hcell⟩ := World.cells?_some h1
      match cs', hlen with
      | [v0, v1, v2], _ =>
        obtain ⟨y0, y1, y2, k, _, _, g0, g1, g2⟩ := trod_struct3 Tryz.underlying116 h2
        have g0' : DataW.trod enc Tryz.prog W base spare held k 3 [v0] = some y0 := g0
        have g1' : DataW.trod enc Tryz.prog W base spare held k 3 [v1] = some y1 := g1
        have g2' : DataW.trod enc Tryz.prog W base spare held k 3 [v2] = some y2 := g2
        obtain ⟨z0, e0, _, _⟩ := DataW.trod_int Tryz.underlying3 g0'
        obtain ⟨z1, e1, _, _⟩ := DataW.trod_int Tryz.underlying3 g1'
        obtain ⟨z2, e2, _, _⟩ := DataW.trod_int Tryz.underlying3 g2'
        injection e0 with e0 _
        injection e1 with e1 _
        injection e2 with e2 _
        have f0 := hcell 0 (by omega)
        have f1 := hcell 1 (by omega)
        have f2 := hcell 2 (by omega)
        rw [add_add] at f0 f1 f2
        subst e0 e1 e2
        exact ⟨(z0, z1, z2), by simpa using f0, by simpa using f1, by simpa using f2⟩
    obtain ⟨q, hq⟩ := choose_lt each
    refine ⟨(List.range len).map fun i => ((q i).1, (q i).2.1, (q i).2.2), by simp, some a, cap, by simp, by simp; omega, fun hp => ?_⟩
    have hp' : 0 < len := by simpa using hp
    obtain ⟨b, off, spot⟩ := a
    have h0 := (hq 0 hp').1
    have hspot : spot = none := by simpa [Addr.add] using World.cell?_spot h0
    subst hspot
    refine ⟨b, off, rfl, ?_, fun i hi => ?_⟩
    · rcases Nat.lt_or_ge b W.heap.size with h1 | h1
      · exact h1
      · rw [add_none3, World.cell?, Array.getElem?_eq_none h1] at h0; cases h0
    · have hi' : i < len := by simpa using hi
      obtain ⟨g0, g1, g2⟩ := hq i hi'
      obtain ⟨m0, m1, m2⟩ := ix_map len (fun i => (q i).1) (fun i => (q i).2.1) (fun i => (q i).2.2) i hi'
      rw [m0, m1, m2]
      rw [add_none3] at g0 g1 g2
      exact ⟨g0, by rw [Nat.add_assoc]; exact g1, by rw [Nat.add_assoc]; exact g2⟩

set_option maxRecDepth 100000 in
theorem open_index {H : Type} {enc : TypeId × Value → H} {W : World} {base b0 : Nat} {r : Reach} {spare : Nat → Bool} {held : Bool} {v : Value} {d : DataW H} {p : List MemPlace} (hv : Value.okWide Tryz.prog W r b0 27 v)
    (h : DataW.Trod enc Tryz.prog W base spare held 27 v d p) : ∃ x y a n c, v = .agg #[.int .i64 x, .int .i64 y, .slice a n c] ∧ MetasIn W a n c := by
  obtain ⟨c0, c1, c2, y0, y1, y2, m, rfl, _, _, g0, g1, g2⟩ := open_agg3 Tryz.underlying27 (by kernel_rfl) (by kernel_rfl) hv h
  obtain ⟨x, e0, _, _⟩ := DataW.trod_int Tryz.underlying3 g0
  obtain ⟨y, e1, _, _⟩ := DataW.trod_int Tryz.underlying3 g1
  injection e0 with e0 _
  injection e1 with e1 _
  obtain ⟨a, n, c, e2, hR⟩ := open_metas g2
  exact ⟨x, y, a, n, c, by rw [e0, e1, e2], hR⟩
end Go.Proofs.YtlnieobmhofkdaaGreat

/- How what came in is read: a row of numbers. -/
namespace Go.Proofs.YtlnieobmhofkdaaGreat
open Go.RowKit Go.ChangeShapes Go.WideShapes

theorem add_noneI (b off i : Nat) : (⟨b, off, none⟩ : Addr).add i = ⟨b, off + i, none⟩ := by unfold Addr.add; split <;> simp_all
theorem cellLtI {w : World} {a : Addr} {v : Value} (h : w.cell? a = some v) : a.block < w.heap.size := by
  rcases Nat.lt_or_ge a.block w.heap.size with h1 | h1
  · exact h1
  · rw [World.cell?, Array.getElem?_eq_none h1] at h; cases h

/-- What is known of a row of numbers that came in. -/
def RowIn (W : World) (a : Option Addr) (n c : Nat) : Prop := n ≤ 9223372036854775807 ∧ (n ≤ 1048576 → ∃ l : List Int, l.length = n ∧ Ins W (.slice a n c) l)

theorem open_cell {H : Type} {enc : TypeId × Value → H} {W : World} {base fuel : Nat} {spare : Nat → Bool} {held : Bool} {v : Value} {x : DataW H × List MemPlace}
    (h : DataW.trod enc Tryz.prog W base spare held fuel 22 [v] = some x) : ∃ a n c, v = .slice a n c ∧ RowIn W a n c := by
  rcases open_ints Tryz.underlying22 Tryz.underlying3 (by kernel_rfl) h with ⟨hv, _⟩ | ⟨a, len, cap, zs, hv, _, hl, hm, hz, _, hx, _⟩
  · injection hv with hv _
    exact ⟨none, 0, 0, hv, by omega, fun _ => ⟨[], rfl, Ins.nil W⟩⟩
  · injection hv with hv _
    unfold maxLen at hm
    refine ⟨some a, len, cap, hv, by omega, fun hs => ?_⟩
    have hlz : len ≤ zs.length := by rw [hz]; split <;> omega
    have hlt : (zs.take len).length = len := by rw [List.length_take]; omega
    refine ⟨zs.take len, hlt, some a, cap, by rw [hlt], by omega, fun hp => ?_⟩
    obtain ⟨b, off, spot⟩ := a
    have h0 := hx 0 (by omega)
    have hspot : spot = none := by simpa [Addr.add] using World.cell?_spot h0
    subst hspot
    refine ⟨b, off, rfl, ?_, fun i hi => ?_⟩
    · have := cellLtI h0
      rw [add_noneI] at this
      exact this
    · have hi' : i < len := by omega
      have := hx i (by omega)
      rw [add_noneI] at this
      rw [this]
      unfold Ky.nth
      rw [List.getD_eq_getElem?_getD, List.getD_eq_getElem?_getD, List.getElem?_take_of_lt hi']

set_option maxRecDepth 100000 in
theorem open_row {H : Type} {enc : TypeId × Value → H} {W : World} {base b0 : Nat} {r : Reach} {spare : Nat → Bool} {held : Bool} {v : Value} {d : DataW H} {p : List MemPlace} (hv : Value.okWide Tryz.prog W r b0 22 v)
    (h : DataW.Trod enc Tryz.prog W base spare held 22 v d p) : ∃ a n c, v = .slice a n c ∧ RowIn W a n c := by
  obtain ⟨a0, len0, cap0, rfl⟩ := okWide_slice Tryz.underlying22 hv
  obtain ⟨fuel, hf⟩ := h
  exact open_cell hf
end Go.Proofs.YtlnieobmhofkdaaGreat
