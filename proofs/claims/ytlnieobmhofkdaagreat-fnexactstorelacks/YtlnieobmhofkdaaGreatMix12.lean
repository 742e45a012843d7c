import Derived.Test.YtlnieobmhofkdaaGreatMix4
import Derived.Test.YtlnieobmhofkdaaGreatMix10
import Derived.Test.YtlnieobmhofkdaaGreatMix0
import Derived.Deep.SlicePairs
import Derived.Lib.SmallJoins
import Derived.Test.YtlnieobmhofkdaaGreatPksCopyW
import Derived.ProofKit
/- Of which packages an index tells that are not kept, as data. -/
namespace Go.Proofs.YtlnieobmhofkdaaGreat
namespace Ix
def lacks12 (ms : List M) (l : List Pg) : List M := ms.filter (fun m => !metIn l m)
def lacksA (t : Tr.T) (l : List Pg) : List M := if t.ok = true ∧ pkgsOk l = true then lacks12 t.ms l else []
theorem lacksA_bad {t : Tr.T} {l : List Pg} (h : t.ok = false) : lacksA t l = [] := by unfold lacksA; rw [if_neg (by rw [h]; simp)]
theorem lacksA_off {t : Tr.T} {l : List Pg} (h : pkgsOk l = false) : lacksA t l = [] := by unfold lacksA; rw [if_neg (by rw [h]; simp)]
theorem lacksA_yes {t : Tr.T} {l : List Pg} (h : t.ok = true) (h2 : pkgsOk l = true) : lacksA t l = lacks12 t.ms l := by unfold lacksA; rw [if_pos ⟨h, h2⟩]
theorem lacks12_snoc (ms : List M) (m : M) (l : List Pg) : lacks12 (ms ++ [m]) l = if metIn l m = true then lacks12 ms l else lacks12 ms l ++ [m] := by
  unfold lacks12
  rw [List.filter_append]
  cases h : metIn l m
  · have e : [m].filter (fun m => !metIn l m) = [m] := by simp [h]
    rw [e]; simp
  · have e : [m].filter (fun m => !metIn l m) = [] := by simp [h]
    rw [e]; simp
theorem lacks12_le (ms : List M) (l : List Pg) : (lacks12 ms l).length ≤ ms.length := List.length_filter_le _ _
theorem met_shelf {l : List Pg} {m : M} {n : Int} (hn : m.1 = n) : metIn (shelf l n) m = metIn l m := by
  subst hn
  unfold metIn shelf
  rw [List.any_filter]
  congr 1
  funext p
  by_cases h : metaP p = m
  · have : p.1 = m.1 := by rw [← h]; rfl
    simp [h, this]
  · simp [h]
/-- Trust that is ok: what it is told of. -/
theorem ok_ms {t : Tr.T} (h : t.ok = true) : t.ms.length ≤ 8 ∧ ∀ x ∈ t.ms, (1 ≤ x.1 ∧ x.1 ≤ 4) ∧ (1 ≤ x.2.1 ∧ x.2.1 ≤ 5) ∧ (0 ≤ x.2.2 ∧ x.2.2 ≤ 9972) := by
  unfold Tr.T.ok Tr.ok at h
  rw [Bool.and_eq_true] at h
  have h2 := h.2
  cases hh : t.has
  · rw [hh] at h2
    have h3 : Tr.noIdx t.num t.til t.ms = true := h2
    unfold Tr.noIdx at h3
    simp only [Bool.and_eq_true, decide_eq_true_eq] at h3
    have hms : t.ms = [] := by
      have := h3.2
      exact List.length_eq_zero_iff.1 (by omega)
    rw [hms]
    exact ⟨Nat.zero_le _, fun x hx => by cases hx⟩
  · rw [hh] at h2
    have h3 : idxOk t.num t.til t.ms = true := h2
    unfold idxOk at h3
    simp only [Bool.and_eq_true, decide_eq_true_eq] at h3
    refine ⟨h3.1.2, fun x hx => ?_⟩
    obtain ⟨i, hi, e⟩ := List.getElem_of_mem hx
    have hg := metasOk_at h3.2 i hi
    unfold good at hg
    rw [Bool.and_eq_true] at hg
    have hm := hg.1
    have hgd : t.ms.getD i (0, 0, 0) = x := by rw [List.getD_eq_getElem?_getD, List.getElem?_eq_getElem hi, e]; rfl
    unfold mOk nm vr sm Pk.inB at hm
    rw [hgd] at hm
    simp only [Bool.and_eq_true, decide_eq_true_eq] at hm
    omega
end Ix
end Go.Proofs.YtlnieobmhofkdaaGreat

/- How a package that came in is read: its numbers, and its two rows of pairs. -/
namespace Go.Proofs.YtlnieobmhofkdaaGreat
open Go.RowKit Go.Deep Go.Joins

theorem fst_map (n : Nat) (f g : Nat → Int) (i : Nat) (h : i < n) : Pk.fst ((List.range n).map fun i => (f i, g i)) i = f i ∧ Pk.snd ((List.range n).map fun i => (f i, g i)) i = g i := by
  unfold Pk.fst Pk.snd
  simp [List.getD, h]

theorem add_none (b off i : Nat) : (⟨b, off, none⟩ : Addr).add i = ⟨b, off + i, none⟩ := by unfold Addr.add; split <;> simp_all

/-- A row of pairs that came in. -/
theorem open_pairs {H : Type} {enc : TypeId × Value → H} {W : World} {base fuel : Nat} {spare : Nat → Bool} {held : Bool} {t e : TypeId} {f0 f1 : Field} {v : Value} {x : DataW H × List MemPlace} (ht : Tryz.prog.underlying t = some (.slice e)) (he : Tryz.prog.underlying e = some (.struct #[f0, f1]))
    (ce : Tryz.prog.cellsOf e = 2) (o0 : f0.offset = 0) (o1 : f1.offset = 1) (c0 : Tryz.prog.cellsOf f0.type = 1) (c1 : Tryz.prog.cellsOf f1.type = 1) (u0 : Tryz.prog.underlying f0.type = some (.int .i64)) (u1 : Tryz.prog.underlying f1.type = some (.int .i64))
    (h : DataW.trod enc Tryz.prog W base spare held fuel t [v] = some x) :
    ∃ a n c, v = .slice a n c ∧ n ≤ 9223372036854775807 ∧ (n ≤ 1048576 → ∃ l : List (Int × Int), l.length = n ∧ Prs W (.slice a n c) l) := by
  rcases open_slice_pairs ht he ce o0 o1 c0 c1 h with ⟨hv, _⟩ | ⟨a, len, cap, m, n, V0, V1, D0, D1, P0, P1, hv, _, hl, hm, hmm, _, hx⟩
  · injection hv with hv _
    exact ⟨none, 0, 0, hv, by omega, fun _ => ⟨[], rfl, none, 0, rfl, by simp, fun h => by simp at h⟩⟩
  · injection hv with hv _
    unfold maxLen at hm
    refine ⟨some a, len, cap, hv, by omega, fun hs => ?_⟩
    have hlm : len ≤ m := by rw [hmm]; split <;> omega
    have each : ∀ i, i < len → ∃ q : Int × Int, W.cell? (a.add (i * 2)) = some (.int .i64 q.1) ∧ W.cell? (a.add (i * 2 + 1)) = some (.int .i64 q.2) := by
      intro i hi
      obtain ⟨h1, h2, h3, h4⟩ := hx i (by omega)
      obtain ⟨z0, e0, _, _⟩ := DataW.trod_int u0 h3
      obtain ⟨z1, e1, _, _⟩ := DataW.trod_int u1 h4
      injection e0 with e0 _
      injection e1 with e1 _
      exact ⟨(z0, z1), by rw [h1, e0], by rw [h2, e1]⟩
    obtain ⟨q, hq⟩ := choose_lt each
    refine ⟨(List.range len).map fun i => ((q i).1, (q i).2), by simp, some a, cap, by simp, by simp; omega, fun hp => ?_⟩
    have hp' : 0 < len := by simpa using hp
    obtain ⟨b, off, spot⟩ := a
    have h0 := (hq 0 hp').1
    have hspot : spot = none := by simpa [Addr.add] using World.cell?_spot h0
    subst hspot
    refine ⟨b, off, rfl, ?_, fun i hi => ?_⟩
    · rcases Nat.lt_or_ge b W.heap.size with h1 | h1
      · exact h1
      · rw [add_none, World.cell?, Array.getElem?_eq_none h1] at h0; cases h0
    · have hi' : i < len := by simpa using hi
      obtain ⟨g0, g1⟩ := hq i hi'
      obtain ⟨m0, m1⟩ := fst_map len (fun i => (q i).1) (fun i => (q i).2) i hi'
      rw [m0, m1]
      rw [add_none] at g0 g1
      exact ⟨g0, by rw [Nat.add_assoc]; exact g1⟩
end Go.Proofs.YtlnieobmhofkdaaGreat

/- How a row of packages that came in is read: each one's numbers, and its two rows of pairs. -/
namespace Go.Proofs.YtlnieobmhofkdaaGreat
open Go.RowKit Go.Deep Go.Joins Go.WideShapes Go.ChangeShapes

/-- What is known of a row of pairs that came in. -/
def PairsIn (W : World) (x : Option Addr × Nat × Nat) : Prop := x.2.1 ≤ 9223372036854775807 ∧ (x.2.1 ≤ 1048576 → ∃ l : List (Int × Int), l.length = x.2.1 ∧ Prs W (.slice x.1 x.2.1 x.2.2) l)
/-- What is known of a row of packages that came in. -/
def PkgsIn (W : World) (a : Option Addr) (n _c : Nat) : Prop := n ≤ 9223372036854775807 ∧ (n ≤ 1048576 → ∃ q : Nat → RawP, (0 < n → ∃ b off, a = some ⟨b, off, none⟩ ∧ b < W.heap.size ∧ ∀ i, i < n → RawAt W b (off + i * 4) (q i)) ∧ ∀ i, i < n → PairsIn W (q i).2.2.1 ∧ PairsIn W (q i).2.2.2)

set_option maxRecDepth 100000 in
theorem open_pkgs' {H : Type} {enc : TypeId × Value → H} {W : World} {base fuel : Nat} {spare : Nat → Bool} {held : Bool} {v : Value} {x : DataW H × List MemPlace} (h : DataW.trod enc Tryz.prog W base spare held fuel 30 [v] = some x) :
    ∃ a n c, v = .slice a n c ∧ PkgsIn W a n c := by
  rcases open_slice Tryz.underlying30 h with ⟨hv, _⟩ | ⟨a, len, cap, m, n, D, Pl, hv, _, hl, hm, hmm, _, hx⟩
  · injection hv with hv _
    exact ⟨none, 0, 0, hv, by omega, fun _ => ⟨fun _ => (0, 0, (none, 0, 0), (none, 0, 0)), fun h => by omega, fun i hi => by omega⟩⟩
  · injection hv with hv _
    unfold maxLen at hm
    refine ⟨some a, len, cap, hv, by omega, fun hs => ?_⟩
    have hlm : len ≤ m := by rw [hmm]; split <;> omega
    have each : ∀ i, i < len → ∃ q : RawP, (W.cell? (a.add (i * 4)) = some (.int .i64 q.1) ∧ W.cell? (a.add (i * 4 + 1)) = some (.int .i64 q.2.1) ∧ W.cell? (a.add (i * 4 + 2)) = some (.slice q.2.2.1.1 q.2.2.1.2.1 q.2.2.1.2.2) ∧ W.cell? (a.add (i * 4 + 3)) = some (.slice q.2.2.2.1 q.2.2.2.2.1 q.2.2.2.2.2)) ∧ PairsIn W q.2.2.1 ∧ PairsIn W q.2.2.2 := by
      intro i hi
      obtain ⟨cs', h1, h2⟩ := hx i (by omega)
      rw [show Tryz.prog.cellsOf 56 = 4 by kernel_rfl] at h1
      obtain ⟨_, hlen, hcell⟩ := World.cells?_some h1
      match cs', hlen with
      | [v0, v1, v2, v3], _ =>
        obtain ⟨y0, y1, y2, y3, k, _, _, g0, g1, g2, g3⟩ := trod_struct4 Tryz.underlying56 h2
        have g0' : DataW.trod enc Tryz.prog W base spare held k 3 [v0] = some y0 := g0
        have g1' : DataW.trod enc Tryz.prog W base spare held k 3 [v1] = some y1 := g1
        have g2' : DataW.trod enc Tryz.prog W base spare held k 53 [v2] = some y2 := g2
        have g3' : DataW.trod enc Tryz.prog W base spare held k 54 [v3] = some y3 := g3
        obtain ⟨z0, e0, _, _⟩ := DataW.trod_int Tryz.underlying3 g0'
        obtain ⟨z1, e1, _, _⟩ := DataW.trod_int Tryz.underlying3 g1'
        injection e0 with e0 _
        injection e1 with e1 _
        obtain ⟨fa, fn, fc, e2, hn2, hP2⟩ := open_pairs Tryz.underlying53 Tryz.underlying118 (by kernel_rfl) rfl rfl (by kernel_rfl) (by kernel_rfl) Tryz.underlying3 Tryz.underlying3 g2'
        obtain ⟨da, dn, dc, e3, hn3, hP3⟩ := open_pairs Tryz.underlying54 Tryz.underlying120 (by kernel_rfl) rfl rfl (by kernel_rfl) (by kernel_rfl) Tryz.underlying3 Tryz.underlying3 g3'
        have f0 := hcell 0 (by omega)
        have f1 := hcell 1 (by omega)
        have f2 := hcell 2 (by omega)
        have f3 := hcell 3 (by omega)
        rw [add_add] at f0 f1 f2 f3
        subst e0 e1 e2 e3
        exact ⟨(z0, z1, (fa, fn, fc), (da, dn, dc)), ⟨by simpa using f0, by simpa using f1, by simpa using f2, by simpa using f3⟩, ⟨hn2, hP2⟩, ⟨hn3, hP3⟩⟩
    obtain ⟨q, hq⟩ := choose_lt each
    refine ⟨q, fun hp => ?_, fun i hi => (hq i hi).2⟩
    obtain ⟨b, off, spot⟩ := a
    have h0 := (hq 0 hp).1.1
    have hspot : spot = none := by simpa [Addr.add] using World.cell?_spot h0
    subst hspot
    refine ⟨b, off, rfl, ?_, fun i hi => ?_⟩
    · rcases Nat.lt_or_ge b W.heap.size with h1 | h1
      · exact h1
      · rw [add_none, World.cell?, Array.getElem?_eq_none h1] at h0; cases h0
    · obtain ⟨⟨g0, g1, g2, g3⟩, _⟩ := hq i hi
      rw [add_none] at g0 g1 g2 g3
      exact ⟨g0, by rw [Nat.add_assoc]; exact g1, by rw [Nat.add_assoc]; exact g2, by rw [Nat.add_assoc]; exact g3⟩
set_option maxRecDepth 100000 in
theorem open_pkgs {H : Type} {enc : TypeId × Value → H} {W : World} {base b0 : Nat} {r : Reach} {spare : Nat → Bool} {held : Bool} {v : Value} {d : DataW H} {p : List MemPlace} (hv : Value.okWide Tryz.prog W r b0 30 v)
    (h : DataW.Trod enc Tryz.prog W base spare held 30 v d p) : ∃ a n c, v = .slice a n c ∧ PkgsIn W a n c := by
  obtain ⟨a0, len0, cap0, rfl⟩ := okWide_slice Tryz.underlying30 hv
  obtain ⟨fuel, hf⟩ := h
  exact open_pkgs' hf
/-- Rows that are not too long, as data. -/
theorem pkgs_of {W : World} {a : Option Addr} {n c : Nat} {q : Nat → RawP} (hn : n ≤ 1048576) (hrow : 0 < n → ∃ b off, a = some ⟨b, off, none⟩ ∧ b < W.heap.size ∧ ∀ i, i < n → RawAt W b (off + i * 4) (q i)) (hp : ∀ i, i < n → PairsIn W (q i).2.2.1 ∧ PairsIn W (q i).2.2.2)
    (hs : ∀ i, i < n → (q i).2.2.1.2.1 ≤ 1048576 ∧ (q i).2.2.2.2.1 ≤ 1048576) : ∃ l : List Ix.Pg, l.length = n ∧ Pks (fun _ => True) W (.slice a n c) l ∧ ∀ i, i < l.length → (Ix.pg l i).2.2.1.length ≤ 1048576 ∧ (Ix.pg l i).2.2.2.length ≤ 1048576 := by
  have each : ∀ i, i < n → ∃ x : List (Int × Int) × List (Int × Int), (x.1.length = (q i).2.2.1.2.1 ∧ Prs W (.slice (q i).2.2.1.1 (q i).2.2.1.2.1 (q i).2.2.1.2.2) x.1) ∧ (x.2.length = (q i).2.2.2.2.1 ∧ Prs W (.slice (q i).2.2.2.1 (q i).2.2.2.2.1 (q i).2.2.2.2.2) x.2) := by
    intro i hi
    obtain ⟨l1, h1⟩ := (hp i hi).1.2 (hs i hi).1
    obtain ⟨l2, h2⟩ := (hp i hi).2.2 (hs i hi).2
    exact ⟨(l1, l2), h1, h2⟩
  obtain ⟨x, hx⟩ := choose_lt each
  have hpg : ∀ i, i < n → Ix.pg ((List.range n).map fun i => ((q i).1, (q i).2.1, (x i).1, (x i).2)) i = ((q i).1, (q i).2.1, (x i).1, (x i).2) := fun i hi => by unfold Ix.pg; simp [List.getD, hi]
  refine ⟨(List.range n).map fun i => ((q i).1, (q i).2.1, (x i).1, (x i).2), by simp, ⟨a, c, by simp, by simp; omega, fun hpos => ?_⟩, fun i hi => ?_⟩
  · have hpos' : 0 < n := by simpa using hpos
    obtain ⟨b, off, ha, hb, hc⟩ := hrow hpos'
    refine ⟨b, off, ha, hb, trivial, fun i hi => ?_⟩
    have hi' : i < n := by simpa using hi
    rw [hpg i hi']
    obtain ⟨c0, c1, c2, c3⟩ := hc i hi'
    exact ⟨_, _, ⟨c0, c1, c2, c3⟩, PrsN.of (hx i hi').1.2, PrsN.of (hx i hi').2.2⟩
  · have hi' : i < n := by simpa using hi
    rw [hpg i hi']
    exact ⟨by rw [(hx i hi').1.1]; exact (hs i hi').1, by rw [(hx i hi').2.1]; exact (hs i hi').2⟩
end Go.Proofs.YtlnieobmhofkdaaGreat
