import Derived.Test.YtlnieobmhofkdaaGreatMix7
import Derived.Test.YtlnieobmhofkdaaGreatPksCopyW
/- What the laws' markPkgS does: marks are laid into the rows of a row of packages that was made, and nowhere else. -/
namespace Go.Proofs.YtlnieobmhofkdaaGreat
open Go.RowKit

/-- A block of n pairs of numbers. -/
def PairB (w : World) (g : Nat) (t : TypeId) (n : Nat) : Prop := ∃ l : List (Int × Int), l.length = n ∧ w.heap[g]? = some (.cells (flat l).toArray t (0, 0))
theorem Fill.pairB {w : World} {g : Nat} {t : TypeId} {l : List (Int × Int)} (h : Fill w g t l l.length) : PairB w g t l.length := by
  obtain ⟨C, h1, h2, h3⟩ := h
  refine ⟨l, rfl, h1.trans ?_⟩
  have : C = (flat l).toArray := by
    apply Array.ext'
    apply List.ext_getElem?
    intro j
    rcases Nat.lt_or_ge j (l.length * 2) with hj | hj
    · obtain ⟨a, b⟩ := h3 (j / 2) (by omega)
      obtain ⟨c, d⟩ := flat_at l (j / 2) (by omega)
      have hm : j % 2 = 0 ∨ j % 2 = 1 := by omega
      rcases hm with hm | hm
      · rw [show j = j / 2 * 2 by omega, c, Array.getElem?_toList, a]
      · rw [show j = j / 2 * 2 + 1 by omega, d, Array.getElem?_toList, b]
    · rw [List.getElem?_eq_none (by rw [Array.length_toList]; omega), List.getElem?_eq_none (by show (flat l).length ≤ j; rw [flat_length]; exact hj)]
  rw [this]
theorem PairB.own {w : World} {g : Nat} {t : TypeId} {n B : Nat} (h : PairB w g t n) (hB : B ≤ g) (hn : n ≤ 1048576) : ∃ l : List (Int × Int), l.length = n ∧ w.ownsRow B t 2 (.slice (some ⟨g, 0, none⟩) l.length l.length) l.length (flat l) := by
  obtain ⟨l, hl, h1⟩ := h
  refine ⟨l, hl, ⟨flat_length l, .inr ⟨g, l.length, _, rfl, hB, h1, Nat.le_refl _, by unfold maxLen; omega, by show (flat l).length = _; exact flat_length l, ?_⟩⟩⟩
  show List.take _ (flat l) = flat l
  rw [← flat_length, List.take_length]
theorem PairB.of {w : World} {g : Nat} {t : TypeId} {n B : Nat} {l : List (Int × Int)} (h : w.ownsRow B t 2 (.slice (some ⟨g, 0, none⟩) n n) n (flat l)) (hl : l.length = n) : PairB w g t n := by
  obtain ⟨h1, h2⟩ := h
  rcases h2 with ⟨h, _⟩ | ⟨g', cap, cur, hv, _, hh, _, _, hs, ht⟩
  · cases h
  · injection hv with e1 _ e3
    injection e1 with e1
    injection e1 with e1 _ _
    subst e1 e3
    refine ⟨l, hl, hh.trans ?_⟩
    rw [← ht, List.take_of_length_le (by rw [Array.length_toList, hs]; exact Nat.le_refl _)]
/-- All stays but blocks among N. -/
structure Stays (N : Nat → Prop) (w w' : World) : Prop where
  os : w'.os = w.os
  tape : w'.tape = w.tape
  output : w'.output = w.output
  size : w.heap.size ≤ w'.heap.size
  block : ∀ k, k < w.heap.size → ¬ N k → w'.heap[k]? = w.heap[k]?
theorem Stays.refl (N : Nat → Prop) (w : World) : Stays N w w := ⟨rfl, rfl, rfl, Nat.le_refl _, fun _ _ _ => rfl⟩
theorem Stays.trans {N : Nat → Prop} {a b c : World} (h : Stays N a b) (k : Stays N b c) : Stays N a c :=
  ⟨k.os.trans h.os, k.tape.trans h.tape, k.output.trans h.output, Nat.le_trans h.size k.size, fun j hj hn => (k.block j (Nat.lt_of_lt_of_le hj h.size) hn).trans (h.block j hj hn)⟩
theorem Stays.grown {N : Nat → Prop} {w w' : World} {g : Nat} (h : w.grownBy w' (some g)) (hN : N g) : Stays N w w' :=
  ⟨h.os, h.tape, h.output, h.size, fun k hk hn => h.block k hk (fun e => hn (by rw [Option.some.inj e]; exact hN))⟩
theorem Stays.set {N : Nat → Prop} {w : World} {g o : Nat} {u : Value} (hN : N g) : Stays N w (w.setCell ⟨g, o, none⟩ u) :=
  ⟨rfl, rfl, rfl, by simp [World.setCell], fun k _ hn => Below.heap_setCell _ _ _ _ (fun e => hn (by have e' : k = g := e; rw [e']; exact hN))⟩
/-- A row of packages into which marks can be laid: all its blocks among N. -/
def WrP (N : Nat → Prop) (w : World) (g n : Nat) : Prop :=
  ∃ C : Array Value, w.heap[g]? = some (.cells C 67 (0, 0)) ∧ C.size = n * 4 ∧ N g ∧ ∀ i, i < n → ∃ x y g1 n1 g2 n2, (C[i * 4]? = some x ∧ C[i * 4 + 1]? = some y ∧ C[i * 4 + 2]? = some (.slice (some ⟨g1, 0, none⟩) n1 n1) ∧ C[i * 4 + 3]? = some (.slice (some ⟨g2, 0, none⟩) n2 n2)) ∧ (N g1 ∧ N g2) ∧ (n1 ≤ 1048576 ∧ n2 ≤ 1048576) ∧ PairB w g1 96 n1 ∧ PairB w g2 98 n2
theorem FillP.wr {w : World} {g : Nat} {l : List Ix.Pg} (h : FillP w g l l.length) : WrP (fun b => g ≤ b ∧ b < w.heap.size) w g l.length := by
  obtain ⟨C, h1, h2, h3⟩ := h
  refine ⟨C, h1, h2, ⟨Nat.le_refl _, heapLt h1⟩, fun i hi => ?_⟩
  obtain ⟨fv, dv, ⟨a, b, c, d⟩, ⟨g1, rfl, h5, h6, h7⟩, ⟨g2, rfl, k5, k6, k7⟩⟩ := h3 i hi
  have lt1 : g1 < w.heap.size := by obtain ⟨C, h, _⟩ := h7; exact heapLt h
  have lt2 : g2 < w.heap.size := by obtain ⟨C, h, _⟩ := k7; exact heapLt h
  exact ⟨_, _, g1, _, g2, _, ⟨a, b, c, d⟩, ⟨⟨by omega, lt1⟩, ⟨by omega, lt2⟩⟩, ⟨h6, k6⟩, h7.pairB, k7.pairB⟩
theorem PairB.keep {w w' : World} {g : Nat} {t : TypeId} {n : Nat} (h : PairB w g t n) (hb : w'.heap[g]? = w.heap[g]?) : PairB w' g t n := by
  obtain ⟨l, hl, h1⟩ := h
  exact ⟨l, hl, hb.trans h1⟩
theorem PairB.lt {w : World} {g : Nat} {t : TypeId} {n : Nat} (h : PairB w g t n) : g < w.heap.size := by
  obtain ⟨l, hl, h1⟩ := h
  exact heapLt h1
theorem PairB.one {w : World} {g : Nat} {t t' : TypeId} {n n' : Nat} (h : PairB w g t n) (h' : PairB w g t' n') : t = t' ∧ n = n' := by
  obtain ⟨l, hl, h1⟩ := h
  obtain ⟨l', hl', h1'⟩ := h'
  rw [h1] at h1'
  injection h1' with e
  injection e with e1 e2 _
  refine ⟨e2, ?_⟩
  have e3 := congrArg (fun a => (Array.toList a).length) e1
  simp only [flat_length] at e3
  omega
theorem WrP.later {N : Nat → Prop} {w w' : World} {g n : Nat} (h : WrP N w g n) (hb : Below w.heap.size w w') : WrP N w' g n := by
  obtain ⟨C, h1, h2, h3, h4⟩ := h
  refine ⟨C, (hb.block _ (heapLt h1)).trans h1, h2, h3, fun i hi => ?_⟩
  obtain ⟨x, y, g1, n1, g2, n2, k1, k2, k3, k4, k5⟩ := h4 i hi
  exact ⟨x, y, g1, n1, g2, n2, k1, k2, k3, k4.keep (hb.block _ k4.lt), k5.keep (hb.block _ k5.lt)⟩
/-- One block of pairs was written, and is such a one still. -/
theorem WrP.pair {N : Nat → Prop} {w w' : World} {g n gx nx : Nat} {t : TypeId} (ht : t ≠ 67) (h : WrP N w g n) (hx : PairB w gx t nx) (hx' : PairB w' gx t nx) (hg : w.grownBy w' (some gx)) : WrP N w' g n := by
  obtain ⟨C, h1, h2, h3, h4⟩ := h
  have kp : ∀ {g1 n1 : Nat} {t1 : TypeId}, PairB w g1 t1 n1 → PairB w' g1 t1 n1 := fun {g1 n1 t1} hp => by
    by_cases e : g1 = gx
    · subst e
      obtain ⟨e1, e2⟩ := hp.one hx
      subst e1 e2
      exact hx'
    · exact hp.keep (hg.block _ hp.lt (fun e2 => e (Option.some.inj e2)))
  have hgx : g ≠ gx := fun e => by
    subst e
    obtain ⟨l, hl, h5⟩ := hx
    rw [h1] at h5
    injection h5 with e
    injection e with _ e2 _
    exact ht e2.symm
  refine ⟨C, (hg.block _ (heapLt h1) (fun e2 => hgx (Option.some.inj e2))).trans h1, h2, h3, fun i hi => ?_⟩
  obtain ⟨x, y, g1, n1, g2, n2, k1, k2, k3, k4, k5⟩ := h4 i hi
  exact ⟨x, y, g1, n1, g2, n2, k1, k2, k3, kp k4, kp k5⟩
theorem WrP.set {N : Nat → Prop} {w : World} {g n i o : Nat} {u : Value} (h : WrP N w g n) (_hi : i < n) (ho : o = i * 4 ∨ o = i * 4 + 1) : WrP N (w.setCell ⟨g, o, none⟩ u) g n := by
  obtain ⟨C, h1, h2, h3, h4⟩ := h
  refine ⟨_, heapSet h1, by simpa using h2, h3, fun j hj => ?_⟩
  obtain ⟨x, y, g1, n1, g2, n2, ⟨a, b, c, d⟩, k2, k3, k4, k5⟩ := h4 j hj
  have ne : ∀ {g1 n1 : Nat} {t : TypeId}, t ≠ 67 → PairB w g1 t n1 → g1 ≠ g := fun {g1 n1 t} ht hp e => by
    subst e
    obtain ⟨l, hl, h5⟩ := hp
    rw [h1] at h5
    injection h5 with e
    injection e with _ e2 _
    exact ht e2.symm
  have kp : ∀ {g1 n1 : Nat} {t : TypeId}, t ≠ 67 → PairB w g1 t n1 → PairB (w.setCell ⟨g, o, none⟩ u) g1 t n1 := fun ht hp => hp.keep (Below.heap_setCell _ _ _ _ (ne ht hp))
  have e0 : ∃ x', (C.setIfInBounds o u)[j * 4]? = some x' := ⟨_, Array.getElem?_eq_getElem (by rw [Array.size_setIfInBounds]; omega)⟩
  have e1 : ∃ x', (C.setIfInBounds o u)[j * 4 + 1]? = some x' := ⟨_, Array.getElem?_eq_getElem (by rw [Array.size_setIfInBounds]; omega)⟩
  obtain ⟨x', hx'⟩ := e0
  obtain ⟨y', hy'⟩ := e1
  refine ⟨x', y', g1, n1, g2, n2, ⟨hx', hy', ?_, ?_⟩, k2, k3, kp (by decide) k4, kp (by decide) k5⟩
  · rw [Array.getElem?_setIfInBounds_ne (by omega)]; exact c
  · rw [Array.getElem?_setIfInBounds_ne (by omega)]; exact d
/-- What lies at a place. -/
theorem WrP.at {N : Nat → Prop} {w : World} {g n i : Nat} (h : WrP N w g n) (hi : i < n) : ∃ x y g1 n1 g2 n2, (w.cell? ⟨g, i * 4, none⟩ = some x ∧ w.cell? ⟨g, i * 4 + 1, none⟩ = some y ∧ w.cell? ⟨g, i * 4 + 2, none⟩ = some (.slice (some ⟨g1, 0, none⟩) n1 n1) ∧ w.cell? ⟨g, i * 4 + 3, none⟩ = some (.slice (some ⟨g2, 0, none⟩) n2 n2)) ∧ (w.frozen? ⟨g, i * 4, none⟩ = false ∧ w.frozen? ⟨g, i * 4 + 1, none⟩ = false) ∧ (N g ∧ N g1 ∧ N g2) ∧ (n1 ≤ 1048576 ∧ n2 ≤ 1048576) ∧ PairB w g1 96 n1 ∧ PairB w g2 98 n2 := by
  obtain ⟨C, h1, h2, h3, h4⟩ := h
  obtain ⟨x, y, g1, n1, g2, n2, ⟨a, b, c, d⟩, k2, k3, k4, k5⟩ := h4 i hi
  exact ⟨x, y, g1, n1, g2, n2, ⟨by rw [cellOf h1]; exact a, by rw [cellOf h1]; exact b, by rw [cellOf h1]; exact c, by rw [cellOf h1]; exact d⟩, ⟨frozenOf h1 _, frozenOf h1 _⟩, ⟨h3, k2.1, k2.2⟩, k3, k4, k5⟩

theorem cell_other {w : World} {g o o' : Nat} {u v : Value} {t : TypeId} {C : Array Value} (h1 : w.heap[g]? = some (.cells C t (0, 0))) (hc : w.cell? ⟨g, o, none⟩ = some v) (hne : o' ≠ o) : (w.setCell ⟨g, o', none⟩ u).cell? ⟨g, o, none⟩ = some v := by
  rw [cellOf (heapSet h1), Array.getElem?_setIfInBounds_ne hne, ← cellOf h1]
  exact hc

set_option maxHeartbeats 4000000 in
set_option maxRecDepth 100000 in
theorem markPkgS_any {N : Nat → Prop} (w : World) (g n : Nat) (h : WrP N w g n) (hn : n ≤ 1048576) :
    Calls Tryz.prog 14 #[.slice (some ⟨g, 0, none⟩) n n, .int .i64 1] w fun e w' => ∃ k : Int, e = .returned (.int .i64 k) ∧ 0 ≤ k ∧ Stays N w w' := by
  have H := hide h
  clear h
  go_enter Tryz.func14, Tryz.ntmps14
  go_wp2_with fail
  go_loopw [1, 5] (fun kv i w' => ∃ (j : Nat) (k : Int), j ≤ n ∧ i = .int .i64 j ∧ kv = .int .i64 k ∧ 1 ≤ k ∧ k ≤ 1 + j * 10000000 ∧ WrP N w' g n ∧ Stays N w w') (fun _ i _ => n - (intOf i).toNat)
  case atStart => exact ⟨0, 1, Nat.zero_le _, rfl, rfl, by omega, by simp, unhide H, Stays.refl _ _⟩
  case round =>
    clear H
    obtain ⟨j, k, hj, rfl, rfl, k0, k1, hW, hS⟩ := hrel
    have HW := hide hW
    have HS := hide hS
    by_cases hlt : j < n
    · obtain ⟨x, y, g1, n1, g2, n2, ⟨c0, c1, c2, c3⟩, ⟨f0, f1⟩, ⟨hN, hN1, hN2⟩, ⟨l1, l2⟩, p1, p2⟩ := hW.at hlt
      have hw2 := (hW.set (u := .int .i64 k) hlt (.inl rfl)).set (u := .int .i64 (k + 1)) hlt (.inr rfl)
      have hs2 := hS.trans ((Stays.set (u := .int .i64 k) (o := j * 4) hN).trans (Stays.set (u := .int .i64 (k + 1)) (o := j * 4 + 1) hN))
      have HW2 := hide hw2
      have HS2 := hide hs2
      have HN := hide (And.intro hN (And.intro hN1 hN2))
      have hne1 : g1 ≠ g := fun e => by
        obtain ⟨C, h1, _⟩ := hW
        subst e
        obtain ⟨l, hl, h5⟩ := p1
        rw [h1] at h5
        injection h5 with e
        injection e with _ e2 _
        exact absurd e2 (by decide)
      have hne2 : g2 ≠ g := fun e => by
        obtain ⟨C, h1, _⟩ := hW
        subst e
        obtain ⟨l, hl, h5⟩ := p2
        rw [h1] at h5
        injection h5 with e
        injection e with _ e2 _
        exact absurd e2 (by decide)
      have far : ∀ m, m ≠ g → ((wr.setCell ⟨g, j * 4, none⟩ (.int .i64 k)).setCell ⟨g, j * 4 + 1, none⟩ (.int .i64 (k + 1))).heap[m]? = wr.heap[m]? := fun m hm => by rw [Below.heap_setCell _ _ _ _ hm, Below.heap_setCell _ _ _ _ hm]
      have P2 := hide (And.intro (p1.keep (far g1 hne1)) (p2.keep (far g2 hne2)))
      have hc3 : ((wr.setCell ⟨g, j * 4, none⟩ (.int .i64 k)).setCell ⟨g, j * 4 + 1, none⟩ (.int .i64 (k + 1))).cell? ⟨g, j * 4 + 3, none⟩ = some (.slice (some ⟨g2, 0, none⟩) n2 n2) := by
        obtain ⟨C, h1, _⟩ := hW
        exact cell_other (heapSet h1) (cell_other h1 c3 (by omega)) (by omega)
      have HC3 := hide hc3
      have hgl : g < wr.heap.size := by obtain ⟨C, h1, _⟩ := hW; exact heapLt h1
      have hi0 : (0 : Int) ≤ (j : Int) := Int.natCast_nonneg _
      have hi1 : (j : Int) < (n : Int) := by omega
      have e1 : IntKind.i64.wrap (k + 1) = k + 1 := by simp [IntKind.wrap, IntKind.bits, IntKind.signed]; omega
      have e2 : IntKind.i64.wrap (k + 1 + 1) = k + 1 + 1 := by simp [IntKind.wrap, IntKind.bits, IntKind.signed]; omega
      clear hW hS hw2 hs2 p1 p2 far hc3 c3 hN hN1 hN2 HW HS
      go_wp2_with fail
      obtain ⟨q1, hq1, ho1⟩ := (unhide P2).1.own (B := 0) (Nat.zero_le _) l1
      have CM := hide (markFileS_any _ _ q1 0 (k + 1 + 1) ho1 (by omega) (by omega) (by omega))
      rw [hq1] at CM
      clear ho1
      refine (unhide CM).mono ?_
      generalize World.setCell _ _ _ = W2 at *
      rintro e w3 ⟨rfl, hf3, hg3⟩
      have hp3 : PairB w3 g1 96 n1 := PairB.of (l := marks (k + 1 + 1) n1) hf3 (marks_len _ _)
      have hw3 := (unhide HW2).pair (by decide) (unhide P2).1 hp3 hg3
      have hs3 := (unhide HS2).trans (Stays.grown hg3 (unhide HN).2.1)
      have hg12 : g2 ≠ g1 := fun e => by
        have := (unhide P2).2
        rw [e] at this
        exact absurd (this.one (unhide P2).1).1 (by decide)
      have hp2 := (unhide P2).2.keep (w' := w3) (hg3.block _ (unhide P2).2.lt (fun e => hg12 (Option.some.inj e)))
      have hgl2 : g < W2.heap.size := by obtain ⟨C, h1, _⟩ := unhide HW2; exact heapLt h1
      have d3 : w3.cell? ⟨g, j * 4 + 3, none⟩ = some (.slice (some ⟨g2, 0, none⟩) n2 n2) := (World.cell?_of_block (a := ⟨g, j * 4 + 3, none⟩) (hg3.block g hgl2 (fun e => hne1 (Option.some.inj e).symm))).trans (unhide HC3)
      have HW3 := hide hw3
      have HS3 := hide hs3
      have HP3 := hide hp2
      clear hf3 hg3 hp3 hw3 hs3 hp2 HW2 HS2 P2 HC3 CM hgl2 c0 c1 c2 f0 f1
      clear W2
      go_wp2_with fail
      obtain ⟨q2, hq2, ho2⟩ := (unhide HP3).own (B := 0) (Nat.zero_le _) l2
      have CM := hide (markDepS_any _ _ q2 0 (k + 1 + 1 + 2 * (n1 : Int)) ho2 (by omega) (by omega) (by omega))
      rw [hq2] at CM
      clear ho2
      refine (unhide CM).mono ?_
      rintro e w4 ⟨rfl, hf4, hg4⟩
      have hp4 : PairB w4 g2 98 n2 := PairB.of (l := marks (k + 1 + 1 + 2 * (n1 : Int)) n2) hf4 (marks_len _ _)
      have HW4 := hide ((unhide HW3).pair (by decide) (unhide HP3) hp4 hg4)
      have HS4 := hide ((unhide HS3).trans (Stays.grown hg4 (unhide HN).2.2))
      clear hf4 hg4 hp4 HW3 HS3 HP3 CM d3
      go_wp2
      go_roundw
      case rel => exact ⟨j + 1, k + 1 + 1 + 2 * (n1 : Int) + 2 * (n2 : Int), by omega, by go_num, rfl, by omega, by omega, unhide HW4, unhide HS4⟩
      case measure => simp [intOf]; omega
    · obtain rfl : j = n := by omega
      clear hW hS hlt
      go_wp2
      go_ret
      exact ⟨k, rfl, by omega, unhide HS⟩
end Go.Proofs.YtlnieobmhofkdaaGreat
