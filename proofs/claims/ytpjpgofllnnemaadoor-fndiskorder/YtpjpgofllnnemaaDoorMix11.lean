import Derived.Test.YtpjpgofllnnemaaDoorMix10
import Derived.Test.YtpjpgofllnnemaaDoorMix2
import Derived.Test.YtpjpgofllnnemaaDoorPksW
import Derived.Test.YtpjpgofllnnemaaDoorCopyPW
/- What the laws' markPkgS does: marks are laid into the rows of a row of packages that was made, and nowhere else. -/
namespace Go.Proofs.YtpjpgofllnnemaaDoor
open Go.RowKit

/-- A block of n pairs of numbers. -/
def PairB (w : World) (g : Nat) (t : TypeId) (n : Nat) : Prop := ∃ l : List (Int × Int), l.length = n ∧ w.heap[g]? = some (.cells (flat l).toArray t (0, 0))
theorem Fill.pairB {w : World} {g : Nat} {t : TypeId} {l : List (Int × Int)} (h : Fill w g t l l.length) : PairB w g t l.length := by
  obtain ⟨C, h1, h2, h3⟩ := h
  refine ⟨l, rfl, h1.trans ?_⟩
  have : C = (flat l).toArray := by
    apply Array.ext'
    apply List.ext_getElem?
    intro j
    rcases Nat.lt_or_ge j (l.length * 2) with hj | hj
    · obtain ⟨a, b⟩ := h3 (j / 2) (by omega)
      obtain ⟨c, d⟩ := flat_at l (j / 2) (by omega)
      have hm : j % 2 = 0 ∨ j % 2 = 1 := by omega
      rcases hm with hm | hm
      · rw [show j = j / 2 * 2 by omega, c, Array.getElem?_toList, a]
      · rw [show j = j / 2 * 2 + 1 by omega, d, Array.getElem?_toList, b]
    · rw [List.getElem?_eq_none (by rw [Array.length_toList]; omega), List.getElem?_eq_none (by show (flat l).length ≤ j; rw [flat_length]; exact hj)]
  rw [this]
theorem PairB.own {w : World} {g : Nat} {t : TypeId} {n B : Nat} (h : PairB w g t n) (hB : B ≤ g) (hn : n ≤ 1048576) : ∃ l : List (Int × Int), l.length = n ∧ w.ownsRow B t 2 (.slice (some ⟨g, 0, none⟩) l.length l.length) l.length (flat l) := by
  obtain ⟨l, hl, h1⟩ := h
  refine ⟨l, hl, ⟨flat_length l, .inr ⟨g, l.length, _, rfl, hB, h1, Nat.le_refl _, by unfold maxLen; omega, by show (flat l).length = _; exact flat_length l, ?_⟩⟩⟩
  show List.take _ (flat l) = flat l
  rw [← flat_length, List.take_length]
theorem PairB.of {w : World} {g : Nat} {t : TypeId} {n B : Nat} {l : List (Int × Int)} (h : w.ownsRow B t 2 (.slice (some ⟨g, 0, none⟩) n n) n (flat l)) (hl : l.length = n) : PairB w g t n := by
  obtain ⟨h1, h2⟩ := h
  rcases h2 with ⟨h, _⟩ | ⟨g', cap, cur, hv, _, hh, _, _, hs, ht⟩
  · cases h
  · injection hv with e1 _ e3
    injection e1 with e1
    injection e1 with e1 _ _
    subst e1 e3
    refine ⟨l, hl, hh.trans ?_⟩
    rw [← ht, List.take_of_length_le (by rw [Array.length_toList, hs]; exact Nat.le_refl _)]
/-- All stays but blocks among N. -/
structure Stays (N : Nat → Prop) (w w' : World) : Prop where
  os : w'.os = w.os
  tape : w'.tape = w.tape
  output : w'.output = w.output
  size : w.heap.size ≤ w'.heap.size
  block : ∀ k, k < w.heap.size → ¬ N k → w'.heap[k]? = w.heap[k]?
theorem Stays.refl (N : Nat → Prop) (w : World) : Stays N w w := ⟨rfl, rfl, rfl, Nat.le_refl _, fun _ _ _ => rfl⟩
theorem Stays.trans {N : Nat → Prop} {a b c : World} (h : Stays N a b) (k : Stays N b c) : Stays N a c :=
  ⟨k.os.trans h.os, k.tape.trans h.tape, k.output.trans h.output, Nat.le_trans h.size k.size, fun j hj hn => (k.block j (Nat.lt_of_lt_of_le hj h.size) hn).trans (h.block j hj hn)⟩
theorem Stays.grown {N : Nat → Prop} {w w' : World} {g : Nat} (h : w.grownBy w' (some g)) (hN : N g) : Stays N w w' :=
  ⟨h.os, h.tape, h.output, h.size, fun k hk hn => h.block k hk (fun e => hn (by rw [Option.some.inj e]; exact hN))⟩
theorem Stays.set {N : Nat → Prop} {w : World} {g o : Nat} {u : Value} (hN : N g) : Stays N w (w.setCell ⟨g, o, none⟩ u) :=
  ⟨rfl, rfl, rfl, by simp [World.setCell], fun k _ hn => Below.heap_setCell _ _ _ _ (fun e => hn (by have e' : k = g := e; rw [e']; exact hN))⟩
/-- A row of packages into which marks can be laid: all its blocks among N. -/
def WrP (N : Nat → Prop) (w : World) (g n : Nat) : Prop :=
  ∃ C : Array Value, w.heap[g]? = some (.cells C 56 (0, 0)) ∧ C.size = n * 4 ∧ N g ∧ ∀ i, i < n → ∃ x y g1 n1 g2 n2, (C[i * 4]? = some x ∧ C[i * 4 + 1]? = some y ∧ C[i * 4 + 2]? = some (.slice (some ⟨g1, 0, none⟩) n1 n1) ∧ C[i * 4 + 3]? = some (.slice (some ⟨g2, 0, none⟩) n2 n2)) ∧ (N g1 ∧ N g2) ∧ (n1 ≤ 1048576 ∧ n2 ≤ 1048576) ∧ PairB w g1 58 n1 ∧ PairB w g2 90 n2
theorem FillP.wr {w : World} {g : Nat} {l : List Ix.Pg} (h : FillP w g l l.length) : WrP (fun b => g ≤ b ∧ b < w.heap.size) w g l.length := by
  obtain ⟨C, h1, h2, h3⟩ := h
  refine ⟨C, h1, h2, ⟨Nat.le_refl _, heapLt h1⟩, fun i hi => ?_⟩
  obtain ⟨fv, dv, ⟨a, b, c, d⟩, ⟨g1, rfl, h5, h6, h7⟩, ⟨g2, rfl, k5, k6, k7⟩⟩ := h3 i hi
  have lt1 : g1 < w.heap.size := by obtain ⟨C, h, _⟩ := h7; exact heapLt h
  have lt2 : g2 < w.heap.size := by obtain ⟨C, h, _⟩ := k7; exact heapLt h
  exact ⟨_, _, g1, _, g2, _, ⟨a, b, c, d⟩, ⟨⟨by omega, lt1⟩, ⟨by omega, lt2⟩⟩, ⟨h6, k6⟩, h7.pairB, k7.pairB⟩
theorem PairB.keep {w w' : World} {g : Nat} {t : TypeId} {n : Nat} (h : PairB w g t n) (hb : w'.heap[g]? = w.heap[g]?) : PairB w' g t n := by
  obtain ⟨l, hl, h1⟩ := h
  exact ⟨l, hl, hb.trans h1⟩
theorem PairB.lt {w : World} {g : Nat} {t : TypeId} {n : Nat} (h : PairB w g t n) : g < w.heap.size := by
  obtain ⟨l, hl, h1⟩ := h
  exact heapLt h1
theorem PairB.one {w : World} {g : Nat} {t t' : TypeId} {n n' : Nat} (h : PairB w g t n) (h' : PairB w g t' n') : t = t' ∧ n = n' := by
  obtain ⟨l, hl, h1⟩ := h
  obtain ⟨l', hl', h1'⟩ := h'
  rw [h1] at h1'
  injection h1' with e
  injection e with e1 e2 _
  refine ⟨e2, ?_⟩
  have e3 := congrArg (fun a => (Array.toList a).length) e1
  simp only [flat_length] at e3
  omega
theorem WrP.later {N : Nat → Prop} {w w' : World} {g n : Nat} (h : WrP N w g n) (hb : Below w.heap.size w w') : WrP N w' g n := by
  obtain ⟨C, h1, h2, h3, h4⟩ := h
  refine ⟨C, (hb.block _ (heapLt h1)).trans h1, h2, h3, fun i hi => ?_⟩
  obtain ⟨x, y, g1, n1, g2, n2, k1, k2, k3, k4, k5⟩ := h4 i hi
  exact ⟨x, y, g1, n1, g2, n2, k1, k2, k3, k4.keep (hb.block _ k4.lt), k5.keep (hb.block _ k5.lt)⟩
/-- One block of pairs was written, and is such a one still. -/
theorem WrP.pair {N : Nat → Prop} {w w' : World} {g n gx nx : Nat} {t : TypeId} (ht : t ≠ 56) (h : WrP N w g n) (hx : PairB w gx t nx) (hx' : PairB w' gx t nx) (hg : w.grownBy w' (some gx)) : WrP N w' g n := by
  obtain ⟨C, h1, h2, h3, h4⟩ := h
  have kp : ∀ {g1 n1 : Nat} {t1 : TypeId}, PairB w g1 t1 n1 → PairB w' g1 t1 n1 := fun {g1 n1 t1} hp => by
    by_cases e : g1 = gx
    · subst e
      obtain ⟨e1, e2⟩ := hp.one hx
      subst e1 e2
      exact hx'
    · exact hp.keep (hg.block _ hp.lt (fun e2 => e (Option.some.inj e2)))
  have hgx : g ≠ gx := fun e => by
    subst e
    obtain ⟨l, hl, h5⟩ := hx
    rw [h1] at h5
    injection h5 with e
    injection e with _ e2 _
    exact ht e2.symm
  refine ⟨C, (hg.block _ (heapLt h1) (fun e2 => hgx (Option.some.inj e2))).trans h1, h2, h3, fun i hi => ?_⟩
  obtain ⟨x, y, g1, n1, g2, n2, k1, k2, k3, k4, k5⟩ := h4 i hi
  exact ⟨x, y, g1, n1, g2, n2, k1, k2, k3, kp k4, kp k5⟩
theorem WrP.set {N : Nat → Prop} {w : World} {g n i o : Nat} {u : Value} (h : WrP N w g n) (_hi : i < n) (ho : o = i * 4 ∨ o = i * 4 + 1) : WrP N (w.setCell ⟨g, o, none⟩ u) g n := by
  obtain ⟨C, h1, h2, h3, h4⟩ := h
  refine ⟨_, heapSet h1, by simpa using h2, h3, fun j hj => ?_⟩
  obtain ⟨x, y, g1, n1, g2, n2, ⟨a, b, c, d⟩, k2, k3, k4, k5⟩ := h4 j hj
  have ne : ∀ {g1 n1 : Nat} {t : TypeId}, t ≠ 56 → PairB w g1 t n1 → g1 ≠ g := fun {g1 n1 t} ht hp e => by
    subst e
    obtain ⟨l, hl, h5⟩ := hp
    rw [h1] at h5
    injection h5 with e
    injection e with _ e2 _
    exact ht e2.symm
  have kp : ∀ {g1 n1 : Nat} {t : TypeId}, t ≠ 56 → PairB w g1 t n1 → PairB (w.setCell ⟨g, o, none⟩ u) g1 t n1 := fun ht hp => hp.keep (Below.heap_setCell _ _ _ _ (ne ht hp))
  have e0 : ∃ x', (C.setIfInBounds o u)[j * 4]? = some x' := ⟨_, Array.getElem?_eq_getElem (by rw [Array.size_setIfInBounds]; omega)⟩
  have e1 : ∃ x', (C.setIfInBounds o u)[j * 4 + 1]? = some x' := ⟨_, Array.getElem?_eq_getElem (by rw [Array.size_setIfInBounds]; omega)⟩
  obtain ⟨x', hx'⟩ := e0
  obtain ⟨y', hy'⟩ := e1
  refine ⟨x', y', g1, n1, g2, n2, ⟨hx', hy', ?_, ?_⟩, k2, k3, kp (by decide) k4, kp (by decide) k5⟩
  · rw [Array.getElem?_setIfInBounds_ne (by omega)]; exact c
  · rw [Array.getElem?_setIfInBounds_ne (by omega)]; exact d
/-- What lies at a place. -/
theorem WrP.at {N : Nat → Prop} {w : World} {g n i : Nat} (h : WrP N w g n) (hi : i < n) : ∃ x y g1 n1 g2 n2, (w.cell? ⟨g, i * 4, none⟩ = some x ∧ w.cell? ⟨g, i * 4 + 1, none⟩ = some y ∧ w.cell? ⟨g, i * 4 + 2, none⟩ = some (.slice (some ⟨g1, 0, none⟩) n1 n1) ∧ w.cell? ⟨g, i * 4 + 3, none⟩ = some (.slice (some ⟨g2, 0, none⟩) n2 n2)) ∧ (w.frozen? ⟨g, i * 4, none⟩ = false ∧ w.frozen? ⟨g, i * 4 + 1, none⟩ = false) ∧ (N g ∧ N g1 ∧ N g2) ∧ (n1 ≤ 1048576 ∧ n2 ≤ 1048576) ∧ PairB w g1 58 n1 ∧ PairB w g2 90 n2 := by
  obtain ⟨C, h1, h2, h3, h4⟩ := h
  obtain ⟨x, y, g1, n1, g2, n2, ⟨a, b, c, d⟩, k2, k3, k4, k5⟩ := h4 i hi
  exact ⟨x, y, g1, n1, g2, n2, ⟨by rw [cellOf h1]; exact a, by rw [cellOf h1]; exact b, by rw [cellOf h1]; exact c, by rw [cellOf h1]; exact d⟩, ⟨frozenOf h1 _, frozenOf h1 _⟩, ⟨h3, k2.1, k2.2⟩, k3, k4, k5⟩

theorem cell_other {w : World} {g o o' : Nat} {u v : Value} {t : TypeId} {C : Array Value} (h1 : w.heap[g]? = some (.cells C t (0, 0))) (hc : w.cell? ⟨g, o, none⟩ = some v) (hne : o' ≠ o) : (w.setCell ⟨g, o', none⟩ u).cell? ⟨g, o, none⟩ = some v := by
  rw [cellOf (heapSet h1), Array.getElem?_setIfInBounds_ne hne, ← cellOf h1]
  exact hc

end Go.Proofs.YtpjpgofllnnemaaDoor

/- A row of pairs of one's own is one whose blocks are of a kind. -/
namespace Go.Proofs.YtpjpgofllnnemaaDoor
open Go.RowKit

theorem PrsN.own {N : Nat → Prop} {w : World} {B : Nat} {t : TypeId} {v : Value} {l : List (Int × Int)} (h : w.ownsRow B t 2 v l.length (flat l)) (hl : l.length ≤ 1000000) (hN : ∀ b, B ≤ b → N b) : PrsN N w v l := by
  rcases own_shape h with ⟨hv, hn⟩ | ⟨g, cap, hv, hb, hg⟩
  · exact ⟨none, 0, by rw [hv, hn], by omega, fun hp => by omega⟩
  · subst hv
    refine ⟨some ⟨g, 0, none⟩, cap, rfl, by omega, fun _ => ⟨g, 0, rfl, hg, hN g hb, fun i hi => ?_⟩⟩
    obtain ⟨h0, h1⟩ := flat_at l i hi
    rw [Nat.zero_add]
    exact ⟨own_cell h _ _ h0, own_cell h _ _ h1⟩
theorem PrsN.bound {N : Nat → Prop} {w : World} {v : Value} {l : List (Int × Int)} (h : PrsN N w v l) : PrsN (fun b => N b ∧ b < w.heap.size) w v l := by
  obtain ⟨a, cap, hv, hl, hr⟩ := h
  refine ⟨a, cap, hv, hl, fun hp => ?_⟩
  obtain ⟨b, off, ha, hbs, hN, hc⟩ := hr hp
  exact ⟨b, off, ha, hbs, ⟨hN, hbs⟩, hc⟩
theorem Pks.bound {N : Nat → Prop} {w : World} {v : Value} {l : List Ix.Pg} (h : Pks N w v l) : Pks (fun b => N b ∧ b < w.heap.size) w v l := by
  obtain ⟨a, cap, hv, hl, hr⟩ := h
  refine ⟨a, cap, hv, hl, fun hp => ?_⟩
  obtain ⟨b, off, ha, hbs, hN, hc⟩ := hr hp
  refine ⟨b, off, ha, hbs, ⟨hN, hbs⟩, fun i hi => ?_⟩
  obtain ⟨fv, dv, h1, h2, h3⟩ := hc i hi
  exact ⟨fv, dv, h1, h2.bound, h3.bound⟩
theorem PrsN.weak {N N' : Nat → Prop} {w : World} {v : Value} {l : List (Int × Int)} (h : PrsN N w v l) (hN : ∀ b, N b → N' b) : PrsN N' w v l := by
  obtain ⟨a, cap, hv, hl, hr⟩ := h
  refine ⟨a, cap, hv, hl, fun hp => ?_⟩
  obtain ⟨b, off, ha, hbs, h1, hc⟩ := hr hp
  exact ⟨b, off, ha, hbs, hN b h1, hc⟩
theorem Pks.weak {N N' : Nat → Prop} {w : World} {v : Value} {l : List Ix.Pg} (h : Pks N w v l) (hN : ∀ b, N b → N' b) : Pks N' w v l := by
  obtain ⟨a, cap, hv, hl, hr⟩ := h
  refine ⟨a, cap, hv, hl, fun hp => ?_⟩
  obtain ⟨b, off, ha, hbs, h1, hc⟩ := hr hp
  refine ⟨b, off, ha, hbs, hN b h1, fun i hi => ?_⟩
  obtain ⟨fv, dv, h2, h3, h4⟩ := hc i hi
  exact ⟨fv, dv, h2, h3.weak hN, h4.weak hN⟩
theorem POwn.weak {N M : Nat → Prop} {B : Nat} {w : World} {v : Value} {l : List El} (h : POwn N B w v l) (hN : ∀ b, N b → M b) : POwn M B w v l :=
  ⟨h.own, fun e he => ⟨(h.el e he).1.weak hN, (h.el e he).2.weak hN⟩⟩
theorem POwn.later {N : Nat → Prop} {B : Nat} {w w' : World} {v : Value} {l : List El} (h : POwn N B w v l) (hb : Below w.heap.size w w') : POwn N B w' v l :=
  ⟨own_later h.own hb, fun e he => ⟨(h.el e he).1.later hb, (h.el e he).2.later hb⟩⟩
end Go.Proofs.YtpjpgofllnnemaaDoor

/- A row of packages that is answered with, all its rows its own, no two in one block: the laws' markPkgS lays marks into these blocks alone, and heldPkgS reads them again. -/
namespace Go.Proofs.YtpjpgofllnnemaaDoor
open Go.RowKit

/-- The blocks of a row of packages. -/
def blkP (v : Value) (l : List El) (g : Nat) : Prop := v.ownBlock = some g ∨ ∃ e ∈ l, e.2.1.ownBlock = some g ∨ e.2.2.ownBlock = some g
/-- Two packages lie apart. -/
def farE (a b : El) : Prop := (∀ g, a.2.1.ownBlock = some g → b.2.1.ownBlock ≠ some g) ∧ ∀ g, a.2.2.ownBlock = some g → b.2.2.ownBlock ≠ some g
structure PAns (B : Nat) (w : World) (v : Value) (l : List El) : Prop where
  own : w.ownsRow B 56 4 v l.length (flat4 l)
  el : ∀ e ∈ l, OwP B w e.2.1 e.2.2 e.1.2.2.1 e.1.2.2.2
  apart : l.Pairwise farE
theorem farE.symm {a b : El} (h : farE a b) : farE b a := ⟨fun g h1 h2 => h.1 g h2 h1, fun g h1 h2 => h.2 g h2 h1⟩
theorem PAns.lt {B : Nat} {w : World} {v : Value} {l : List El} (h : PAns B w v l) : ∀ g, blkP v l g → B ≤ g ∧ g < w.heap.size := fun g hg => by
  rcases hg with hg | ⟨e, he, hg | hg⟩
  · exact h.own.lt g hg
  · exact (h.el e he).f.lt g hg
  · exact (h.el e he).d.lt g hg
theorem PAns.keep {B : Nat} {w w' : World} {v : Value} {l : List El} (h : PAns B w v l) (hb : ∀ g, blkP v l g → w'.heap[g]? = w.heap[g]?) : PAns B w' v l :=
  ⟨own_keepS h.own (fun g _ hg _ _ => hb g (.inl hg)), fun e he => ⟨own_keepS (h.el e he).f (fun g _ hg _ _ => hb g (.inr ⟨e, he, .inl hg⟩)), own_keepS (h.el e he).d (fun g _ hg _ _ => hb g (.inr ⟨e, he, .inr hg⟩))⟩, h.apart⟩
theorem PAns.later {B : Nat} {w w' : World} {v : Value} {l : List El} (h : PAns B w v l) (hb : Below w.heap.size w w') : PAns B w' v l := h.keep (fun g hg => hb.block g (h.lt g hg).2)
theorem PAns.stays {N : Nat → Prop} {B : Nat} {w w' : World} {v : Value} {l : List El} (h : PAns B w v l) (hs : Stays N w w') (hN : ∀ g, blkP v l g → ¬ N g) : PAns B w' v l := h.keep (fun g hg => hs.block g (h.lt g hg).2 (hN g hg))
theorem PAns.base {B B' : Nat} {w : World} {v : Value} {l : List El} (h : PAns B w v l) (hB : B' ≤ B) : PAns B' w v l := ⟨own_base' h.own hB, fun e he => (h.el e he).base hB, h.apart⟩
theorem PAns.nil (B : Nat) (w : World) : PAns B w (.slice none 0 0) [] := ⟨World.ownsRow_nil _ _ _ _, fun _ he => (by cases he), List.Pairwise.nil⟩
theorem Prs.toN {w : World} {B : Nat} {t : TypeId} {v : Value} {l : List (Int × Int)} (h : w.ownsRow B t 2 v l.length (flat l)) (hl : l.length ≤ 1000) : PrsN (fun b => B ≤ b) w v l := PrsN.own h (by omega) (fun _ hb => hb)
theorem PAns.pks {B : Nat} {w : World} {v : Value} {l : List El} (h : PAns B w v l) (hl : l.length ≤ 1000) (hls : ∀ e ∈ l, e.1.2.2.1.length ≤ 1000 ∧ e.1.2.2.2.length ≤ 1000) : Pks (fun b => B ≤ b) w v (l.map (·.1)) :=
  POwn.pks (B := B) ⟨h.own, fun e he => ⟨Prs.toN (h.el e he).f (hls e he).1, Prs.toN (h.el e he).d (hls e he).2⟩⟩ (fun _ hb => hb) (by omega)
/-- One more behind, all of it new. -/
theorem PAns.snoc {B : Nat} {w w2 : World} {v v' : Value} {l : List El} {e : El} (h : PAns B w v l) (hg : w.grownBy w2 v.ownBlock) (ho : w2.ownsRow B 56 4 v' (l.length + 1) (flat4 l ++ [.int .i64 e.1.1, .int .i64 e.1.2.1, e.2.1, e.2.2]))
    (he : OwP B w e.2.1 e.2.2 e.1.2.2.1 e.1.2.2.2) (hf : ∀ x ∈ l, farE x e) : PAns B w2 v' (l ++ [e]) := by
  have kp : ∀ {fv dv : Value} {fs ds : List (Int × Int)}, OwP B w fv dv fs ds → OwP B w2 fv dv fs ds := fun hp => ⟨own_keepS hp.f (fun g _ _ _ hgg => grown_other h.own hg hgg (by decide)), own_keepS hp.d (fun g _ _ _ hgg => grown_other h.own hg hgg (by decide))⟩
  refine ⟨by rw [flat4_snoc, List.length_append]; exact ho, fun x hx => ?_, List.pairwise_append.2 ⟨h.apart, List.pairwise_singleton _ _, fun a ha b hb => by rw [List.mem_singleton] at hb; rw [hb]; exact hf a ha⟩⟩
  rcases List.mem_append.1 hx with hx | hx
  · exact kp (h.el x hx)
  · rw [List.mem_singleton] at hx
    rw [hx]
    exact kp he
/-- What is new lies apart from what was there. -/
theorem farE.new {B : Nat} {w w' : World} {a e : El} (ha : OwP B w a.2.1 a.2.2 a.1.2.2.1 a.1.2.2.2) (he : OwP w.heap.size w' e.2.1 e.2.2 e.1.2.2.1 e.1.2.2.2) : farE a e :=
  ⟨fun g h1 h2 => by have := (ha.f.lt g h1).2; have := (he.f.lt g h2).1; omega, fun g h1 h2 => by have := (ha.d.lt g h1).2; have := (he.d.lt g h2).1; omega⟩

/-- Marks. -/
def markE (k : Int) (e : El) : El := ((k, k + 1, marks (k + 1 + 1) e.1.2.2.1.length, marks (k + 1 + 1 + 2 * (e.1.2.2.1.length : Int)) e.1.2.2.2.length), e.2)
def stepE (k : Int) (e : El) : Int := k + 1 + 1 + 2 * (e.1.2.2.1.length : Int) + 2 * (e.1.2.2.2.length : Int)
def markK (k : Int) (l : List El) : Int := l.foldl stepE k
def markL : Int → List El → List El
  | _, [] => []
  | k, e :: t => markE k e :: markL (stepE k e) t
theorem markL_len : ∀ (l : List El) (k : Int), (markL k l).length = l.length
  | [], _ => rfl
  | e :: t, k => by show (markL (stepE k e) t).length + 1 = _; rw [markL_len t]; rfl
theorem markL_app : ∀ (a b : List El) (k : Int), markL k (a ++ b) = markL k a ++ markL (markK k a) b
  | [], _, _ => rfl
  | e :: t, b, k => by show markE k e :: markL (stepE k e) (t ++ b) = _; rw [markL_app t b]; rfl
theorem markK_snoc (a : List El) (e : El) (k : Int) : markK k (a ++ [e]) = stepE (markK k a) e := by unfold markK; rw [List.foldl_append]; rfl
theorem markL_blk : ∀ (l : List El) (k : Int), ∀ x ∈ markL k l, ∃ e ∈ l, x.2 = e.2
  | [], _, _, hx => by cases hx
  | e :: t, k, x, hx => by
    rcases List.mem_cons.1 hx with rfl | hx
    · exact ⟨e, List.mem_cons_self, rfl⟩
    · obtain ⟨y, hy, e2⟩ := markL_blk t _ x hx
      exact ⟨y, List.mem_cons_of_mem _ hy, e2⟩
theorem markK_le : ∀ (l : List El) (k : Int), (∀ e ∈ l, e.1.2.2.1.length ≤ 1000 ∧ e.1.2.2.2.length ≤ 1000) → k ≤ markK k l ∧ markK k l ≤ k + 5000 * l.length
  | [], _, _ => by unfold markK; simp
  | e :: t, k, h => by
    obtain ⟨h1, h2⟩ := markK_le t (stepE k e) (fun x hx => h x (List.mem_cons_of_mem _ hx))
    have h3 := h e List.mem_cons_self
    have e1 : markK k (e :: t) = markK (stepE k e) t := rfl
    rw [e1]
    unfold stepE at h1 h2 ⊢
    simp only [List.length_cons]
    omega
theorem markL_at {l : List El} {j : Nat} (k : Int) (hj : j < l.length) : (markL k l)[j]? = some (markE (markK k (l.take j)) l[j]) := by
  have e0 : l = l.take j ++ l[j] :: l.drop (j + 1) := by rw [← List.drop_eq_getElem_cons hj, List.take_append_drop]
  have e1 : markL k l = markL k (l.take j) ++ markE (markK k (l.take j)) l[j] :: markL (stepE (markK k (l.take j)) l[j]) (l.drop (j + 1)) := by
    conv => lhs; rw [e0]
    rw [markL_app]
    rfl
  rw [e1, List.getElem?_append_right (by rw [markL_len, List.length_take]; omega), markL_len, List.length_take, Nat.min_eq_left (by omega), Nat.sub_self]
  rfl
/-- The packages, the first so many of them marked. -/
def markTo (k : Int) (l : List El) (j : Nat) : List El := markL k (l.take j) ++ l.drop j
theorem markTo_len (k : Int) (l : List El) {j : Nat} (hj : j ≤ l.length) : (markTo k l j).length = l.length := by
  unfold markTo
  rw [List.length_append, markL_len, List.length_take, List.length_drop]
  omega
theorem markTo_at {k : Int} {l : List El} {j : Nat} (hj : j < l.length) : markTo k l j = markL k (l.take j) ++ l[j] :: l.drop (j + 1) ∧ markTo k l (j + 1) = markL k (l.take j) ++ markE (markK k (l.take j)) l[j] :: l.drop (j + 1) := by
  refine ⟨?_, ?_⟩
  · unfold markTo
    rw [← List.drop_eq_getElem_cons hj]
  · unfold markTo
    have : l.take (j + 1) = l.take j ++ [l[j]] := by rw [List.take_add_one, List.getElem?_eq_getElem hj]; rfl
    rw [this, markL_app, List.append_assoc]
    rfl
theorem markTo_blk {k : Int} {l : List El} {j : Nat} {v : Value} {g : Nat} (h : blkP v (markTo k l j) g) : blkP v l g := by
  rcases h with h | ⟨x, hx, h⟩
  · exact .inl h
  · refine .inr ?_
    unfold markTo at hx
    rcases List.mem_append.1 hx with hx | hx
    · obtain ⟨e, he, e2⟩ := markL_blk _ _ x hx
      exact ⟨e, List.mem_of_mem_take he, by rw [← e2]; exact h⟩
    · exact ⟨x, List.mem_of_mem_drop hx, h⟩
theorem flat4_appA (a b : List El) : flat4 (a ++ b) = flat4 a ++ flat4 b := by unfold flat4; rw [List.flatMap_append]
theorem flat4_lenA : ∀ l : List El, (flat4 l).length = l.length * 4
  | [] => rfl
  | e :: t => by
    have := flat4_lenA t
    show (Value.int .i64 e.1.1 :: .int .i64 e.1.2.1 :: e.2.1 :: e.2.2 :: flat4 t).length = _
    simp only [List.length_cons, this]
    omega
theorem flat4_mark (A T : List El) (e : El) (k : Int) : ((flat4 (A ++ e :: T)).set (A.length * 4) (.int .i64 k)).set (A.length * 4 + 1) (.int .i64 (k + 1)) = flat4 (A ++ markE k e :: T) := by
  rw [flat4_appA, flat4_appA, List.set_append_right _ _ (by rw [flat4_lenA]; exact Nat.le_refl _), List.set_append_right _ _ (by rw [flat4_lenA]; omega), flat4_lenA, Nat.sub_self, Nat.add_sub_cancel_left]
  rfl
theorem PAns.mark {B : Nat} {w w1 w2 w3 : World} {v : Value} {A T : List El} {e : El} {k : Int} (h : PAns B w v (A ++ e :: T))
    (h1 : w1.ownsRow B 56 4 v (A ++ e :: T).length (flat4 (A ++ markE k e :: T))) (g1 : w.grownBy w1 v.ownBlock)
    (h2 : w2.ownsRow B 58 2 e.2.1 e.1.2.2.1.length (flat (marks (k + 1 + 1) e.1.2.2.1.length))) (g2 : w1.grownBy w2 e.2.1.ownBlock)
    (h3 : w3.ownsRow B 90 2 e.2.2 e.1.2.2.2.length (flat (marks (k + 1 + 1 + 2 * (e.1.2.2.1.length : Int)) e.1.2.2.2.length))) (g3 : w2.grownBy w3 e.2.2.ownBlock) :
    PAns B w3 v (A ++ markE k e :: T) ∧ Stays (blkP v (A ++ e :: T)) w w3 := by
  have he : e ∈ A ++ e :: T := by simp
  have hE := h.el e he
  -- what lies apart stays
  have far : ∀ j, j < w.heap.size → v.ownBlock ≠ some j → e.2.1.ownBlock ≠ some j → e.2.2.ownBlock ≠ some j → w3.heap[j]? = w.heap[j]? := fun j hj a b c =>
    (g3.block j (Nat.lt_of_lt_of_le hj (Nat.le_trans g1.size g2.size)) (fun x => c x.symm)).trans ((g2.block j (Nat.lt_of_lt_of_le hj g1.size) (fun x => b x.symm)).trans (g1.block j hj (fun x => a x.symm)))
  obtain ⟨pA, pT, pX⟩ := List.pairwise_append.1 h.apart
  obtain ⟨pe, pT⟩ := List.pairwise_cons.1 pT
  have keepX : ∀ x, x ∈ A ++ e :: T → (farE e x) → OwP B w3 x.2.1 x.2.2 x.1.2.2.1 x.1.2.2.2 := fun x hx hf => by
    have hX := h.el x hx
    exact ⟨own_keepS hX.f (fun g _ hg _ hgg => far g (heapLt hgg) (own_ne h.own hgg (by decide)) (fun e2 => hf.1 g e2 hg) (own_ne hE.d hgg (by decide))),
      own_keepS hX.d (fun g _ hg _ hgg => far g (heapLt hgg) (own_ne h.own hgg (by decide)) (own_ne hE.f hgg (by decide)) (fun e2 => hf.2 g e2 hg))⟩
  have o2 : w3.ownsRow B 58 2 e.2.1 e.1.2.2.1.length (flat (marks (k + 1 + 1) e.1.2.2.1.length)) := own_keepS h2 (fun g _ hg _ hgg => g3.block g (heapLt hgg) (fun x => by
    have hg' := g2.block
    obtain ⟨_, c, hc⟩ := own_row hE.d g x.symm
    obtain ⟨_, c', hc'⟩ := own_row hE.f g hg
    rw [hc] at hc'
    injection hc' with hc'
    injection hc' with _ hc' _
    revert hc'
    decide))
  have oV : w3.ownsRow B 56 4 v (A ++ markE k e :: T).length (flat4 (A ++ markE k e :: T)) := by
    have el : (A ++ markE k e :: T).length = (A ++ e :: T).length := by simp
    rw [el]
    exact own_keepS h1 (fun g _ hg _ hgg => by
      obtain ⟨_, c, hc⟩ := own_row h.own g hg
      exact (g3.block g (Nat.lt_of_lt_of_le (heapLt hgg) g2.size) (fun x => own_ne hE.d hc (by decide) x.symm)).trans (g2.block g (heapLt hgg) (fun x => own_ne hE.f hc (by decide) x.symm)))
  refine ⟨⟨oV, fun x hx => ?_, ?_⟩, ⟨g3.os.trans (g2.os.trans g1.os), g3.tape.trans (g2.tape.trans g1.tape), g3.output.trans (g2.output.trans g1.output), Nat.le_trans g1.size (Nat.le_trans g2.size g3.size), fun j hj hn => far j hj (fun x => hn (.inl x)) (fun x => hn (.inr ⟨e, he, .inl x⟩)) (fun x => hn (.inr ⟨e, he, .inr x⟩))⟩⟩
  · rcases List.mem_append.1 hx with hx | hx
    · exact keepX x (List.mem_append_left _ hx) (pX x hx e List.mem_cons_self).symm
    · rcases List.mem_cons.1 hx with rfl | hx
      · refine ⟨?_, ?_⟩
        · show w3.ownsRow B _ 2 e.2.1 (marks _ _).length (flat (marks _ _))
          rw [marks_len]
          exact o2
        · show w3.ownsRow B _ 2 e.2.2 (marks _ _).length (flat (marks _ _))
          rw [marks_len]
          exact h3
      · exact keepX x (List.mem_append_right _ (List.mem_cons_of_mem _ hx)) (pe x hx)
  · refine List.pairwise_append.2 ⟨pA, List.pairwise_cons.2 ⟨fun x hx => pe x hx, pT⟩, fun a ha b hb => ?_⟩
    rcases List.mem_cons.1 hb with rfl | hb
    · exact pX a ha e List.mem_cons_self
    · exact pX a ha b (List.mem_cons_of_mem _ hb)

end Go.Proofs.YtpjpgofllnnemaaDoor
