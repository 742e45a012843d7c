import Derived.Test.YtoccijcngncghaaGreatDoorMix17
import Derived.Test.YtoccijcngncghaaGreatDoorMix4
import Derived.Test.YtoccijcngncghaaGreatDoorAnsPW
import Derived.Test.YtoccijcngncghaaGreatDoorMix15
import Derived.Test.YtoccijcngncghaaGreatDoorMix11
import Derived.Test.YtoccijcngncghaaGreatDoorMix6
import Derived.ProofKit
import Derived.ChangeSlices
/- What the laws' markRoot, heldRoot, markIndex, heldIndex, markTrust and heldTrust do: marks are laid into the rows, and nowhere else; they are read again. -/
namespace Go.Proofs.YtoccijcngncghaaGreatDoor
open Go.RowKit

/-- All that was there stays but blocks among N. -/
structure Fr (N : Nat → Prop) (w w' : World) : Prop where
  os : w'.os = w.os
  tape : w'.tape = w.tape
  output : w'.output = w.output
  size : w.heap.size ≤ w'.heap.size
  block : ∀ k, k < w.heap.size → ¬ N k → w'.heap[k]? = w.heap[k]?
theorem Fr.trans {N M : Nat → Prop} {w w1 w2 : World} (h : Fr N w w1) (h2 : Fr M w1 w2) : Fr (fun k => N k ∨ M k) w w2 :=
  ⟨h2.os.trans h.os, h2.tape.trans h.tape, h2.output.trans h.output, Nat.le_trans h.size h2.size, fun k hk hn => (h2.block k (Nat.lt_of_lt_of_le hk h.size) (fun hm => hn (.inr hm))).trans (h.block k hk (fun hm => hn (.inl hm)))⟩
theorem Fr.of_below {N : Nat → Prop} {w w' : World} (h : Below w.heap.size w w') : Fr N w w' := ⟨h.os, h.tape, h.output, h.size, fun k hk _ => h.block k hk⟩
theorem Fr.of_grown {w w' : World} {r : Option Nat} (h : w.grownBy w' r) : Fr (fun k => r = some k) w w' := ⟨h.os, h.tape, h.output, h.size, fun k hk hn => h.block k hk (fun e => hn e.symm)⟩
theorem Fr.weak {N M : Nat → Prop} {w w' : World} (h : Fr N w w') (hm : ∀ k, N k → M k) : Fr M w w' := ⟨h.os, h.tape, h.output, h.size, fun k hk hn => h.block k hk (fun hx => hn (hm k hx))⟩
theorem Fr.below {N : Nat → Prop} {B : Nat} {w w' : World} (h : Fr N w w') (hB : B ≤ w.heap.size) (hN : ∀ k, N k → B ≤ k) : Below B w w' :=
  ⟨h.os, h.tape, h.output, h.size, fun k hk => h.block k (by omega) (fun hn => by have := hN k hn; omega)⟩
theorem Fr.own {N : Nat → Prop} {w w' : World} {B sz n : Nat} {t : TypeId} {v : Value} {xs : List Value} (h : Fr N w w') (ho : w.ownsRow B t sz v n xs) (hN : ∀ k, v.ownBlock = some k → ¬ N k) : w'.ownsRow B t sz v n xs :=
  own_keepS ho (fun g _ e _ hg => h.block g (heapLt hg) (hN g e))

/-- A row of numbers and a row of metas are not one. -/
theorem own_two {w : World} {B C : Nat} {v u : Value} {l : List Int} {m : List Ix.M} (h : OwI B w v l) (h2 : OwM C w u m) : ∀ k, v.ownBlock = some k → ¬ u.ownBlock = some k := by
  intro k hv hu
  obtain ⟨_, c, hc⟩ := own_row h k hv
  obtain ⟨_, c2, hc2⟩ := own_row h2 k hu
  rw [hc] at hc2
  injection hc2 with hc2
  injection hc2 with _ hc2 _
  revert hc2
  decide
end Go.Proofs.YtoccijcngncghaaGreatDoor

/- Packages in order, as plain data: one more in its place keeps the order. -/
namespace Go.Proofs.YtoccijcngncghaaGreatDoor.Ix
open Pk

theorem pg_get {l : List Pg} {i : Nat} (hi : i < l.length) : pg l i = l[i] := by
  unfold pg
  rw [List.getD_eq_getElem?_getD, List.getElem?_eq_getElem hi]
  rfl
theorem ahead_trans {a b c : Pg} (h1 : ahead a b = true) (h2 : ahead b c = true) : ahead a c = true := by
  unfold ahead less at *
  simp only [Bool.or_eq_true, Bool.and_eq_true, decide_eq_true_eq] at *
  omega
theorem pkgsOk_pair {l : List Pg} : pkgsOk l = true ↔ (∀ x ∈ l, pOk x = true) ∧ l.Pairwise (fun x y => ahead x y = true) := by
  constructor
  · intro h
    refine ⟨fun x hx => ?_, ?_⟩
    · obtain ⟨i, hi, e⟩ := List.getElem_of_mem hx
      have := pkgs_pOk h hi
      rw [pg_get hi, e] at this
      exact this
    · rw [List.pairwise_iff_getElem]
      intro i j hi hj hij
      have := pkgs_lt h hij hj
      rw [pg_get hi, pg_get hj] at this
      exact this
  · rintro ⟨h1, h2⟩
    rw [List.pairwise_iff_getElem] at h2
    refine pkgsOk_good (fun i hi => ?_)
    unfold pkgGood
    rw [h1 _ (pg_mem hi), Bool.true_and]
    rcases Nat.eq_zero_or_pos i with h0 | h0
    · rw [decide_eq_true h0, Bool.true_or]
    · have := h2 (i - 1) i (by omega) hi (by omega)
      rw [pg_get hi, pg_get (show i - 1 < l.length by omega)]
      rw [Bool.or_eq_true]
      exact .inr this
theorem wth_ok {l : List Pg} {p : Pg} (h : pkgsOk l = true) (hp : pOk p = true) : pkgsOk (wth l p) = true := by
  rw [pkgsOk_pair] at h ⊢
  obtain ⟨h1, h2⟩ := h
  unfold wth
  refine ⟨fun x hx => ?_, ?_⟩
  · rw [List.mem_append, List.mem_append, List.mem_filter, List.mem_filter, List.mem_singleton] at hx
    rcases hx with (hx | hx) | hx
    · exact h1 x hx.1
    · rw [hx]; exact hp
    · exact h1 x hx.1
  · rw [List.pairwise_append, List.pairwise_append]
    refine ⟨⟨h2.filter _, List.pairwise_singleton _ _, fun a ha b hb => ?_⟩, h2.filter _, fun a ha b hb => ?_⟩
    · rw [List.mem_singleton] at hb
      rw [hb]
      exact (List.mem_filter.1 ha).2
    · have hb2 : ahead p b = true := (List.mem_filter.1 hb).2
      rw [List.mem_append, List.mem_singleton] at ha
      rcases ha with ha | ha
      · exact ahead_trans (List.mem_filter.1 ha).2 hb2
      · rw [ha]; exact hb2
end Go.Proofs.YtoccijcngncghaaGreatDoor.Ix

/- Rows of packages that are not long; what of marks' frames the exact laws use. -/
namespace Go.Proofs.YtoccijcngncghaaGreatDoor
open Go.RowKit

def small (A : List Ix.Pg) : Prop := A.length ≤ 1000 ∧ ∀ p ∈ A, p.2.2.1.length ≤ 1000 ∧ p.2.2.2.length ≤ 1000
theorem small.els {A : List Ix.Pg} (h : small A) {els : List El} (hm : els.map (·.1) = A) : els.length ≤ 1000 ∧ ∀ e ∈ els, e.1.2.2.1.length ≤ 1000 ∧ e.1.2.2.2.length ≤ 1000 :=
  ⟨by rw [← List.length_map (f := fun x : El => x.1), hm]; exact h.1, fun e he => h.2 e.1 (by rw [← hm]; exact List.mem_map.2 ⟨e, he, rfl⟩)⟩
theorem small.sub {A l : List Ix.Pg} (h : small l) (hs : ∀ p ∈ A, p ∈ l) (hl : A.length ≤ l.length) : small A := ⟨Nat.le_trans hl h.1, fun p hp => h.2 p (hs p hp)⟩
theorem small.nil : small [] := ⟨Nat.zero_le _, fun p hp => (by cases hp)⟩
theorem small_pkgs {l : List Ix.Pg} (h : Ix.pkgsOk l = true) : small l := by
  refine ⟨by have := Ix.pkgs_len h; omega, fun p hp => ?_⟩
  obtain ⟨i, hi, hie⟩ := List.getElem_of_mem hp
  have hq := Ix.pkgs_pOk h hi
  rw [Ix.pg_get hi, hie] at hq
  unfold Ix.pOk Pk.pkgOk at hq
  rw [Bool.and_eq_true, Bool.and_eq_true, Bool.and_eq_true] at hq
  have h1 := (Pk.filesOk_get hq.1.2).1
  have h2 := (Pk.depsOk_get hq.2).1
  exact ⟨by omega, by omega⟩
theorem PAns.pksA {B : Nat} {w : World} {v : Value} {els : List El} {A : List Ix.Pg} (h : PAns B w v els) (hm : els.map (·.1) = A) (hA : small A) : Pks (fun b => B ≤ b) w v A := by
  obtain ⟨h1, h2⟩ := hA.els hm
  have := h.pks h1 h2
  rw [hm] at this
  exact this
theorem PAns.fr {N : Nat → Prop} {B : Nat} {w w' : World} {v : Value} {l : List El} (h : PAns B w v l) (hs : Fr N w w') (hN : ∀ g, blkP v l g → ¬ N g) : PAns B w' v l := h.keep (fun g hg => hs.block g (h.lt g hg).2 (hN g hg))
theorem WrP.keepN {N : Nat → Prop} {w w' : World} {g n : Nat} (h : WrP N w g n) (hb : ∀ k, k < w.heap.size → N k → w'.heap[k]? = w.heap[k]?) : WrP N w' g n := by
  obtain ⟨C, h1, h2, h3, h4⟩ := h
  refine ⟨C, (hb _ (heapLt h1) h3).trans h1, h2, h3, fun i hi => ?_⟩
  obtain ⟨x, y, g1, n1, g2, n2, k1, k2, k3, k4, k5⟩ := h4 i hi
  exact ⟨x, y, g1, n1, g2, n2, k1, k2, k3, k4.keep (hb _ k4.lt k2.1), k5.keep (hb _ k5.lt k2.2)⟩
theorem WrP.fr {N M : Nat → Prop} {w w' : World} {g n : Nat} (h : WrP N w g n) (hs : Fr M w w') (hd : ∀ b, N b → ¬ M b) : WrP N w' g n := h.keepN (fun k hk hn => hs.block k hk (hd k hn))
theorem WrP.stays {N M : Nat → Prop} {w w' : World} {g n : Nat} (h : WrP N w g n) (hs : Stays M w w') (hd : ∀ b, N b → ¬ M b) : WrP N w' g n := h.keepN (fun k hk hn => hs.block k hk (hd k hn))
theorem WrP.lt {N : Nat → Prop} {w : World} {g n : Nat} (h : WrP N w g n) : g < w.heap.size := by obtain ⟨C, h1, _⟩ := h; exact heapLt h1
/-- From a world on, all that was there stays. -/
theorem Stays.belowB {N : Nat → Prop} {w w' : World} {B : Nat} (h : Stays N w w') (hB : B ≤ w.heap.size) (hN : ∀ b, b < B → ¬ N b) : Below B w w' := ⟨h.os, h.tape, h.output, h.size, fun k hk => h.block k (by omega) (hN k hk)⟩
theorem FillI.lt {w : World} {g k : Nat} {l : List Int} (h : FillI w g l k) : g < w.heap.size := by obtain ⟨C, h1, _⟩ := h; exact heapLt h1
theorem FillM.lt {w : World} {g k : Nat} {l : List Ix.M} (h : FillM w g l k) : g < w.heap.size := by obtain ⟨C, h1, _⟩ := h; exact heapLt h1
theorem FillP.lt {w : World} {g k : Nat} {l : List Ix.Pg} (h : FillP w g l k) : g < w.heap.size := by obtain ⟨C, h1, _⟩ := h; exact heapLt h1
theorem PairsIn.later {w w' : World} {x : Option Addr × Nat × Nat} (h : PairsIn w x) (hb : Below w.heap.size w w') : PairsIn w' x := ⟨h.1, fun hs => by obtain ⟨l, h1, h2⟩ := h.2 hs; exact ⟨l, h1, h2.later hb⟩⟩
theorem PkgsIn.later {w w' : World} {a : Option Addr} {n c : Nat} (h : PkgsIn w a n c) (hb : Below w.heap.size w w') : PkgsIn w' a n c := by
  refine ⟨h.1, fun hs => ?_⟩
  obtain ⟨q, hrow, hp⟩ := h.2 hs
  refine ⟨q, fun hn => ?_, fun i hi => ⟨(hp i hi).1.later hb, (hp i hi).2.later hb⟩⟩
  obtain ⟨b, off, ha, hbs, hc⟩ := hrow hn
  refine ⟨b, off, ha, Nat.lt_of_lt_of_le hbs hb.size, fun i hi => ?_⟩
  obtain ⟨c0, c1, c2, c3⟩ := hc i hi
  exact ⟨(hb.cell hbs).trans c0, (hb.cell hbs).trans c1, (hb.cell hbs).trans c2, (hb.cell hbs).trans c3⟩
end Go.Proofs.YtoccijcngncghaaGreatDoor

/- How what came in is read: a row of numbers. -/
namespace Go.Proofs.YtoccijcngncghaaGreatDoor
open Go.RowKit Go.ChangeShapes Go.WideShapes

theorem add_noneI (b off i : Nat) : (⟨b, off, none⟩ : Addr).add i = ⟨b, off + i, none⟩ := by unfold Addr.add; split <;> simp_all
theorem cellLtI {w : World} {a : Addr} {v : Value} (h : w.cell? a = some v) : a.block < w.heap.size := by
  rcases Nat.lt_or_ge a.block w.heap.size with h1 | h1
  · exact h1
  · rw [World.cell?, Array.getElem?_eq_none h1] at h; cases h

/-- What is known of a row of numbers that came in. -/
def RowIn (W : World) (a : Option Addr) (n c : Nat) : Prop := n ≤ 9223372036854775807 ∧ (n ≤ 1048576 → ∃ l : List Int, l.length = n ∧ Ins W (.slice a n c) l)

theorem open_cell {H : Type} {enc : TypeId × Value → H} {W : World} {base fuel : Nat} {spare : Nat → Bool} {held : Bool} {v : Value} {x : DataW H × List MemPlace}
    (h : DataW.trod enc Tryz.prog W base spare held fuel 24 [v] = some x) : ∃ a n c, v = .slice a n c ∧ RowIn W a n c := by
  rcases open_ints Tryz.underlying24 Tryz.underlying3 (by kernel_rfl) h with ⟨hv, _⟩ | ⟨a, len, cap, zs, hv, _, hl, hm, hz, _, hx, _⟩
  · injection hv with hv _
    exact ⟨none, 0, 0, hv, by omega, fun _ => ⟨[], rfl, Ins.nil W⟩⟩
  · injection hv with hv _
    unfold maxLen at hm
    refine ⟨some a, len, cap, hv, by omega, fun hs => ?_⟩
    have hlz : len ≤ zs.length := by rw [hz]; split <;> omega
    have hlt : (zs.take len).length = len := by rw [List.length_take]; omega
    refine ⟨zs.take len, hlt, some a, cap, by rw [hlt], by omega, fun hp => ?_⟩
    obtain ⟨b, off, spot⟩ := a
    have h0 := hx 0 (by omega)
    have hspot : spot = none := by simpa [Addr.add] using World.cell?_spot h0
    subst hspot
    refine ⟨b, off, rfl, ?_, fun i hi => ?_⟩
    · have := cellLtI h0
      rw [add_noneI] at this
      exact this
    · have hi' : i < len := by omega
      have := hx i (by omega)
      rw [add_noneI] at this
      rw [this]
      unfold Ky.nth
      rw [List.getD_eq_getElem?_getD, List.getD_eq_getElem?_getD, List.getElem?_take_of_lt hi']

set_option maxRecDepth 100000 in
theorem open_row {H : Type} {enc : TypeId × Value → H} {W : World} {base b0 : Nat} {r : Reach} {spare : Nat → Bool} {held : Bool} {v : Value} {d : DataW H} {p : List MemPlace} (hv : Value.okWide Tryz.prog W r b0 24 v)
    (h : DataW.Trod enc Tryz.prog W base spare held 24 v d p) : ∃ a n c, v = .slice a n c ∧ RowIn W a n c := by
  obtain ⟨a0, len0, cap0, rfl⟩ := okWide_slice Tryz.underlying24 hv
  obtain ⟨fuel, hf⟩ := h
  exact open_cell hf
end Go.Proofs.YtoccijcngncghaaGreatDoor
