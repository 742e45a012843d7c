import Derived.Test.YtjehpeojdcaklaaGreatDoorMixK
import Derived.Test.YtjehpeojdcaklaaGreatDoorPkgOkW
import Derived.Test.YtjehpeojdcaklaaGreatDoorInjMath
import Derived.Laws.StructEq
import Derived.Test.YtjehpeojdcaklaaGreatDoorChecked
import Derived.Deep.RegionHeld3
/- What is changed by a byte, behind its name and version, is not what an index tells of; as plain data. -/
namespace Go.Proofs.YtjehpeojdcaklaaGreatDoor.Ix
open Pk

theorem text_head {p : Pg} (h : pOk p = true) : ∃ t, pText p = b8 (96 + p.1) :: b8 (48 + p.2.1) :: t := by
  unfold pText text
  have h' : pkgOk p.1 p.2.1 p.2.2.1 p.2.2.2 = true := h
  rw [if_pos h', textOk, nameT]
  exact ⟨_, rfl⟩
theorem pOk_get {p : Pg} (h : pOk p = true) : (1 ≤ p.1 ∧ p.1 ≤ 4) ∧ (1 ≤ p.2.1 ∧ p.2.1 ≤ 5) := by
  have h' : pkgOk p.1 p.2.1 p.2.2.1 p.2.2.2 = true := h
  unfold pkgOk at h'
  rw [Bool.and_eq_true, Bool.and_eq_true, Bool.and_eq_true, inB_true, inB_true] at h'
  exact h'.1.1
theorem b8_inj {a b : Int} (ha : 0 ≤ a ∧ a < 256) (hb : 0 ≤ b ∧ b < 256) (h : b8 a = b8 b) : a = b := by
  have := congrArg UInt8.toNat h
  unfold b8 at this
  rw [UInt8.toNat_ofNat', UInt8.toNat_ofNat'] at this
  omega
theorem metas_uni {ms : List M} (h : metasOk ms = true) {a b : M} (ha : a ∈ ms) (hb : b ∈ ms) (h1 : a.1 = b.1) (h2 : a.2.1 = b.2.1) : a = b := by
  obtain ⟨i, hi, rfl⟩ := List.getElem_of_mem ha
  obtain ⟨j, hj, rfl⟩ := List.getElem_of_mem hb
  have at' : ∀ j (hj : j < ms.length), ms[j].1 = nm ms j ∧ ms[j].2.1 = vr ms j := fun j hj => by
    unfold nm vr
    rw [List.getD_eq_getElem?_getD, List.getElem?_eq_getElem hj]
    exact ⟨rfl, rfl⟩
  rw [(at' i hi).1, (at' j hj).1] at h1
  rw [(at' i hi).2, (at' j hj).2] at h2
  rcases Nat.lt_trichotomy i j with hl | he | hg
  · exact absurd ⟨h1, h2⟩ (metas_ne h hl hj)
  · subst he; rfl
  · exact absurd ⟨h1.symm, h2.symm⟩ (metas_ne h hg hi)
/-- A byte is changed. -/
theorem byte_bad {num til : Int} {ms : List M} {s : List UInt8} {p : Pg} (h : has num til ms s = some p) {k : Nat} {c : UInt8} (h2 : 2 ≤ k) (hk : k < s.length) (hc : c ≠ s[k]) : has num til ms (s.take k ++ [c] ++ s.drop (k + 1)) = none := by
  cases hq : has num til ms (s.take k ++ [c] ++ s.drop (k + 1)) with
  | none => rfl
  | some q =>
    exfalso
    obtain ⟨⟨op, tp⟩, hi, mp⟩ := has_some.1 h
    obtain ⟨⟨oq, tq⟩, _, mq⟩ := has_some.1 hq
    have hms : metasOk ms = true := by
      unfold idxOk at hi
      rw [Bool.and_eq_true] at hi
      exact hi.2
    obtain ⟨t1, e1⟩ := text_head op
    obtain ⟨t2, e2⟩ := text_head oq
    rw [tp] at e1
    rw [tq] at e2
    obtain ⟨k', rfl⟩ : ∃ k', k = k' + 2 := ⟨k - 2, by omega⟩
    have hn : q.1 = p.1 ∧ q.2.1 = p.2.1 := by
      rw [e1] at e2
      rw [List.take_succ_cons, List.take_succ_cons, List.cons_append, List.cons_append, List.cons_append, List.cons_append] at e2
      injection e2 with f1 f2
      injection f2 with f2 _
      obtain ⟨g1, g2⟩ := pOk_get op
      obtain ⟨g3, g4⟩ := pOk_get oq
      have a1 := b8_inj (by omega) (by omega) f1
      have a2 := b8_inj (by omega) (by omega) f2
      omega
    have hu := metas_uni hms mq mp (by rw [metaP_text tq, metaP_text tp]; exact hn.1) (by rw [metaP_text tq, metaP_text tp]; exact hn.2)
    rw [metaP_text tq, metaP_text tp] at hu
    injection hu with _ hu
    injection hu with _ hu
    have es : s = s.take (k' + 2) ++ s[k' + 2] :: s.drop (k' + 2 + 1) := by
      rw [← List.drop_eq_getElem_cons hk, List.take_append_drop]
    have := Sm.sum_change (s.take (k' + 2)) (s.drop (k' + 2 + 1)) (c := s[k' + 2]) (d := c) (Ne.symm hc)
    rw [← es] at this
    apply this
    rw [← hu]
    simp
end Go.Proofs.YtjehpeojdcaklaaGreatDoor.Ix

/- Boxes that hold a package, and what a text that is not empty says of it. -/
namespace Go.Proofs.YtjehpeojdcaklaaGreatDoor
open Go.RowKit

/-- A box of four stays over whatever leaves old blocks as they were. -/
def Box (w : World) (b : Nat) (x0 x1 x2 x3 : Value) : Prop := b < w.heap.size ∧ w.cell? ⟨b, 0, none⟩ = some x0 ∧ w.cell? ⟨b, 1, none⟩ = some x1 ∧ w.cell? ⟨b, 2, none⟩ = some x2 ∧ w.cell? ⟨b, 3, none⟩ = some x3
theorem Box.later {w w' : World} {b : Nat} {x0 x1 x2 x3 : Value} (h : Box w b x0 x1 x2 x3) (hb : Below w.heap.size w w') : Box w' b x0 x1 x2 x3 :=
  ⟨Nat.lt_of_lt_of_le h.1 hb.size, (hb.cell h.1).trans h.2.1, (hb.cell h.1).trans h.2.2.1, (hb.cell h.1).trans h.2.2.2.1, (hb.cell h.1).trans h.2.2.2.2⟩
theorem Box.new (w : World) (x0 x1 x2 x3 : Value) (t : TypeId) : Box (w.alloc (.cells #[x0, x1, x2, x3] t)) w.heap.size x0 x1 x2 x3 := by
  obtain ⟨z, a, b, c, d⟩ := box4 w x0 x1 x2 x3 t
  exact ⟨by rw [z]; exact Nat.lt_succ_self _, a, b, c, d⟩

theorem ok_of {nm vr : Int} {fs ds : List (Int × Int)} {s : ByteArray} (hs : (⟨(Pk.text nm vr fs ds).toArray⟩ : ByteArray) = s) (h : s.toList.isEmpty = false) : Pk.pkgOk nm vr fs ds = true := by
  cases ho : Pk.pkgOk nm vr fs ds
  · rw [← hs, Pk.text_nil.2 ho, ByteArray.toList_eq] at h
    cases h
  · rfl

theorem Prs.nil (w : World) : Prs w (.slice none 0 0) [] := ⟨none, 0, rfl, by simp, fun h => by simp at h⟩
theorem beq_no {s t : ByteArray} (h : ¬ s = t) : (s == t) = false := by rw [beq_toListBytes, ByteArray.toList_eq, ByteArray.toList_eq]; exact beq_eq_false_iff_ne.2 (fun e => h (ByteArray.ext (Array.ext' e)))
theorem beq_yes (s : ByteArray) : (s == s) = true := by rw [beq_toListBytes]; exact beq_self_eq_true _
theorem arr_inj {a b : List UInt8} (h : (⟨a.toArray⟩ : ByteArray) = ⟨b.toArray⟩) : a = b := by
  have := congrArg (fun b : ByteArray => b.data.toList) h
  simpa using this
end Go.Proofs.YtjehpeojdcaklaaGreatDoor

/- Two laws on regions that draw their order: an operation whose guard is false is passed by; one that yields is taken, its place written out. -/
namespace Go.Proofs.YtjehpeojdcaklaaGreatDoor
section
variable {P : Program} {ops : Array Oper} {Q : Exit → Act → World → Prop} {md : Region.Mode} {S : World → Prop}
theorem anyH_skip {i : Nat} {oi : Oper} {fuel : Nat} {listed : Array Bool} {a : Act} {w : World} (hi : ops[i]? = some oi)
    (hs : Region.noSelect ops = true) (hf : Region.free md ops listed i = true) (hr : (Region.ready md ops listed).contains i = true)
    (hQ : ∀ c a w, Q (.panic c) (a.put oi.dst undef) w → Q (.panic c) a w) (hw : Region.wanted oi (yielded ops a.tmps) = false) (hp : a.put oi.dst undef = a) (hS : S w)
    (h : wpAnyH P md ops Q S fuel (listed.setIfInBounds i true) a w) : wpAnyH P md ops Q S (fuel + 1) listed a w :=
  wpAnyH_take hi hs hf hr hQ (Or.inr ⟨hw, rfl⟩) hS (by rw [hp]; exact h)
theorem anyH_at {i : Nat} {oi : Oper} {v : Value} {d : Option Tmp} {fuel : Nat} {listed : Array Bool} {a : Act} {w : World} (hi : ops[i]? = some oi) (hd : oi.dst = d)
    (hs : Region.noSelect ops = true) (hf : Region.free md ops listed i = true) (hr : (Region.ready md ops listed).contains i = true)
    (hQ : ∀ c a w, Q (.panic c) (a.put oi.dst v) w → Q (.panic c) a w) (hw : Region.wanted oi (yielded ops a.tmps) = true) (hy : ∀ w, S w → (execOp a.eval oi).run P w = .ok (.value v) w) (hS : S w)
    (h : wpAnyH P md ops Q S fuel (listed.setIfInBounds i true) (a.put d v) w) : wpAnyH P md ops Q S (fuel + 1) listed a w :=
  wpAnyH_take hi hs hf hr hQ (Or.inl ⟨hw, hy⟩) hS (by rw [hd]; exact h)
end
end Go.Proofs.YtjehpeojdcaklaaGreatDoor
