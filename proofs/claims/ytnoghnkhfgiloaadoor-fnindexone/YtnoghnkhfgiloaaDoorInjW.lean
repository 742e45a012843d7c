/- Boxes that hold a package, and what a text that is not empty says of it. -/
import Derived.Test.YtnoghnkhfgiloaaDoorPkgOkW
import Derived.Test.YtnoghnkhfgiloaaDoorInjMath
import Derived.Laws.StructEq
namespace Go.Proofs.YtnoghnkhfgiloaaDoor
open Go.RowKit

/-- A box of four stays over whatever leaves old blocks as they were. -/
def Box (w : World) (b : Nat) (x0 x1 x2 x3 : Value) : Prop := b < w.heap.size ∧ w.cell? ⟨b, 0, none⟩ = some x0 ∧ w.cell? ⟨b, 1, none⟩ = some x1 ∧ w.cell? ⟨b, 2, none⟩ = some x2 ∧ w.cell? ⟨b, 3, none⟩ = some x3
theorem Box.later {w w' : World} {b : Nat} {x0 x1 x2 x3 : Value} (h : Box w b x0 x1 x2 x3) (hb : Below w.heap.size w w') : Box w' b x0 x1 x2 x3 :=
  ⟨Nat.lt_of_lt_of_le h.1 hb.size, (hb.cell h.1).trans h.2.1, (hb.cell h.1).trans h.2.2.1, (hb.cell h.1).trans h.2.2.2.1, (hb.cell h.1).trans h.2.2.2.2⟩
theorem Box.new (w : World) (x0 x1 x2 x3 : Value) (t : TypeId) : Box (w.alloc (.cells #[x0, x1, x2, x3] t)) w.heap.size x0 x1 x2 x3 := by
  obtain ⟨z, a, b, c, d⟩ := box4 w x0 x1 x2 x3 t
  exact ⟨by rw [z]; exact Nat.lt_succ_self _, a, b, c, d⟩

theorem ok_of {nm vr : Int} {fs ds : List (Int × Int)} {s : ByteArray} (hs : (⟨(Pk.text nm vr fs ds).toArray⟩ : ByteArray) = s) (h : s.toList.isEmpty = false) : Pk.pkgOk nm vr fs ds = true := by
  cases ho : Pk.pkgOk nm vr fs ds
  · rw [← hs, Pk.text_nil.2 ho, ByteArray.toList_eq] at h
    cases h
  · rfl

theorem Prs.nil (w : World) : Prs w (.slice none 0 0) [] := ⟨none, 0, rfl, by simp, fun h => by simp at h⟩
theorem beq_no {s t : ByteArray} (h : ¬ s = t) : (s == t) = false := by rw [beq_toListBytes, ByteArray.toList_eq, ByteArray.toList_eq]; exact beq_eq_false_iff_ne.2 (fun e => h (ByteArray.ext (Array.ext' e)))
theorem beq_yes (s : ByteArray) : (s == s) = true := by rw [beq_toListBytes]; exact beq_self_eq_true _
theorem arr_inj {a b : List UInt8} (h : (⟨a.toArray⟩ : ByteArray) = ⟨b.toArray⟩) : a = b := by
  have := congrArg (fun b : ByteArray => b.data.toList) h
  simpa using this
end Go.Proofs.YtnoghnkhfgiloaaDoor
