import Derived.Test.YtnoghnkhfgiloaaDoorNamedW
import Derived.Test.YtnoghnkhfgiloaaDoorPkgOkW
import Derived.LaidEql
import Derived.Stop.Asserts
import Derived.RowKitTokens
/- What impl's words spell: a name and a number, or a place and what is in it; of numbers of one figure. -/
namespace Go.Proofs.YtnoghnkhfgiloaaDoor
open Go.RowKit

attribute [local go_sem ↓] Go.wp_at_zero Go.wp_at_succ

/-- A place and what is in it. -/
def fileS (a b : Int) : List UInt8 := [Pk.b8 (48 + a), 58, Pk.b8 (48 + b)]

end Go.Proofs.YtnoghnkhfgiloaaDoor

/- What impl.wordsOf returns: the words of a package, in a row of its own. -/
namespace Go.Proofs.YtnoghnkhfgiloaaDoor
open Go.RowKit

theorem infoStr : (Tryd.prog.info? 9).map (fun i => (i.zero, i.size, i.bytes)) = some (some (.string ⟨#[]⟩), 1, 16) := by kernel_rfl

def wordS : Nat × Int × Int → List UInt8
  | (0, a, b) => Pk.nameT a b
  | (1, a, b) => fileS a b
  | (_, a, b) => Pk.nameT a b
def fileWs (l : List (Int × Int)) : List (Nat × Int × Int) := l.map fun x => (1, x.1, x.2)
def needWs (l : List (Int × Int)) : List (Nat × Int × Int) := l.map fun x => (2, x.1, x.2)

theorem take_map (f : Int × Int → Nat × Int × Int) (l : List (Int × Int)) (k : Nat) (h : k < l.length) : (l.take (k + 1)).map f = (l.take k).map f ++ [f (Pk.fst l k, Pk.snd l k)] := by
  rw [List.take_succ_eq_append_getElem h, List.map_append]
  simp [Pk.fst, Pk.snd, h]

/-- A row of words, or of texts, stays over whatever leaves old blocks as they were. -/
theorem own1_keep {w w' : World} {B : Nat} {t : TypeId} {v : Value} {n : Nat} {xs : List Value} (h : w.ownsRow B t 1 v n xs) (hb : ∀ g, v.ownBlock = some g → w'.heap[g]? = w.heap[g]?) : w'.ownsRow B t 1 v n xs := by
  refine ⟨h.1, ?_⟩
  rcases h.2 with hn | ⟨g, cap, cur, rfl, hb1, hgg, rest⟩
  · exact .inl hn
  · exact .inr ⟨g, cap, cur, rfl, hb1, by rw [hb g rfl]; exact hgg, rest⟩
theorem own1_later {w w' : World} {B : Nat} {t : TypeId} {v : Value} {n : Nat} {xs : List Value} (h : w.ownsRow B t 1 v n xs) (hb : Below w.heap.size w w') : w'.ownsRow B t 1 v n xs :=
  own1_keep h (fun g hg => hb.block g (h.lt g hg).2)
theorem one_word (w : World) (v : Value) (t : TypeId) (B : Nat) (hB : B ≤ w.heap.size) : (w.alloc (.cells #[v] t)).ownsRow B t 1 (.slice (some ⟨w.heap.size, 0, none⟩) 1 1) 1 [v] :=
  ⟨rfl, .inr ⟨w.heap.size, 1, #[v], rfl, hB, heap_alloc_new w _, Nat.le_refl _, by unfold maxLen; omega, rfl, rfl⟩⟩
theorem sz1w (w : World) (o : Obj) : (w.alloc o).heap.size = w.heap.size + 1 := by simp

end Go.Proofs.YtnoghnkhfgiloaaDoor

/- What errors.Is answers of nothing, and of the one error itself: no, and yes. -/
namespace Go.Proofs.YtnoghnkhfgiloaaDoor
open Go.RowKit Go.Extern.Stop Go.Stop Go.Extern

def cmpX := Extern.ReflectliteType.method fun t => do Extern.Rtype.noPackHeld "Comparable" t; pure (.bool (← typeInfo t).comparable)
theorem isComparable (w : World) : (cmpX #[.agg #[.pointer (some ⟨7, 128, none⟩)]]).run Tryd.prog w = .ok (.bool true) w := by kernel_rfl
theorem isComp : (Tryd.prog.info? 128).map (·.comparable) = some true := by kernel_rfl
theorem isSize : (Tryd.prog.info? 130).map (·.size) = some 1 := by kernel_rfl

end Go.Proofs.YtnoghnkhfgiloaaDoor
