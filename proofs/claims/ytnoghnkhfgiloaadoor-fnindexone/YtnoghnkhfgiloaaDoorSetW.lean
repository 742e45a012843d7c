/- What impl's set of keys answers: setOf makes it, has and countOf ask it; impl.KeysBoth and spec.KeysBoth: how many keys are among both, -1 if one is not ok; for every two rows of numbers; nothing old is written. -/
import Derived.Test.YtnoghnkhfgiloaaDoorKeyW
import Derived.Maps.OwnSet
namespace Go.Proofs.YtnoghnkhfgiloaaDoor
open Go.RowKit Go.Maps

theorem lawK : Keyed Tryd.prog 3 := int_keyed Tryd.underlying3
/-- The set of keys, as data. -/
def Kd (l : List Int) : DataW Unit := setOf (.agg []) (l.map (Lit.int .i64))
theorem Kd_zero : Kd [] = .map [] := rfl
theorem Kd_snoc (l : List Int) (k : Nat) (hk : k < l.length) : Kd (l.take (k + 1)) = (Kd (l.take k)).put (.int .i64 (Ky.nth l k)) (.agg []) := by
  unfold Kd
  rw [List.take_add_one, List.map_append, Ky.nth_get l k hk]
  simp only [hk, getElem?_pos, Option.toList_some, List.map_cons, List.map_nil]
  exact setOf_snoc _ _ _
theorem has_Kd (l : List Int) (x : Int) : Maps.has (Kd l) (.int .i64 x) = l.contains x := by
  unfold Kd
  rw [has_setOf _ _ _ (by intro y hy; obtain ⟨z, _, rfl⟩ := List.mem_map.1 hy; trivial), List.any_map, List.contains_eq_any_beq]
  congr 1
  funext y
  simp [Lit.sameKey]
  by_cases h : x = y
  · subst h; simp
  · rw [beq_eq_false_iff_ne.2 h, decide_eq_false (fun e => h e.symm)]

/-- A world that holds the set. -/
def Own (w : World) (b : Nat) (l : List Int) : Prop := w.ownsMap Tryd.prog 3 (unitElem (H := Unit)) b l.length (Kd l)
theorem Own.later {w w' : World} {b : Nat} {l : List Int} (h : Own w b l) (hb : Below w.heap.size w w') : Own w' b l := by
  have hlt := World.ownsMap.lt h
  obtain ⟨es, clock, h1, h2⟩ := h
  exact ⟨es, clock, by rw [hb.block _ hlt]; exact h1, h2⟩

theorem wf_small {x : Int} (h0 : -1000 ≤ x) (h1 : x ≤ 1000) : (Lit.int .i64 x).wf = true := WalkArith.wf_i64 (by omega)

theorem small_ok {l : List Int} (h : Ky.keysOk l = true) : (∀ i, i < l.length → 1 ≤ Ky.nth l i ∧ Ky.nth l i ≤ 6) ∧ l.length ≤ 1000 := ⟨(Ky.good_get h).1, Nat.le_trans (Ky.ok_len h) (by omega)⟩

theorem Ins.one (w : World) (x : Int) (t : TypeId) : Ins (w.alloc (.cells #[.int .i64 x] t)) (.slice (some ⟨w.heap.size, 0, none⟩) 1 1) [x] :=
  ⟨_, _, rfl, by simp, fun _ => ⟨w.heap.size, 0, rfl, by simp, fun i hi => by
    obtain rfl : i = 0 := by simpa using hi
    rw [World.cell?_alloc_new]
    rfl⟩⟩
end Go.Proofs.YtnoghnkhfgiloaaDoor
