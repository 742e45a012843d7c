import Derived.Test.YtoccijcngncghaaDoorMix5
import Derived.Maps.OwnSet
import Derived.Test.YtoccijcngncghaaDoorMix2
import Derived.Deep.DrawnRows
/- What impl's set of keys answers: setOf makes it, has and countOf ask it; impl.KeysBoth and spec.KeysBoth: how many keys are among both, -1 if one is not ok; for every two rows of numbers; nothing old is written. -/
namespace Go.Proofs.YtoccijcngncghaaDoor
open Go.RowKit Go.Maps

theorem lawK : Keyed Tryd.prog 3 := int_keyed Tryd.underlying3
/-- The set of keys, as data. -/
def Kd (l : List Int) : DataW Unit := setOf (.agg []) (l.map (Lit.int .i64))
theorem Kd_zero : Kd [] = .map [] := rfl
theorem Kd_snoc (l : List Int) (k : Nat) (hk : k < l.length) : Kd (l.take (k + 1)) = (Kd (l.take k)).put (.int .i64 (Ky.nth l k)) (.agg []) := by
  unfold Kd
  rw [List.take_add_one, List.map_append, Ky.nth_get l k hk]
  simp only [hk, getElem?_pos, Option.toList_some, List.map_cons, List.map_nil]
  exact setOf_snoc _ _ _
theorem has_Kd (l : List Int) (x : Int) : Maps.has (Kd l) (.int .i64 x) = l.contains x := by
  unfold Kd
  rw [has_setOf _ _ _ (by intro y hy; obtain ⟨z, _, rfl⟩ := List.mem_map.1 hy; trivial), List.any_map, List.contains_eq_any_beq]
  congr 1
  funext y
  simp [Lit.sameKey]
  by_cases h : x = y
  · subst h; simp
  · rw [beq_eq_false_iff_ne.2 h, decide_eq_false (fun e => h e.symm)]

/-- A world that holds the set. -/
def Own (w : World) (b : Nat) (l : List Int) : Prop := w.ownsMap Tryd.prog 3 (unitElem (H := Unit)) b l.length (Kd l)
theorem Own.later {w w' : World} {b : Nat} {l : List Int} (h : Own w b l) (hb : Below w.heap.size w w') : Own w' b l := by
  have hlt := World.ownsMap.lt h
  obtain ⟨es, clock, h1, h2⟩ := h
  exact ⟨es, clock, by rw [hb.block _ hlt]; exact h1, h2⟩

theorem wf_small {x : Int} (h0 : -1000 ≤ x) (h1 : x ≤ 1000) : (Lit.int .i64 x).wf = true := WalkArith.wf_i64 (by omega)

theorem small_ok {l : List Int} (h : Ky.keysOk l = true) : (∀ i, i < l.length → 1 ≤ Ky.nth l i ∧ Ky.nth l i ≤ 6) ∧ l.length ≤ 1000 := ⟨(Ky.good_get h).1, Nat.le_trans (Ky.ok_len h) (by omega)⟩

theorem Ins.one (w : World) (x : Int) (t : TypeId) : Ins (w.alloc (.cells #[.int .i64 x] t)) (.slice (some ⟨w.heap.size, 0, none⟩) 1 1) [x] :=
  ⟨_, _, rfl, by simp, fun _ => ⟨w.heap.size, 0, rfl, by simp, fun i hi => by
    obtain rfl : i = 0 := by simpa using hi
    rw [World.cell?_alloc_new]
    rfl⟩⟩
end Go.Proofs.YtoccijcngncghaaDoor

/- What spec's and impl's RootOk, RootSigned and RootNext return: whether a root is ok, whether enough of its keys signed, whether a root may come behind another one; for every root and row of numbers; nothing old is written. -/
namespace Go.Proofs.YtoccijcngncghaaDoor
open Go.RowKit

attribute [local go_sem ↓] Go.wp_at_zero Go.wp_at_succ

/-- What a box of three holds, in its own world. -/
theorem box3 (w : World) (a b c : Value) (t : TypeId) : (w.alloc (.cells #[a, b, c] t)).heap.size = w.heap.size + 1 ∧ (w.alloc (.cells #[a, b, c] t)).cell? ⟨w.heap.size, 0, none⟩ = some a ∧ (w.alloc (.cells #[a, b, c] t)).cell? ⟨w.heap.size, 1, none⟩ = some b ∧ (w.alloc (.cells #[a, b, c] t)).cell? ⟨w.heap.size, 2, none⟩ = some c :=
  ⟨by simp, by rw [World.cell?_alloc_new]; rfl, by rw [World.cell?_alloc_new]; rfl, by rw [World.cell?_alloc_new]; rfl⟩
theorem box4i (w : World) (a b c d : Value) (t : TypeId) : (w.alloc (.cells #[a, b, c, d] t)).heap.size = w.heap.size + 1 ∧ (w.alloc (.cells #[a, b, c, d] t)).cell? ⟨w.heap.size, 0, none⟩ = some a ∧ (w.alloc (.cells #[a, b, c, d] t)).cell? ⟨w.heap.size, 1, none⟩ = some b ∧ (w.alloc (.cells #[a, b, c, d] t)).cell? ⟨w.heap.size, 2, none⟩ = some c ∧ (w.alloc (.cells #[a, b, c, d] t)).cell? ⟨w.heap.size, 3, none⟩ = some d :=
  ⟨by simp, by rw [World.cell?_alloc_new]; rfl, by rw [World.cell?_alloc_new]; rfl, by rw [World.cell?_alloc_new]; rfl, by rw [World.cell?_alloc_new]; rfl⟩

/-- A root in a box, and its keys. -/
structure Bx (w : World) (g : Nat) (n d : Int) (v : Value) (k : List Int) : Prop where
  lt : g < w.heap.size
  c0 : w.cell? ⟨g, 0, none⟩ = some (.int .i64 n)
  c1 : w.cell? ⟨g, 1, none⟩ = some v
  c2 : w.cell? ⟨g, 2, none⟩ = some (.int .i64 d)
  ins : Ins w v k
theorem Bx.later {w w' : World} {g : Nat} {n d : Int} {v : Value} {k : List Int} (h : Bx w g n d v k) (hb : Below w.heap.size w w') : Bx w' g n d v k :=
  ⟨Nat.lt_of_lt_of_le h.lt hb.size, (hb.cell h.lt).trans h.c0, (hb.cell h.lt).trans h.c1, (hb.cell h.lt).trans h.c2, h.ins.later hb⟩
theorem Bx.new {w : World} {n d : Int} {v : Value} {k : List Int} (h : Ins w v k) (t : TypeId) : Bx (w.alloc (.cells #[.int .i64 n, v, .int .i64 d] t)) w.heap.size n d v k := by
  obtain ⟨z, x0, x1, x2⟩ := box3 w (.int .i64 n) v (.int .i64 d) t
  exact ⟨by omega, x0, x1, x2, h.later (below1 _ _)⟩

theorem Bx.cells {w : World} {g : Nat} {n d : Int} {v : Value} {k : List Int} (h : Bx w g n d v k) : w.cell? ⟨g, 0, none⟩ = some (.int .i64 n) ∧ w.cell? ⟨g, 1, none⟩ = some v ∧ w.cell? ⟨g, 2, none⟩ = some (.int .i64 d) := ⟨h.c0, h.c1, h.c2⟩
theorem Bx.drew {w : World} {g : Nat} {n d : Int} {v : Value} {k : List Int} (h : Bx w g n d v k) : Bx w.drew g n d v k := ⟨h.lt, h.c0, h.c1, h.c2, h.ins⟩

theorem rootOk_keys {n d : Int} {k : List Int} (h : Ky.rootOk n k d = true) : Ky.keysOk k = true := by unfold Ky.rootOk at h; rw [Bool.and_eq_true, Bool.and_eq_true] at h; exact h.1.2

end Go.Proofs.YtoccijcngncghaaDoor
