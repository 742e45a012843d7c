import Derived.Test.YtlidgoomlllonaaDoorStoreLessMath
import Derived.Test.YtlidgoomlllonaaDoorMathW
import Derived.Test.YtlidgoomlllonaaDoorMixB
import Derived.Test.YtlidgoomlllonaaDoorBetweenW
/- Packages as plain data: those of one name, and the newest of them. -/
namespace Go.Proofs.YtlidgoomlllonaaDoor.Ix
open Pk

def shelf (l : List Pg) (n : Int) : List Pg := l.filter (fun p => decide (p.1 = n))
def newest (l : List Pg) (n : Int) : Option Pg := (shelf l n).getLast?
def orNone : Option Pg → Pg × Bool
  | some p => (p, true)
  | none => ((0, 0, [], []), false)
def newA (l : List Pg) (n : Int) : Pg × Bool := orNone (if pkgsOk l = true then newest l n else none)
theorem take_pgs {l : List Pg} {k : Nat} (hk : k < l.length) : l.take (k + 1) = l.take k ++ [pg l k] := by
  rw [List.take_add_one]
  unfold pg
  rw [List.getD_eq_getElem?_getD, List.getElem?_eq_getElem hk]
  rfl
theorem shelf_snoc {l : List Pg} {k : Nat} (hk : k < l.length) (n : Int) : shelf (l.take (k + 1)) n = if (pg l k).1 = n then shelf (l.take k) n ++ [pg l k] else shelf (l.take k) n := by
  rw [take_pgs hk]
  unfold shelf
  rw [List.filter_append]
  by_cases h : (pg l k).1 = n
  · rw [if_pos h, List.filter_cons_of_pos (by simpa using h), List.filter_nil]
  · rw [if_neg h, List.filter_cons_of_neg (by simpa using h), List.filter_nil, List.append_nil]
theorem shelf_rest {l : List Pg} {n : Int} {i : Nat} (hi : i ≤ l.length) (h : ∀ j, i ≤ j → j < l.length → (pg l j).1 ≠ n) : shelf l n = shelf (l.take i) n := by
  have : ∀ d, i + d ≤ l.length → shelf (l.take (i + d)) n = shelf (l.take i) n := fun d => by
    induction d with
    | zero => intro _; rfl
    | succ d ih =>
      intro hd
      rw [← Nat.add_assoc, shelf_snoc (by omega), if_neg (h _ (by omega) (by omega)), ih (by omega)]
  have h2 := this (l.length - i) (by omega)
  rw [show i + (l.length - i) = l.length by omega, List.take_length] at h2
  exact h2
theorem newest_none {l : List Pg} {n : Int} (h : ∀ j, 0 ≤ j → j < l.length → (pg l j).1 ≠ n) : newest l n = none := by
  unfold newest
  rw [shelf_rest (Nat.zero_le _) h]
  rfl
theorem newest_at {l : List Pg} {n : Int} {i : Nat} (hi : i < l.length) (hn : (pg l i).1 = n) (h : ∀ j, i + 1 ≤ j → j < l.length → (pg l j).1 ≠ n) : newest l n = some (pg l i) := by
  unfold newest
  rw [shelf_rest (i := i + 1) hi h, shelf_snoc hi, if_pos hn, List.getLast?_concat]
theorem newA_bad {l : List Pg} {n : Int} (h : pkgsOk l = false) : newA l n = ((0, 0, [], []), false) := by unfold newA; rw [h]; rfl
theorem newA_none {l : List Pg} {n : Int} (h : newest l n = none) : newA l n = ((0, 0, [], []), false) := by
  unfold newA
  rw [h]
  split <;> rfl
theorem newA_some {l : List Pg} {n : Int} {p : Pg} (hk : pkgsOk l = true) (h : newest l n = some p) : newA l n = (p, true) := by
  unfold newA
  rw [h, if_pos hk]
  rfl
theorem pOk_name {p : Pg} (h : pOk p = true) : 1 ≤ p.1 ∧ p.1 ≤ 4 := by
  unfold pOk Pk.pkgOk at h
  simp only [Bool.and_eq_true, Pk.inB_true] at h
  omega
theorem shelf_mem {l : List Pg} {n : Int} {p : Pg} (h : p ∈ shelf l n) : p ∈ l ∧ p.1 = n := by
  unfold shelf at h
  rw [List.mem_filter] at h
  exact ⟨h.1, by simpa using h.2⟩
theorem newest_mem {l : List Pg} {n : Int} {p : Pg} (h : newest l n = some p) : p ∈ l ∧ p.1 = n := shelf_mem (List.mem_of_getLast? h)
end Go.Proofs.YtlidgoomlllonaaDoor.Ix

/- What spec.KeysOk, impl.KeysOk and spec.l2Both return: whether keys are ok; how many are among both; for every row of numbers; nothing old is written. -/
namespace Go.Proofs.YtlidgoomlllonaaDoor
open Go.RowKit

theorem infoI : (Tryd.prog.info? 3).map (fun i => (i.zero, i.size, i.bytes)) = some (some (.int .i64 0), 1, 8) := by kernel_rfl

/-- A slice of ints that can be read. -/
def Ins (w : World) (v : Value) (l : List Int) : Prop :=
  ∃ a cap, v = .slice a l.length cap ∧ l.length ≤ 1000000000000 ∧ (0 < l.length → ∃ b off, a = some ⟨b, off, none⟩ ∧ b < w.heap.size ∧ ∀ i, i < l.length → w.cell? ⟨b, off + i, none⟩ = some (.int .i64 (Ky.nth l i)))

theorem Ins.later {w w' : World} {v : Value} {l : List Int} (h : Ins w v l) (hb : Below w.heap.size w w') : Ins w' v l := by
  obtain ⟨a, cap, hv, hl, hr⟩ := h
  refine ⟨a, cap, hv, hl, fun hp => ?_⟩
  obtain ⟨b, off, ha, hbs, hc⟩ := hr hp
  exact ⟨b, off, ha, Nat.lt_of_lt_of_le hbs hb.size, fun i hi => by rw [hb.cell hbs]; exact hc i hi⟩
theorem Ins.slice {w : World} {v : Value} {l : List Int} (h : Ins w v l) : ∃ a cap, v = .slice a l.length cap := by
  obtain ⟨a, cap, hv, _⟩ := h
  exact ⟨a, cap, hv⟩
theorem Ins.nil (w : World) : Ins w (.slice none 0 0) [] := ⟨none, 0, rfl, by simp, fun h => by simp at h⟩
theorem Ins.drewN {w : World} {v : Value} {l : List Int} (h : Ins w v l) (q : Nat) : Ins (w.drewN q) v l := h
theorem Ins.drew {w : World} {v : Value} {l : List Int} (h : Ins w v l) : Ins w.drew v l := h



end Go.Proofs.YtlidgoomlllonaaDoor
