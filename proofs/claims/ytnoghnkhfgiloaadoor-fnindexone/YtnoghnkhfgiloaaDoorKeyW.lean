/- What spec.KeysOk, impl.KeysOk and spec.l2Both return: whether keys are ok; how many are among both; for every row of numbers; nothing old is written. -/
import Derived.Test.YtnoghnkhfgiloaaDoorMathW
import Derived.Test.YtnoghnkhfgiloaaDoorInW
import Derived.Test.YtnoghnkhfgiloaaDoorBetweenW
namespace Go.Proofs.YtnoghnkhfgiloaaDoor
open Go.RowKit

theorem infoI : (Tryd.prog.info? 3).map (fun i => (i.zero, i.size, i.bytes)) = some (some (.int .i64 0), 1, 8) := by kernel_rfl

/-- A slice of ints that can be read. -/
def Ins (w : World) (v : Value) (l : List Int) : Prop :=
  ∃ a cap, v = .slice a l.length cap ∧ l.length ≤ 1000000000000 ∧ (0 < l.length → ∃ b off, a = some ⟨b, off, none⟩ ∧ b < w.heap.size ∧ ∀ i, i < l.length → w.cell? ⟨b, off + i, none⟩ = some (.int .i64 (Ky.nth l i)))

theorem Ins.later {w w' : World} {v : Value} {l : List Int} (h : Ins w v l) (hb : Below w.heap.size w w') : Ins w' v l := by
  obtain ⟨a, cap, hv, hl, hr⟩ := h
  refine ⟨a, cap, hv, hl, fun hp => ?_⟩
  obtain ⟨b, off, ha, hbs, hc⟩ := hr hp
  exact ⟨b, off, ha, Nat.lt_of_lt_of_le hbs hb.size, fun i hi => by rw [hb.cell hbs]; exact hc i hi⟩
theorem Ins.slice {w : World} {v : Value} {l : List Int} (h : Ins w v l) : ∃ a cap, v = .slice a l.length cap := by
  obtain ⟨a, cap, hv, _⟩ := h
  exact ⟨a, cap, hv⟩
theorem Ins.nil (w : World) : Ins w (.slice none 0 0) [] := ⟨none, 0, rfl, by simp, fun h => by simp at h⟩
theorem Ins.drewN {w : World} {v : Value} {l : List Int} (h : Ins w v l) (q : Nat) : Ins (w.drewN q) v l := h
theorem Ins.drew {w : World} {v : Value} {l : List Int} (h : Ins w v l) : Ins w.drew v l := h



end Go.Proofs.YtnoghnkhfgiloaaDoor
