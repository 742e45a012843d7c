/- A text of an index, cut behind a line, and ahead of its end, as plain data. -/
import Derived.Test.YtnoghnkhfgiloaaDoorIdxReadMath
namespace Go.Proofs.YtnoghnkhfgiloaaDoor.Ix
open Pk

theorem text_end {num til : Int} {ms : List M} (h : idxOk num til ms = true) : ∃ p, text num til ms = p ++ [10] := by
  rw [text_ok h, headT_line]
  rcases List.eq_nil_or_concat ms with rfl | ⟨l, x, rfl⟩
  · exact ⟨lineH num til, by simp⟩
  · exact ⟨lineH num til ++ [10] ++ l.flatMap metaT ++ lineM x, by rw [List.concat_eq_append, List.flatMap_append, List.flatMap_cons, List.flatMap_nil, metaT_line]; simp⟩
theorem rx_noend {pre line : List UInt8} (h1 : line ≠ []) (h2 : 10 ∉ line) : rx (pre ++ line) = none := by
  rw [rx_none]
  intro num til ms h e
  obtain ⟨p, hp⟩ := text_end h
  rw [hp] at e
  obtain ⟨l, c, rfl⟩ : ∃ l c, line = l ++ [c] := by
    rcases List.eq_nil_or_concat line with h | ⟨l, c, h⟩
    · exact absurd h h1
    · exact ⟨l, c, by rw [h, List.concat_eq_append]⟩
  rw [← List.append_assoc] at e
  have := (List.append_inj' e rfl).2
  injection this with this _
  apply h2
  rw [this]
  simp
theorem rx_empty : rx [] = none := rx_none.2 (fun _ _ _ h e => text_ne h e)
theorem lineM_ne (x : M) : lineM x ≠ [] := by unfold lineM; simp
theorem lineH_ne (a b : Int) : lineH a b ≠ [] := by unfold lineH; simp
theorem cut_text {num til : Int} {ms : List M} (h : idxOk num til ms = true) : ∃ pre line, text num til ms = pre ++ line ++ [10] ∧ line ≠ [] ∧ 10 ∉ line ∧ (pre = [] ∨ ∃ p, pre = p ++ [10]) ∧ (ms.length = 0 → rx pre = none) ∧ (0 < ms.length → rx pre = some (num, til, ms.take (ms.length - 1))) := by
  obtain ⟨hn, ht, hl, hm⟩ := idxOk_get h
  rcases List.eq_nil_or_concat ms with rfl | ⟨l, x, rfl⟩
  · refine ⟨[], lineH num til, by rw [text_ok h, headT_line]; simp, lineH_ne _ _, lineH_no _ _, .inl rfl, fun _ => rx_empty, fun h => absurd h (by simp)⟩
  · rw [List.concat_eq_append] at h hm hl ⊢
    have hx := ok_mem hm x (by simp)
    have hl' : idxOk num til l = true := by
      unfold idxOk at h ⊢
      rw [Bool.and_eq_true, Bool.and_eq_true] at h ⊢
      rw [List.length_append] at hl
      exact ⟨⟨h.1.1, decide_eq_true (by omega)⟩, metasOk_prefix (List.prefix_append l [x]) hm⟩
    obtain ⟨p, hp⟩ := text_end hl'
    refine ⟨text num til l, lineM x, ?_, lineM_ne _, lineM_no hx, .inr ⟨p, hp⟩, fun h => absurd h (by simp), fun _ => ?_⟩
    · rw [text_ok h, text_ok hl', List.flatMap_append, List.flatMap_cons, List.flatMap_nil, metaT_line]
      simp
    · rw [rx_text hl']
      simp
theorem at_one {pre line : List UInt8} {k : Nat} (hno : 10 ∉ line) (hp : pre = [] ∨ ∃ p, pre = p ++ [10]) (h1 : k ≤ pre.length + line.length) (h2 : ∀ j, k ≤ j → j < pre.length + line.length → (pre ++ line ++ [10])[j]? ≠ some 10) (h3 : k = 0 ∨ (pre ++ line ++ [10])[k - 1]? = some 10) : k = pre.length := by
  rcases Nat.lt_trichotomy k pre.length with h | h | h
  · exfalso
    rcases hp with rfl | ⟨p, rfl⟩
    · simp at h
    · rw [List.length_append] at h
      simp only [List.length_cons, List.length_nil] at h
      refine h2 p.length (by omega) (by rw [List.length_append]; simp; omega) ?_
      rw [List.append_assoc, List.append_assoc, List.getElem?_append_right (Nat.le_refl _), Nat.sub_self]
      rfl
  · exact h
  · exfalso
    rcases h3 with h3 | h3
    · omega
    · rw [List.append_assoc, List.getElem?_append_right (by omega), List.getElem?_append_left (by omega)] at h3
      exact hno (List.mem_of_getElem? h3)
end Go.Proofs.YtnoghnkhfgiloaaDoor.Ix
