import Derived.Test.YtlnieobmhofkdaaGreatMix18
import Derived.Test.YtlnieobmhofkdaaGreatMix4
import Derived.Test.YtlnieobmhofkdaaGreatMix10
/- What is kept of packages when just those stay of which an index tells, as plain data. -/
namespace Go.Proofs.YtlnieobmhofkdaaGreat.Ix
open Pk

def trim (num til : Int) (ms : List M) (l : List Pg) : List Pg := l.filter (tellsP num til ms)
theorem trim_snoc {num til : Int} {ms : List M} {l : List Pg} {k : Nat} (hk : k < l.length) : trim num til ms (l.take (k + 1)) = if tellsP num til ms (pg l k) = true then trim num til ms (l.take k) ++ [pg l k] else trim num til ms (l.take k) := by
  rw [take_pgs hk]
  unfold trim
  rw [List.filter_append]
  cases h : tellsP num til ms (pg l k)
  · rw [List.filter_cons_of_neg (by rw [h]; simp), List.filter_nil, List.append_nil, if_neg (by simp)]
  · rw [List.filter_cons_of_pos h, List.filter_nil, if_pos rfl]
theorem trim_len (num til : Int) (ms : List M) (l : List Pg) (k : Nat) : (trim num til ms (l.take k)).length ≤ k :=
  Nat.le_trans (List.length_filter_le _ _) (by rw [List.length_take]; omega)
theorem pks_pOk {l : List Pg} (h : pkgsOk l = true) {k : Nat} (hk : k < l.length) : pOk (pg l k) = true := by
  have := pkgsOk_at h k hk
  unfold pkgGood at this
  rw [Bool.and_eq_true] at this
  exact this.1
/-- What is told of the text of one that is kept is that one. -/
theorem has_kept {num til : Int} {ms : List M} {l : List Pg} (h : pkgsOk l = true) {k : Nat} (hk : k < l.length) :
    hasB num til ms (pText (pg l k)) = tellsP num til ms (pg l k) ∧ (tellsP num til ms (pg l k) = true → hasD num til ms (pText (pg l k)) = pg l k) := by
  have hr := rp_text (pks_pOk h hk)
  cases ht : tellsP num til ms (pg l k)
  · exact ⟨(hasD_none (has_no hr ht)).2, fun h => by cases h⟩
  · have := hasD_some (has_yes hr ht)
    exact ⟨this.2, fun _ => this.1⟩
/-- An index that is not ok tells of nothing. -/
theorem trim_bad {num til : Int} {ms : List M} (h : idxOk num til ms = false) (l : List Pg) : trim num til ms l = [] := by
  unfold trim
  rw [List.filter_eq_nil_iff]
  intro p _
  unfold tellsP
  rw [h]
  simp
end Go.Proofs.YtlnieobmhofkdaaGreat.Ix

/- Of which metas no package is kept, as plain data. -/
namespace Go.Proofs.YtlnieobmhofkdaaGreat.Ix
open Pk

def lacks (l : List Pg) (ms : List M) : List M := ms.filter (fun m => !decide (m ∈ l.map metaP))
theorem lacks_snoc {l : List Pg} {ms : List M} {k : Nat} (hk : k < ms.length) : lacks l (ms.take (k + 1)) = if (nm ms k, vr ms k, sm ms k) ∈ l.map metaP then lacks l (ms.take k) else lacks l (ms.take k) ++ [(nm ms k, vr ms k, sm ms k)] := by
  have e : ms.take (k + 1) = ms.take k ++ [(nm ms k, vr ms k, sm ms k)] := by
    rw [List.take_succ_eq_append_getElem hk]
    congr 2
    unfold nm vr sm
    rw [List.getD_eq_getElem?_getD, List.getElem?_eq_getElem hk]
    rfl
  rw [e]
  unfold lacks
  rw [List.filter_append]
  by_cases h : (nm ms k, vr ms k, sm ms k) ∈ l.map metaP
  · rw [if_pos h, List.filter_cons_of_neg (by rw [decide_eq_true h]; simp), List.filter_nil, List.append_nil]
  · rw [if_neg h, List.filter_cons_of_pos (by rw [decide_eq_false h]; rfl), List.filter_nil]
theorem lacks_len (l : List Pg) (ms : List M) (k : Nat) : (lacks l (ms.take k)).length ≤ k :=
  Nat.le_trans (List.length_filter_le _ _) (by rw [List.length_take]; omega)
theorem lack_none {l : List Pg} {n u : Int} (h : ∀ i, i < l.length → named (pg l i) n u = false) (s : Int) : (n, u, s) ∉ l.map metaP := by
  intro hm
  obtain ⟨p, hp, e⟩ := List.mem_map.1 hm
  obtain ⟨i, hi, hpi⟩ := List.getElem_of_mem hp
  have := h i hi
  rw [pg_get hi, hpi] at this
  unfold metaP at e
  injection e with e1 e2
  injection e2 with e2 e3
  unfold named at this
  rw [e1, e2] at this
  simp at this
theorem lack_some {l : List Pg} (ho : pkgsOk l = true) {n u : Int} {r : Nat} (hr : r < l.length) (h : named (pg l r) n u = true) (s : Int) : (n, u, s) ∈ l.map metaP ↔ Sm.sum (pText (pg l r)) = s := by
  have hn : (pg l r).1 = n ∧ (pg l r).2.1 = u := by
    unfold named at h
    simpa using h
  constructor
  · intro hm
    obtain ⟨p, hp, e⟩ := List.mem_map.1 hm
    obtain ⟨i, hi, hpi⟩ := List.getElem_of_mem hp
    have e0 : metaP (pg l i) = (n, u, s) := by rw [pg_get hi, hpi, e]
    have he : i = r := by
      unfold metaP at e0
      injection e0 with e1 e2
      injection e2 with e2 _
      have hc := (pkgsOk_pair.1 ho).2
      rw [List.pairwise_iff_getElem] at hc
      rcases Nat.lt_trichotomy i r with hl | he | hg
      · have := hc i r hi hr hl
        rw [← pg_get hi, ← pg_get hr] at this
        unfold ahead at this
        rw [e1, e2, hn.1, hn.2, less_self] at this
        cases this
      · exact he
      · have := hc r i hr hi hg
        rw [← pg_get hi, ← pg_get hr] at this
        unfold ahead at this
        rw [e1, e2, hn.1, hn.2, less_self] at this
        cases this
    rw [he] at e0
    unfold metaP at e0
    injection e0 with _ e2
    injection e2 with _ e3
  · intro e
    refine List.mem_map.2 ⟨pg l r, pg_mem hr, ?_⟩
    unfold metaP
    rw [hn.1, hn.2, e]
theorem lack_shelf {l : List Pg} {n u s : Int} : (n, u, s) ∈ l.map metaP ↔ ∃ p ∈ shelf l n, metaP p = (n, u, s) := by
  rw [List.mem_map]
  constructor
  · rintro ⟨p, hp, e⟩
    refine ⟨p, ?_, e⟩
    unfold shelf
    rw [List.mem_filter]
    refine ⟨hp, ?_⟩
    unfold metaP at e
    injection e with e1 _
    exact decide_eq_true e1
  · rintro ⟨p, hp, e⟩
    exact ⟨p, (List.mem_filter.1 hp).1, e⟩
end Go.Proofs.YtlnieobmhofkdaaGreat.Ix
