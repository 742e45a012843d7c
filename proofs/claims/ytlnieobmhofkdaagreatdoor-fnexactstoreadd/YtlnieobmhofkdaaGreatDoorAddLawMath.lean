import Derived.Test.YtlnieobmhofkdaaGreatDoorMix38
import Derived.Test.YtlnieobmhofkdaaGreatDoorSAddW
/- What is kept newly, as data: for the laws of keeping. -/
namespace Go.Proofs.YtlnieobmhofkdaaGreatDoor
namespace Ix
theorem hasB_pOk {num til : Int} {ms : List M} {s : List UInt8} (h : hasB num til ms s = true) : pOk (hasD num til ms s) = true ∧ pText (hasD num til ms s) = s ∧ tellsP num til ms (hasD num til ms s) = true := by
  cases hh : has num til ms s with
  | none => rw [(hasD_none hh).2] at h; cases h
  | some p =>
    rw [(hasD_some hh).1]
    obtain ⟨h1, h2, h3⟩ := has_some.1 hh
    exact ⟨h1.1, h1.2, by unfold tellsP; rw [h2, decide_eq_true h3]; rfl⟩
theorem hasB_yes {num til : Int} {ms : List M} {p : Pg} (h : pOk p = true) (ht : tellsP num til ms p = true) : hasB num til ms (pText p) = true ∧ hasD num til ms (pText p) = p := by
  have h2 : has num til ms (pText p) = some p := by
    unfold has
    rw [rp_text h]
    simp [ht]
  exact ⟨(hasD_some h2).2, (hasD_some h2).1⟩
theorem hasB_bad {num til : Int} {ms : List M} {s : List UInt8} (h : idxOk num til ms = false) : hasB num til ms s = false := (hasD_none (has_bad h)).2
theorem hasB_nil {num til : Int} {ms : List M} : hasB num til ms [] = false := by
  cases h : hasB num til ms []
  · rfl
  · obtain ⟨h1, h2, _⟩ := hasB_pOk h
    have h3 := rp_text h1
    rw [h2] at h3
    revert h3
    have e : rp [] = none := by decide
    rw [e]
    intro h3
    cases h3
theorem addA_some {b : Bool} {num til : Int} {ms : List M} {l : List Pg} {s : List UInt8} (h : (addA b num til ms l s).2 = true) :
    b = true ∧ pkgsOk l = true ∧ hasB num til ms s = true ∧ found l (hasD num til ms s).1 (hasD num til ms s).2.1 = false ∧ (addA b num til ms l s).1 = wth l (hasD num til ms s) := by
  unfold addA at h ⊢
  split at h
  · rename_i hc
    rw [if_pos hc]
    unfold addD at h ⊢
    split at h
    · rename_i hd
      rw [if_pos hd]
      exact ⟨hc.1, hc.2, hd.1, hd.2, rfl⟩
    · cases h
  · cases h
theorem addA_of {b : Bool} {num til : Int} {ms : List M} {l : List Pg} {s : List UInt8} (h1 : b = true) (h2 : pkgsOk l = true) (h3 : hasB num til ms s = true) (h4 : found l (hasD num til ms s).1 (hasD num til ms s).2.1 = false) : addA b num til ms l s = (wth l (hasD num til ms s), true) := by
  rw [addA_yes h1 h2, addD_yes h3 h4]
theorem addA_no {b : Bool} {num til : Int} {ms : List M} {l : List Pg} {s : List UInt8} (h1 : b = true) (h2 : pkgsOk l = true) (h3 : hasB num til ms s = false) : addA b num til ms l s = (l, false) := by
  rw [addA_yes h1 h2, addD_no h3]
theorem pkgsOk_nil : pkgsOk [] = true := pkgsOk_pair.2 ⟨fun x hx => (by cases hx), List.Pairwise.nil⟩
theorem addA_ok {b : Bool} {num til : Int} {ms : List M} {l : List Pg} {s : List UInt8} : pkgsOk (addA b num til ms l s).1 = true := by
  cases h : (addA b num til ms l s).2
  · unfold addA at h ⊢
    split
    · rename_i hc
      rw [if_pos hc] at h
      unfold addD at h ⊢
      split
      · rename_i hd
        rw [if_pos hd] at h
        cases h
      · exact hc.2
    · exact pkgsOk_nil
  · obtain ⟨_, h2, h3, _, h5⟩ := addA_some h
    rw [h5]
    exact wth_ok h2 (hasB_pOk h3).1
theorem addA_small (b : Bool) (num til : Int) (ms : List M) (l : List Pg) (s : List UInt8) : small (addA b num til ms l s).1 := small_pkgs addA_ok
theorem noIdx_bad {num til : Int} {ms : List M} (h : Tr.noIdx num til ms = true) : idxOk num til ms = false := by
  cases hx : idxOk num til ms
  · rfl
  · unfold Tr.noIdx at h
    unfold idxOk at hx
    simp only [Bool.and_eq_true, Pk.inB, decide_eq_true_eq] at h hx
    omega
theorem ok_root {t : Tr.T} (h : t.ok = true) : Ky.rootOk t.n t.ks t.d = true ∧ (t.has = false → idxOk t.num t.til t.ms = false) := by
  unfold Tr.T.ok Tr.ok at h
  rw [Bool.and_eq_true] at h
  refine ⟨h.1, fun hh => ?_⟩
  have h2 := h.2
  rw [hh] at h2
  exact noIdx_bad h2
/-- Trust that just began keeps nothing newly. -/
theorem addA_new {t : Tr.T} {l : List Pg} {s : List UInt8} (h : t.ok = true) (hl : pkgsOk l = true) : (Tr.new t.n t.ks t.d) = (⟨t.n, t.ks, t.d, false, 0, 0, []⟩, true) ∧ addA (Tr.T.ok ⟨t.n, t.ks, t.d, false, 0, 0, []⟩) 0 0 [] l s = (l, false) := by
  have hr := (ok_root h).1
  refine ⟨by unfold Tr.new; rw [hr]; rfl, ?_⟩
  have hz : Tr.noIdx 0 0 [] = true := by decide
  exact addA_no (by unfold Tr.T.ok Tr.ok; rw [hr]; exact hz) hl (hasB_bad (noIdx_bad hz))
theorem addA_nohas {t : Tr.T} {l : List Pg} {s : List UInt8} (h : t.ok = true) (hh : t.has = false) : (addA t.ok t.num t.til t.ms l s).2 = false := by
  cases he : (addA t.ok t.num t.til t.ms l s).2
  · rfl
  · have h3 := (addA_some he).2.2.1
    rw [hasB_bad ((ok_root h).2 hh)] at h3
    cases h3
theorem addA_empty {b : Bool} {num til : Int} {ms : List M} {l : List Pg} : (addA b num til ms l []).2 = false := by
  cases he : (addA b num til ms l []).2
  · rfl
  · have h3 := (addA_some he).2.2.1
    rw [hasB_nil] at h3
    cases h3
theorem trim_wth {num til : Int} {ms : List M} {l : List Pg} {p : Pg} (h : tellsP num til ms p = true) : trim num til ms (wth l p) = wth (trim num til ms l) p := by
  unfold trim wth
  rw [List.filter_append, List.filter_append, List.filter_filter, List.filter_filter, List.filter_filter, List.filter_filter]
  have e : [p].filter (tellsP num til ms) = [p] := by simp [h]
  rw [e]
  congr 1
  · congr 1
    exact List.filter_congr fun x _ => Bool.and_comm _ _
  · exact List.filter_congr fun x _ => Bool.and_comm _ _
theorem found_sub {l m : List Pg} {n u : Int} (h : found l n u = false) (hs : ∀ x ∈ m, x ∈ l) : found m n u = false := by
  rw [found_false] at h ⊢
  exact fun p hp => h p (hs p hp)
/-- What is kept newly is kept behind trimming. -/
theorem trim_add {t : Tr.T} {l : List Pg} {s : List UInt8} (h : (addA t.ok t.num t.til t.ms l s).2 = true) :
    addA t.ok t.num t.til t.ms (trimA t l) s = (trimA t (addA t.ok t.num t.til t.ms l s).1, true) := by
  obtain ⟨h1, h2, h3, h4, h5⟩ := addA_some h
  rw [h5, trimA_yes h1 h2, trimA_yes h1 (wth_ok h2 (hasB_pOk h3).1), trim_wth (hasB_pOk h3).2.2]
  exact addA_of h1 (trim_pkgs h2) h3 (found_sub h4 (fun x hx => (List.mem_filter.1 hx).1))
theorem ahead_tri {a b : Pg} (h : named a b.1 b.2.1 = false) : ahead a b = true ∨ ahead b a = true := by
  unfold named at h
  unfold ahead less
  simp only [Bool.or_eq_true, Bool.and_eq_true, decide_eq_true_eq, Bool.and_eq_false_iff, decide_eq_false_iff_not] at *
  omega
theorem ahead_not {a b : Pg} (h : ahead a b = true) : ahead b a = false := less_not h
theorem wth_mem {l : List Pg} {p : Pg} (h : found l p.1 p.2.1 = false) (x : Pg) : x ∈ wth l p ↔ x ∈ l ∨ x = p := by
  unfold wth
  rw [List.mem_append, List.mem_append, List.mem_filter, List.mem_filter, List.mem_singleton]
  constructor
  · rintro ((h | h) | h)
    · exact .inl h.1
    · exact .inr h
    · exact .inl h.1
  · rintro (hx | hx)
    · rcases ahead_tri (found_false.1 h x hx) with h2 | h2
      · exact .inl (.inl ⟨hx, h2⟩)
      · exact .inr ⟨hx, h2⟩
    · exact .inl (.inr hx)
theorem wth_more {l : List Pg} {p : Pg} (h : found l p.1 p.2.1 = false) : (wth l p).length = l.length + 1 := by
  have hp : ∀ (l : List Pg), found l p.1 p.2.1 = false → (l.filter (fun x => ahead x p)).length + (l.filter (fun x => ahead p x)).length = l.length := by
    intro l
    induction l with
    | nil => intro _; rfl
    | cons x l ih =>
      intro h
      have hx := found_false.1 h x (List.mem_cons_self ..)
      have ih2 := ih (found_sub h (fun y hy => List.mem_cons_of_mem _ hy))
      rcases ahead_tri hx with h2 | h2
      · rw [List.filter_cons_of_pos (by simpa using h2), List.filter_cons_of_neg (by rw [ahead_not h2]; simp)]
        simp only [List.length_cons]
        omega
      · rw [List.filter_cons_of_neg (by rw [ahead_not h2]; simp), List.filter_cons_of_pos (by simpa using h2)]
        simp only [List.length_cons]
        omega
  unfold wth
  rw [List.length_append, List.length_append]
  have := hp l h
  simp only [List.length_cons, List.length_nil]
  omega
theorem named_self (p : Pg) : named p p.1 p.2.1 = true := by unfold named; simp
theorem found_wth {l : List Pg} {p : Pg} : found (wth l p) p.1 p.2.1 = true := by
  unfold found
  rw [List.any_eq_true]
  exact ⟨p, by unfold wth; simp, named_self p⟩
/-- What was kept newly is not kept newly again. -/
theorem addA_again {b : Bool} {num til : Int} {ms : List M} {l : List Pg} {s : List UInt8} (h : (addA b num til ms l s).2 = true) : (addA b num til ms (addA b num til ms l s).1 s).2 = false := by
  obtain ⟨h1, h2, h3, h4, h5⟩ := addA_some h
  rw [h5]
  rw [addA_yes h1 (wth_ok h2 (hasB_pOk h3).1), addD_is found_wth]
theorem not_in {l : List Pg} {p : Pg} (h : found l p.1 p.2.1 = false) : p ∉ l := fun hp => by
  have := found_false.1 h p hp
  rw [named_self] at this
  cases this
theorem addA_same {b : Bool} {num til : Int} {ms : List M} {l : List Pg} {s : List UInt8} (h1 : b = true) (h2 : pkgsOk l = true) (h : (addA b num til ms l s).2 = false) : (addA b num til ms l s).1 = l := by
  rw [addA_yes h1 h2] at h ⊢
  unfold addD at h ⊢
  split at h
  · cases h
  · rename_i hd
    rw [if_neg hd]
/-- Everything that is said of what was, or was not, kept newly. -/
theorem addA_all {t : Tr.T} {l A : List Pg} {s : List UInt8} {q : Bool} (ho : t.ok = true) (hl : pkgsOk l = true) (hA : addA t.ok t.num t.til t.ms l s = (A, q)) :
    (q = false → A = l) ∧ (q = true → (t.has = true ∧ hasB t.num t.til t.ms s = true) ∧ (∀ x ∈ l, x ∈ A) ∧ (hasD t.num t.til t.ms s ∈ A ∧ hasD t.num t.til t.ms s ∉ l) ∧ A.length = l.length + 1 ∧ pkgsOk A = true ∧ (addA t.ok t.num t.til t.ms A s).2 = false) := by
  constructor
  · intro h
    have := addA_same (num := t.num) (til := t.til) (ms := t.ms) (s := s) ho hl (by rw [hA]; exact h)
    rw [hA] at this
    exact this
  · intro h
    have hs : (addA t.ok t.num t.til t.ms l s).2 = true := by rw [hA]; exact h
    obtain ⟨_, _, h3, h4, h5⟩ := addA_some hs
    have hag := addA_again hs
    have hok := addA_ok (b := t.ok) (num := t.num) (til := t.til) (ms := t.ms) (l := l) (s := s)
    rw [hA] at h5 hag hok
    dsimp only at h5 hag hok
    refine ⟨⟨?_, h3⟩, fun x hx => ?_, ⟨?_, not_in h4⟩, ?_, hok, hag⟩
    · cases hh : t.has
      · rw [addA_nohas ho hh] at hs; cases hs
      · rfl
    · rw [h5]; exact (wth_mem h4 x).2 (.inl hx)
    · rw [h5]; exact (wth_mem h4 _).2 (.inr rfl)
    · rw [h5]; exact wth_more h4
end Ix
end Go.Proofs.YtlnieobmhofkdaaGreatDoor
