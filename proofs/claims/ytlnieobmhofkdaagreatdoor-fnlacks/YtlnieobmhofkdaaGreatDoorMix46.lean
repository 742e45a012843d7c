import Derived.Test.YtlnieobmhofkdaaGreatDoorMix38
import Derived.Test.YtlnieobmhofkdaaGreatDoorSAddW
import Derived.Test.YtlnieobmhofkdaaGreatDoorMix44
import Derived.Test.YtlnieobmhofkdaaGreatDoorMix45
import Derived.Test.YtlnieobmhofkdaaGreatDoorMix12
import Derived.Test.YtlnieobmhofkdaaGreatDoorMix14
import Derived.Test.YtlnieobmhofkdaaGreatDoorMix18
import Derived.RangeFuncBox
import Derived.OwnWalkIn
/- What is kept newly, as data: for the laws of keeping. -/
namespace Go.Proofs.YtlnieobmhofkdaaGreatDoor
namespace Ix
theorem hasB_pOk {num til : Int} {ms : List M} {s : List UInt8} (h : hasB num til ms s = true) : pOk (hasD num til ms s) = true ∧ pText (hasD num til ms s) = s ∧ tellsP num til ms (hasD num til ms s) = true := by
  cases hh : has num til ms s with
  | none => rw [(hasD_none hh).2] at h; cases h
  | some p =>
    rw [(hasD_some hh).1]
    obtain ⟨h1, h2, h3⟩ := has_some.1 hh
    exact ⟨h1.1, h1.2, by unfold tellsP; rw [h2, decide_eq_true h3]; rfl⟩
theorem hasB_yes {num til : Int} {ms : List M} {p : Pg} (h : pOk p = true) (ht : tellsP num til ms p = true) : hasB num til ms (pText p) = true ∧ hasD num til ms (pText p) = p := by
  have h2 : has num til ms (pText p) = some p := by
    unfold has
    rw [rp_text h]
    simp [ht]
  exact ⟨(hasD_some h2).2, (hasD_some h2).1⟩
theorem hasB_bad {num til : Int} {ms : List M} {s : List UInt8} (h : idxOk num til ms = false) : hasB num til ms s = false := (hasD_none (has_bad h)).2
theorem hasB_nil {num til : Int} {ms : List M} : hasB num til ms [] = false := by
  cases h : hasB num til ms []
  · rfl
  · obtain ⟨h1, h2, _⟩ := hasB_pOk h
    have h3 := rp_text h1
    rw [h2] at h3
    revert h3
    have e : rp [] = none := by decide
    rw [e]
    intro h3
    cases h3
theorem addA_some {b : Bool} {num til : Int} {ms : List M} {l : List Pg} {s : List UInt8} (h : (addA b num til ms l s).2 = true) :
    b = true ∧ pkgsOk l = true ∧ hasB num til ms s = true ∧ found l (hasD num til ms s).1 (hasD num til ms s).2.1 = false ∧ (addA b num til ms l s).1 = wth l (hasD num til ms s) := by
  unfold addA at h ⊢
  split at h
  · rename_i hc
    rw [if_pos hc]
    unfold addD at h ⊢
    split at h
    · rename_i hd
      rw [if_pos hd]
      exact ⟨hc.1, hc.2, hd.1, hd.2, rfl⟩
    · cases h
  · cases h
theorem addA_of {b : Bool} {num til : Int} {ms : List M} {l : List Pg} {s : List UInt8} (h1 : b = true) (h2 : pkgsOk l = true) (h3 : hasB num til ms s = true) (h4 : found l (hasD num til ms s).1 (hasD num til ms s).2.1 = false) : addA b num til ms l s = (wth l (hasD num til ms s), true) := by
  rw [addA_yes h1 h2, addD_yes h3 h4]
theorem addA_no {b : Bool} {num til : Int} {ms : List M} {l : List Pg} {s : List UInt8} (h1 : b = true) (h2 : pkgsOk l = true) (h3 : hasB num til ms s = false) : addA b num til ms l s = (l, false) := by
  rw [addA_yes h1 h2, addD_no h3]
theorem pkgsOk_nil : pkgsOk [] = true := pkgsOk_pair.2 ⟨fun x hx => (by cases hx), List.Pairwise.nil⟩
theorem addA_ok {b : Bool} {num til : Int} {ms : List M} {l : List Pg} {s : List UInt8} : pkgsOk (addA b num til ms l s).1 = true := by
  cases h : (addA b num til ms l s).2
  · unfold addA at h ⊢
    split
    · rename_i hc
      rw [if_pos hc] at h
      unfold addD at h ⊢
      split
      · rename_i hd
        rw [if_pos hd] at h
        cases h
      · exact hc.2
    · exact pkgsOk_nil
  · obtain ⟨_, h2, h3, _, h5⟩ := addA_some h
    rw [h5]
    exact wth_ok h2 (hasB_pOk h3).1
theorem addA_small (b : Bool) (num til : Int) (ms : List M) (l : List Pg) (s : List UInt8) : small (addA b num til ms l s).1 := small_pkgs addA_ok
theorem noIdx_bad {num til : Int} {ms : List M} (h : Tr.noIdx num til ms = true) : idxOk num til ms = false := by
  cases hx : idxOk num til ms
  · rfl
  · unfold Tr.noIdx at h
    unfold idxOk at hx
    simp only [Bool.and_eq_true, Pk.inB, decide_eq_true_eq] at h hx
    omega
theorem ok_root {t : Tr.T} (h : t.ok = true) : Ky.rootOk t.n t.ks t.d = true ∧ (t.has = false → idxOk t.num t.til t.ms = false) := by
  unfold Tr.T.ok Tr.ok at h
  rw [Bool.and_eq_true] at h
  refine ⟨h.1, fun hh => ?_⟩
  have h2 := h.2
  rw [hh] at h2
  exact noIdx_bad h2
/-- Trust that just began keeps nothing newly. -/
theorem addA_new {t : Tr.T} {l : List Pg} {s : List UInt8} (h : t.ok = true) (hl : pkgsOk l = true) : (Tr.new t.n t.ks t.d) = (⟨t.n, t.ks, t.d, false, 0, 0, []⟩, true) ∧ addA (Tr.T.ok ⟨t.n, t.ks, t.d, false, 0, 0, []⟩) 0 0 [] l s = (l, false) := by
  have hr := (ok_root h).1
  refine ⟨by unfold Tr.new; rw [hr]; rfl, ?_⟩
  have hz : Tr.noIdx 0 0 [] = true := by decide
  exact addA_no (by unfold Tr.T.ok Tr.ok; rw [hr]; exact hz) hl (hasB_bad (noIdx_bad hz))
theorem addA_nohas {t : Tr.T} {l : List Pg} {s : List UInt8} (h : t.ok = true) (hh : t.has = false) : (addA t.ok t.num t.til t.ms l s).2 = false := by
  cases he : (addA t.ok t.num t.til t.ms l s).2
  · rfl
  · have h3 := (addA_some he).2.2.1
    rw [hasB_bad ((ok_root h).2 hh)] at h3
    cases h3
theorem addA_empty {b : Bool} {num til : Int} {ms : List M} {l : List Pg} : (addA b num til ms l []).2 = false := by
  cases he : (addA b num til ms l []).2
  · rfl
  · have h3 := (addA_some he).2.2.1
    rw [hasB_nil] at h3
    cases h3
theorem trim_wth {num til : Int} {ms : List M} {l : List Pg} {p : Pg} (h : tellsP num til ms p = true) : trim num til ms (wth l p) = wth (trim num til ms l) p := by
  unfold trim wth
  rw [List.filter_append, List.filter_append, List.filter_filter, List.filter_filter, List.filter_filter, List.filter_filter]
  have e : [p].filter (tellsP num til ms) = [p] := by simp [h]
  rw [e]
  congr 1
  · congr 1
    exact List.filter_congr fun x _ => Bool.and_comm _ _
  · exact List.filter_congr fun x _ => Bool.and_comm _ _
theorem found_sub {l m : List Pg} {n u : Int} (h : found l n u = false) (hs : ∀ x ∈ m, x ∈ l) : found m n u = false := by
  rw [found_false] at h ⊢
  exact fun p hp => h p (hs p hp)
/-- What is kept newly is kept behind trimming. -/
theorem trim_add {t : Tr.T} {l : List Pg} {s : List UInt8} (h : (addA t.ok t.num t.til t.ms l s).2 = true) :
    addA t.ok t.num t.til t.ms (trimA t l) s = (trimA t (addA t.ok t.num t.til t.ms l s).1, true) := by
  obtain ⟨h1, h2, h3, h4, h5⟩ := addA_some h
  rw [h5, trimA_yes h1 h2, trimA_yes h1 (wth_ok h2 (hasB_pOk h3).1), trim_wth (hasB_pOk h3).2.2]
  exact addA_of h1 (trim_pkgs h2) h3 (found_sub h4 (fun x hx => (List.mem_filter.1 hx).1))
theorem ahead_tri {a b : Pg} (h : named a b.1 b.2.1 = false) : ahead a b = true ∨ ahead b a = true := by
  unfold named at h
  unfold ahead less
  simp only [Bool.or_eq_true, Bool.and_eq_true, decide_eq_true_eq, Bool.and_eq_false_iff, decide_eq_false_iff_not] at *
  omega
theorem ahead_not {a b : Pg} (h : ahead a b = true) : ahead b a = false := less_not h
theorem wth_mem {l : List Pg} {p : Pg} (h : found l p.1 p.2.1 = false) (x : Pg) : x ∈ wth l p ↔ x ∈ l ∨ x = p := by
  unfold wth
  rw [List.mem_append, List.mem_append, List.mem_filter, List.mem_filter, List.mem_singleton]
  constructor
  · rintro ((h | h) | h)
    · exact .inl h.1
    · exact .inr h
    · exact .inl h.1
  · rintro (hx | hx)
    · rcases ahead_tri (found_false.1 h x hx) with h2 | h2
      · exact .inl (.inl ⟨hx, h2⟩)
      · exact .inr ⟨hx, h2⟩
    · exact .inl (.inr hx)
theorem wth_more {l : List Pg} {p : Pg} (h : found l p.1 p.2.1 = false) : (wth l p).length = l.length + 1 := by
  have hp : ∀ (l : List Pg), found l p.1 p.2.1 = false → (l.filter (fun x => ahead x p)).length + (l.filter (fun x => ahead p x)).length = l.length := by
    intro l
    induction l with
    | nil => intro _; rfl
    | cons x l ih =>
      intro h
      have hx := found_false.1 h x (List.mem_cons_self ..)
      have ih2 := ih (found_sub h (fun y hy => List.mem_cons_of_mem _ hy))
      rcases ahead_tri hx with h2 | h2
      · rw [List.filter_cons_of_pos (by simpa using h2), List.filter_cons_of_neg (by rw [ahead_not h2]; simp)]
        simp only [List.length_cons]
        omega
      · rw [List.filter_cons_of_neg (by rw [ahead_not h2]; simp), List.filter_cons_of_pos (by simpa using h2)]
        simp only [List.length_cons]
        omega
  unfold wth
  rw [List.length_append, List.length_append]
  have := hp l h
  simp only [List.length_cons, List.length_nil]
  omega
theorem named_self (p : Pg) : named p p.1 p.2.1 = true := by unfold named; simp
theorem found_wth {l : List Pg} {p : Pg} : found (wth l p) p.1 p.2.1 = true := by
  unfold found
  rw [List.any_eq_true]
  exact ⟨p, by unfold wth; simp, named_self p⟩
/-- What was kept newly is not kept newly again. -/
theorem addA_again {b : Bool} {num til : Int} {ms : List M} {l : List Pg} {s : List UInt8} (h : (addA b num til ms l s).2 = true) : (addA b num til ms (addA b num til ms l s).1 s).2 = false := by
  obtain ⟨h1, h2, h3, h4, h5⟩ := addA_some h
  rw [h5]
  rw [addA_yes h1 (wth_ok h2 (hasB_pOk h3).1), addD_is found_wth]
theorem not_in {l : List Pg} {p : Pg} (h : found l p.1 p.2.1 = false) : p ∉ l := fun hp => by
  have := found_false.1 h p hp
  rw [named_self] at this
  cases this
theorem addA_same {b : Bool} {num til : Int} {ms : List M} {l : List Pg} {s : List UInt8} (h1 : b = true) (h2 : pkgsOk l = true) (h : (addA b num til ms l s).2 = false) : (addA b num til ms l s).1 = l := by
  rw [addA_yes h1 h2] at h ⊢
  unfold addD at h ⊢
  split at h
  · cases h
  · rename_i hd
    rw [if_neg hd]
/-- Everything that is said of what was, or was not, kept newly. -/
theorem addA_all {t : Tr.T} {l A : List Pg} {s : List UInt8} {q : Bool} (ho : t.ok = true) (hl : pkgsOk l = true) (hA : addA t.ok t.num t.til t.ms l s = (A, q)) :
    (q = false → A = l) ∧ (q = true → (t.has = true ∧ hasB t.num t.til t.ms s = true) ∧ (∀ x ∈ l, x ∈ A) ∧ (hasD t.num t.til t.ms s ∈ A ∧ hasD t.num t.til t.ms s ∉ l) ∧ A.length = l.length + 1 ∧ pkgsOk A = true ∧ (addA t.ok t.num t.til t.ms A s).2 = false) := by
  constructor
  · intro h
    have := addA_same (num := t.num) (til := t.til) (ms := t.ms) (s := s) ho hl (by rw [hA]; exact h)
    rw [hA] at this
    exact this
  · intro h
    have hs : (addA t.ok t.num t.til t.ms l s).2 = true := by rw [hA]; exact h
    obtain ⟨_, _, h3, h4, h5⟩ := addA_some hs
    have hag := addA_again hs
    have hok := addA_ok (b := t.ok) (num := t.num) (til := t.til) (ms := t.ms) (l := l) (s := s)
    rw [hA] at h5 hag hok
    dsimp only at h5 hag hok
    refine ⟨⟨?_, h3⟩, fun x hx => ?_, ⟨?_, not_in h4⟩, ?_, hok, hag⟩
    · cases hh : t.has
      · rw [addA_nohas ho hh] at hs; cases hs
      · rfl
    · rw [h5]; exact (wth_mem h4 x).2 (.inl hx)
    · rw [h5]; exact (wth_mem h4 _).2 (.inr rfl)
    · rw [h5]; exact wth_more h4
end Ix
end Go.Proofs.YtlnieobmhofkdaaGreatDoor

/- Of which packages an index tells that are not kept, as data. -/
namespace Go.Proofs.YtlnieobmhofkdaaGreatDoor
namespace Ix
def lacks12 (ms : List M) (l : List Pg) : List M := ms.filter (fun m => !metIn l m)
def lacksA (t : Tr.T) (l : List Pg) : List M := if t.ok = true ∧ pkgsOk l = true then lacks12 t.ms l else []
theorem lacksA_bad {t : Tr.T} {l : List Pg} (h : t.ok = false) : lacksA t l = [] := by unfold lacksA; rw [if_neg (by rw [h]; simp)]
theorem lacksA_off {t : Tr.T} {l : List Pg} (h : pkgsOk l = false) : lacksA t l = [] := by unfold lacksA; rw [if_neg (by rw [h]; simp)]
theorem lacksA_yes {t : Tr.T} {l : List Pg} (h : t.ok = true) (h2 : pkgsOk l = true) : lacksA t l = lacks12 t.ms l := by unfold lacksA; rw [if_pos ⟨h, h2⟩]
theorem lacks12_snoc (ms : List M) (m : M) (l : List Pg) : lacks12 (ms ++ [m]) l = if metIn l m = true then lacks12 ms l else lacks12 ms l ++ [m] := by
  unfold lacks12
  rw [List.filter_append]
  cases h : metIn l m
  · have e : [m].filter (fun m => !metIn l m) = [m] := by simp [h]
    rw [e]; simp
  · have e : [m].filter (fun m => !metIn l m) = [] := by simp [h]
    rw [e]; simp
theorem lacks12_le (ms : List M) (l : List Pg) : (lacks12 ms l).length ≤ ms.length := List.length_filter_le _ _
theorem met_shelf {l : List Pg} {m : M} {n : Int} (hn : m.1 = n) : metIn (shelf l n) m = metIn l m := by
  subst hn
  unfold metIn shelf
  rw [List.any_filter]
  congr 1
  funext p
  by_cases h : metaP p = m
  · have : p.1 = m.1 := by rw [← h]; rfl
    simp [h, this]
  · simp [h]
/-- Trust that is ok: what it is told of. -/
theorem ok_ms {t : Tr.T} (h : t.ok = true) : t.ms.length ≤ 8 ∧ ∀ x ∈ t.ms, (1 ≤ x.1 ∧ x.1 ≤ 4) ∧ (1 ≤ x.2.1 ∧ x.2.1 ≤ 5) ∧ (0 ≤ x.2.2 ∧ x.2.2 ≤ 9972) := by
  unfold Tr.T.ok Tr.ok at h
  rw [Bool.and_eq_true] at h
  have h2 := h.2
  cases hh : t.has
  · rw [hh] at h2
    have h3 : Tr.noIdx t.num t.til t.ms = true := h2
    unfold Tr.noIdx at h3
    simp only [Bool.and_eq_true, decide_eq_true_eq] at h3
    have hms : t.ms = [] := by
      have := h3.2
      exact List.length_eq_zero_iff.1 (by omega)
    rw [hms]
    exact ⟨Nat.zero_le _, fun x hx => by cases hx⟩
  · rw [hh] at h2
    have h3 : idxOk t.num t.til t.ms = true := h2
    unfold idxOk at h3
    simp only [Bool.and_eq_true, decide_eq_true_eq] at h3
    refine ⟨h3.1.2, fun x hx => ?_⟩
    obtain ⟨i, hi, e⟩ := List.getElem_of_mem hx
    have hg := metasOk_at h3.2 i hi
    unfold good at hg
    rw [Bool.and_eq_true] at hg
    have hm := hg.1
    have hgd : t.ms.getD i (0, 0, 0) = x := by rw [List.getD_eq_getElem?_getD, List.getElem?_eq_getElem hi, e]; rfl
    unfold mOk nm vr sm Pk.inB at hm
    rw [hgd] at hm
    simp only [Bool.and_eq_true, decide_eq_true_eq] at hm
    omega
end Ix
end Go.Proofs.YtlnieobmhofkdaaGreatDoor

/- What impl.StoreLacks returns: of what an index tells that is not kept; for all trust and all packages that can be read; nothing old is written. -/
namespace Go.Proofs.YtlnieobmhofkdaaGreatDoor
open Go.RowKit Go.Shelf

attribute [local go_sem] Oper.semAt_some

abbrev mP (x : Ix.M) : Prop := (1 ≤ x.1 ∧ x.1 ≤ 4) ∧ (1 ≤ x.2.1 ∧ x.2.1 ≤ 5) ∧ (0 ≤ x.2.2 ∧ x.2.2 ≤ 9972)

set_option maxHeartbeats 4000000 in
set_option maxRecDepth 100000 in
theorem implLacks_any {N : Nat → Prop} (w : World) (t : Tr.T) (kv mv v : Value) (l : List Ix.Pg) (hk : Ins w kv t.ks) (hm : Trs w mv t.ms) (h : Pks N w v l) :
    Calls Tryz.prog 20 #[tvT t kv mv, v] w fun e w' => ∃ u, e = .returned u ∧ OwM w.heap.size w' u (Ix.lacksA t l) ∧ Below w.heap.size w w' := by
  have hbad : t.ok = false → Ix.lacksA t l = [] := fun h => Ix.lacksA_bad h
  have hoff : Ix.pkgsOk l = false → Ix.lacksA t l = [] := fun h => Ix.lacksA_off h
  have hyes : t.ok = true → Ix.pkgsOk l = true → Ix.lacksA t l = Ix.lacks12 t.ms l := fun h1 h2 => Ix.lacksA_yes h1 h2
  have hms : t.ok = true → _ := fun h => Ix.ok_ms h
  have HA := hide (And.intro hbad (And.intro hoff (And.intro hyes hms)))
  clear hbad hoff hyes hms
  obtain ⟨n, ks, d, has, num, til, ms⟩ := t
  dsimp only at hk hm HA
  obtain ⟨ka, kc, hkv⟩ := hk.slice
  obtain ⟨ma, mc, hmv⟩ := hm.slice
  obtain ⟨va, vc, hv⟩ := h.slice
  subst hkv hmv hv
  have hlen : l.length ≤ 1000000000 := by obtain ⟨_, _, _, h, _⟩ := h; exact h
  have B0 := below1 w (.cells #[.int .i64 n, .slice ka ks.length kc, .int .i64 d, .bool has, .int .i64 num, .int .i64 til, .slice ma ms.length mc] 30)
  have HX := hide (heap_alloc_new w (.cells #[.int .i64 n, .slice ka ks.length kc, .int .i64 d, .bool has, .int .i64 num, .int .i64 til, .slice ma ms.length mc] 30))
  have IK := hide (hk.later B0)
  have IM := hide (hm.later B0)
  have IM0 := hide hm
  have PS := hide (h.later B0)
  have BW := hide B0
  have CT := hide (fun (W : World) h1 h2 => implTrustOk_any W n d (.slice ka ks.length kc) ks has num til (.slice ma ms.length mc) ms h1 h2)
  dsimp only [tvT, tv] at CT ⊢
  clear B0 hk hm h
  obtain ⟨x0, x1, x2, x3, x4, x5, x6⟩ : _ ∧ _ ∧ _ ∧ _ ∧ _ ∧ _ ∧ _ := ⟨cellOf (unhide HX) 0, cellOf (unhide HX) 1, cellOf (unhide HX) 2, cellOf (unhide HX) 3, cellOf (unhide HX) 4, cellOf (unhide HX) 5, cellOf (unhide HX) 6⟩
  cases hT : Tr.ok n ks d has num til ms
  · have HE := hide ((unhide HA).1 hT)
    rw [hT] at CT
    clear hT HA
    go_enter Tryz.func20, Tryz.ntmps20
    go_wp2_with fail
    refine (unhide CT _ (unhide IK) (unhide IM)).mono ?_
    rintro e w1 ⟨rfl, b⟩
    have BF := hide ((unhide BW).trans (b.mono (unhide BW).size))
    clear b CT HX IK IM IM0 PS BW x0 x1 x2 x3 x4 x5 x6
    go_wp2
    go_ret
    exact ⟨_, rfl, by rw [unhide HE]; exact World.ownsRow_nil _ _ _ _, unhide BF⟩
  cases hS : Ix.pkgsOk l
  · have HE := hide ((unhide HA).2.1 hS)
    rw [hT] at CT
    clear hT HA
    have CS := hide (fun (W : World) h1 => implStoreOk_any (N := N) W (.slice va l.length vc) l h1)
    rw [hS] at CS
    clear hS
    go_enter Tryz.func20, Tryz.ntmps20
    go_wp2_with fail
    refine (unhide CT _ (unhide IK) (unhide IM)).mono ?_
    rintro e w1 ⟨rfl, b⟩
    replace PS := hide ((unhide PS).later b)
    replace BW := hide ((unhide BW).trans (b.mono (unhide BW).size))
    clear b CT HX IK IM IM0 x0 x1 x2 x3 x4 x5 x6
    go_wp2_with fail
    refine (unhide CS _ (unhide PS)).mono ?_
    rintro e w2 ⟨rfl, b⟩
    have BF := hide ((unhide BW).trans (b.mono (unhide BW).size))
    clear b CS PS BW
    go_wp2
    go_ret
    exact ⟨_, rfl, by rw [unhide HE]; exact World.ownsRow_nil _ _ _ _, unhide BF⟩
  have HE := hide ((unhide HA).2.2.1 hT hS)
  obtain ⟨hml, hmem⟩ := (unhide HA).2.2.2 hT
  have HMEM := hide hmem
  rw [hT] at CT
  have CS := hide (fun (W : World) h1 => implStoreOk_any (N := N) W (.slice va l.length vc) l h1)
  rw [hS] at CS
  have CO := hide (fun (W : World) h1 => shelvesOf_any (N := N) W (.slice va l.length vc) l h1 hS)
  have hl20 := Ix.pkgs_len hS
  have HSM := hide (small_pkgs hS)
  clear hT hS HA hmem
  have hltx : w.heap.size < (w.alloc (.cells #[.int .i64 n, .slice ka ks.length kc, .int .i64 d, .bool has, .int .i64 num, .int .i64 til, .slice ma ms.length mc] 30)).heap.size := heapLt (unhide HX)
  refine (callsIn_wide (n := 5)).1 ?_
  refine callsIn_of_wp_marks Tryz.func20 rfl trivial ?_ rfl
  simp only [Tryz.ntmps20, List.size_toArray, List.length_cons, List.length_nil, Nat.reduceAdd, Nat.reduceSub, Array.replicate_succ, Array.replicate_zero, List.push_toArray, List.append_toArray, List.nil_append, List.cons_append]
  gi_wp2_with (refine ⟨trivial, ?_⟩; first
    | (gi_at_call 42; refine (callsIn_wide.2 (unhide CT _ (unhide IK) (unhide IM))).mono ?_; rintro e w1 ⟨rfl, b⟩; have PS1 := hide ((unhide PS).later b); have BW1 := hide ((unhide BW).trans (b.mono (unhide BW).size)); have HX1 := hide ((b.block _ (heapLt (unhide HX))).trans (unhide HX)); clear b)
    | (gi_at_call 17; refine (callsIn_wide.2 (unhide CS _ (unhide PS1))).mono ?_; rintro e w2 ⟨rfl, b⟩; have PS2 := hide ((unhide PS1).later b); have BW2 := hide ((unhide BW1).trans (b.mono (unhide BW1).size)); have HX2 := hide ((b.block _ (heapLt (unhide HX1))).trans (unhide HX1)); clear b)
    | (gi_at_call 43; refine (callsIn_wide.2 (unhide CO _ (unhide PS2))).mono ?_; rintro e w3 ⟨V, E, rfl, hMM, hSS, hDD, b⟩; have HM := hide hMM; have HS := hide hSS; have HD := hide hDD; have BW3 := hide ((unhide BW2).trans (b.mono (unhide BW2).size)); have HX3 := hide ((b.block _ (heapLt (unhide HX2))).trans (unhide HX2)); clear b hMM hSS hDD x0 x1 x2 x3 x4 x5 x6; have hlx3 := heapLt (unhide HX3); obtain ⟨x4, x5, x6⟩ : _ ∧ _ ∧ _ := ⟨cellOf (unhide HX3) 4, cellOf (unhide HX3) 5, cellOf (unhide HX3) 6⟩)
    | (gi_at_call 59; refine (metasOf_in _ _ _ _ _ _ _).mono ?_; rintro e w' ⟨rfl, rfl⟩))
  have hkz : (w3.alloc (.cells #[.map (some w2.heap.size)] 81)).heap.size = w3.heap.size + 1 := by simp
  have HKB := hide (heap_alloc_new w3 (.cells #[.map (some w2.heap.size)] 81))
  have bk := below1 w3 (.cells #[.map (some w2.heap.size)] 81)
  have HMK := hide ((unhide HM).later bk)
  have HSK := hide ((unhide HS).later bk)
  have BWK := hide ((unhide BW3).trans (bk.mono (unhide BW3).size))
  have hsw := (unhide BW3).size
  obtain ⟨i0, hI0, hz0, hz1, hz2⟩ := info_parts infoMeta
  clear HM HS bk BW3 BW2 BW1 BW HX HX1 HX2 HX3 IK IM PS PS1 PS2 CT CS CO x4 x5 x6 hlx3 hltx
  generalize w3.alloc _ = Wk at *
  have HKZ := hide hkz
  have b1 : ((Wk.alloc (.cells #[.slice none 0 0] 26)).alloc (.cells #[.int .i64 num, .int .i64 til, .slice ma ms.length mc] 28)).heap[w3.heap.size + 1]? = some (.cells #[.slice none 0 0] 26 (0, 0)) := by
    have b := heap_alloc_new Wk (.cells #[.slice none 0 0] 26)
    rw [hkz] at b
    exact (Below.heap_alloc _ _ (w3.heap.size + 1) (by simp; omega)).trans b
  have b3 : ((Wk.alloc (.cells #[.slice none 0 0] 26)).alloc (.cells #[.int .i64 num, .int .i64 til, .slice ma ms.length mc] 28)).heap[w3.heap.size + 1 + 1]? = some (.cells #[.int .i64 num, .int .i64 til, .slice ma ms.length mc] 28 (0, 0)) := by
    have b := heap_alloc_new (Wk.alloc (.cells #[.slice none 0 0] 26)) (.cells #[.int .i64 num, .int .i64 til, .slice ma ms.length mc] 28)
    simp only [World.size_alloc] at b
    rw [hkz] at b
    exact b
  have hBk : Below (w3.heap.size + 1) Wk ((Wk.alloc (.cells #[.slice none 0 0] 26)).alloc (.cells #[.int .i64 num, .int .i64 til, .slice ma ms.length mc] 28)) := ((Below.refl _ Wk).alloc (by omega) _).alloc (by simp; omega) _
  have hB0 := (unhide BWK).trans (hBk.mono (by omega))
  have hsz : ((Wk.alloc (.cells #[.slice none 0 0] 26)).alloc (.cells #[.int .i64 num, .int .i64 til, .slice ma ms.length mc] 28)).heap.size = w3.heap.size + 3 := by simp; omega
  generalize (Wk.alloc _).alloc _ = W0 at *
  refine wpIn_rangeFunc_ownH rfl (by omega) (gf := 111) (lb := #[.pointer (some ⟨w3.heap.size + 1 + 1, 0, none⟩)]) rfl trivial (enters_of Tryz.func111 (by kernel_rfl) rfl)
    (metas_stopsP mP 4 (by omega) (w3.heap.size + 1 + 1) w.heap.size _ ms (unhide HMEM) W0 (by omega) (by omega) (cellOf b3 2) w rfl (unhide IM0) hB0) belowK_t (belowK_b (by omega)) (Below.refl _ _) (fun _ => rfl)
    (fun (pre : List { x : Ix.M // mP x }) W => (∃ v, Boxed W (w3.heap.size + 1) 26 v ∧ W.ownsRow (w3.heap.size + 1) 55 3 v (Ix.lacks12 (pre.map (fun x => x.1)) l).length (flat3 (Ix.lacks12 (pre.map (fun x => x.1)) l)) ∧ True) ∧ Below (w3.heap.size + 1) Wk W)
    (fun _ _ _ => False)
    (OwnFrom.and (Own.from (holdsRow_own _ _ _ _ _ (fun (pre : List { x : Ix.M // mP x }) => (Ix.lacks12 (List.map (fun x => x.1) pre) l).length) (fun (pre : List { x : Ix.M // mP x }) => flat3 (Ix.lacks12 (List.map (fun x => x.1) pre) l)) (fun _ _ => True)) _) (ownFrom_below (by omega) (by omega)))
    (fun _ _ _ _ _ hs _ _ => hs)
    ⟨⟨_, b1, World.ownsRow_nil _ _ _ _, trivial⟩, hBk⟩
    (fun (x : { x : Ix.M // mP x }) a' W => ∃ Bx, w3.heap.size + 1 < Bx ∧ W.heap[Bx]? = some (.cells #[.int .i64 x.1.1, .int .i64 x.1.2.1, .int .i64 x.1.2.2] 55 (0, 0)) ∧ ∃ e0 e1 e2 e3 e4 e8 e9 e10 e11 e12 e13 e14 e15 e16 e17 e18 e19 e20 e21 e22 e23 e24 e25 e26 e27 e28 e29 e30, a' = { tmps := #[e0, e1, e2, e3, e4, .pointer (some ⟨w3.heap.size, 0, none⟩), .pointer (some ⟨w3.heap.size + 1, 0, none⟩), .pointer (some ⟨Bx, 0, none⟩), e8, e9, e10, e11, e12, e13, e14, e15, e16, e17, e18, e19, e20, e21, e22, e23, e24, e25, e26, e27, e28, e29, e30], defers := [] })
    (fun x a' _ X Y row hs hg hr => by obtain ⟨Bx, e1, e2, e3⟩ := hs; exact ⟨Bx, e1, blk_own Bx 55 (fun (_ : Unit) => #[.int .i64 x.1.1, .int .i64 x.1.2.1, .int .i64 x.1.2.2]) () X Y row e2 hg (fun r e => (hr r e).2), e3⟩)
    ?assign ?body ?done ?stop
  case assign =>
    rintro l0 pre x W K ⟨⟨v, hbx, hrow, _⟩, hBW⟩ hK
    have hlb := hbx.lt
    have hsW := hBW.size
    gi_wp2
    exact hK _ _ ((KeepsOthers.alloc _ _).from _) ((Below.refl _ W).alloc (by omega) _) ⟨⟨v, hbx.alloc _, hrow.alloc _, trivial⟩, hBW.alloc (by omega) _⟩ ⟨W.heap.size, hlb, heap_alloc_new W _, _, _, _, _, _, _, _, _, _, _, _, _, _, _, _, _, _, _, _, _, _, _, _, _, _, _, _, _, rfl⟩
  case body =>
    rintro l0 pre x a' W hl ⟨r, hr⟩ ⟨⟨v, hbx, hrow, _⟩, hBW⟩ ⟨Bx, hBx, bX, e0, e1, e2, e3, e4, e8, e9, e10, e11, e12, e13, e14, e15, e16, e17, e18, e19, e20, e21, e22, e23, e24, e25, e26, e27, e28, e29, e30, rfl⟩ hlt
    obtain ⟨⟨p0, p1⟩, _, _⟩ := x.2
    have hsW := hBW.size
    have hlb := hbx.lt
    have hlk := Ix.lacks12_le (pre.map (fun x => x.1)) l
    rw [List.length_map] at hlk
    have hsn := Ix.lacks12_snoc (pre.map (fun x => x.1)) x.1 l
    have hmp : (pre ++ [x]).map (fun x => x.1) = pre.map (fun x => x.1) ++ [x.1] := by rw [List.map_append]; rfl
    rw [← hmp] at hsn
    have hEl : (E x.1.1).map (·.1) = Ix.shelf l x.1.1 := unhide HD x.1.1
    have hEn : (E x.1.1).length ≤ 900 := by
      have h1 := congrArg List.length hEl
      rw [List.length_map] at h1
      have h2 : (Ix.shelf l x.1.1).length ≤ l.length := List.length_filter_le _ _
      omega
    have hEs : ∀ e ∈ E x.1.1, e.1.2.2.1.length ≤ 1000 ∧ e.1.2.2.2.length ≤ 1000 := fun e he => by
      have h1 : e.1 ∈ Ix.shelf l x.1.1 := by rw [← hEl]; exact List.mem_map_of_mem he
      exact (unhide HSM).2 e.1 (List.mem_filter.1 h1).1
    have hbk2 : Below Wk.heap.size Wk W := by rw [unhide HKZ]; exact hBW
    have kb := (hBW.block w3.heap.size (by omega)).trans (unhide HKB)
    have CM := hide (meets_any W w2.heap.size l.length V E x.1.1 x.1.2.1 x.1.2.2 ((unhide HMK).later hbk2) ((unhide HSK).later hbk2) ⟨p0, p1⟩ hEn hEs)
    have hxx : (x.1.1, x.1.2.1, x.1.2.2) = x.1 := rfl
    rw [hEl, hxx, Ix.met_shelf rfl] at CM
    have k0 := cellOf kb 0
    have y0 := cellOf bX 0
    have y1 := cellOf bX 1
    have y2 := cellOf bX 2
    have HSN := hide hsn
    have HBX := hide hbx
    have HROW := hide hrow
    have HBW := hide hBW
    have HXB := hide bX
    clear hsn hmp hEl hEn hEs hbk2 kb hxx hbx hrow hBW bX hr b1 b3 hB0 hBk
    cases hq : metIn l x.1
    · rw [hq] at CM
      have hsn := unhide HSN
      rw [if_neg (by rw [hq]; simp)] at hsn
      have HSN2 := hide hsn
      clear hsn hq HSN
      have hW1 : ∀ W1 : World, Below W.heap.size W W1 → w3.heap.size + 1 ≤ W1.heap.size := fun W1 h => by have := h.size; omega
      gi_wp2_with (first
        | (refine ⟨trivial, ?_⟩; gi_at_call 60; refine (CallsIn.inRound l0 (callsIn_wide.2 (unhide CM))).mono ?_; rintro e W1 ⟨rfl, hb1⟩; have HB1 := hide hb1; have hbx1 : Boxed W1 (w3.heap.size + 1) 26 v := (hb1.block _ hlb).trans (unhide HBX); have HBX1 := hide hbx1; have HXB1 := hide ((hb1.block _ (heapLt (unhide HXB))).trans (unhide HXB)); have hrow1 := own_later (unhide HROW) hb1; have HROW1 := hide hrow1; have z0 := cellOf (unhide HXB1) 0; have z1 := cellOf (unhide HXB1) 1; have z2 := cellOf (unhide HXB1) 2; have c0 := hbx1.cell; have hs1 := hW1 _ hb1; clear hb1 hbx1 hrow1)
        | (gi_at_builtin; refine wpListIn_append_own _ rfl _ _ 26 rfl (w3.heap.size + 1) 55 i0 _ 3 24 Tryz.underlying26 hI0 hz0 hz1 hz2 rfl (by decide) v _ _ rfl ((unhide HROW1).alloc _) ⟨W1.heap.size, 0, none⟩ 1 1 [.int .i64 x.1.1, .int .i64 x.1.2.1, .int .i64 x.1.2.2] rfl rfl (World.news_of_block (heap_alloc_new W1 (.cells #[.int .i64 x.1.1, .int .i64 x.1.2.1, .int .i64 x.1.2.2] 55))) (by simp [Value.oneCell']) (by unfold maxLen; omega) (by omega) (by simp; omega) ?_; intro v' W2 hown hgrow _; obtain ⟨q1, q2, q3, q4, q5⟩ := Boxed.appended (tmp := .cells #[.int .i64 x.1.1, .int .i64 x.1.2.1, .int .i64 x.1.2.2] 55) (unhide HBX1) (by decide) (unhide HROW1) (by omega) (Nat.le_refl _) hown hgrow; obtain ⟨g9, c9, hv9⟩ := ownsRow_succ hown; subst hv9; have Q2 := hide q2; have Q3 := hide q3; have Q4 := hide q4; have Q5 := hide q5; have c2 := q1.cell; have f2 := q1.frozen; clear hown hgrow q1 q2 q3 q4 q5))
      exact ⟨((keeps_below (unhide HB1)).trans (unhide Q4)).from _, ((unhide HB1).mono (by omega)).trans ((unhide Q5).mono (by omega)), ⟨⟨_, unhide Q2, by rw [unhide HSN2, flat3_snoc, List.length_append]; exact unhide Q3, trivial⟩, ((unhide HBW).trans ((unhide HB1).mono (by omega))).trans (unhide Q5)⟩⟩
    · rw [hq] at CM
      have hsn := unhide HSN
      rw [if_pos hq] at hsn
      have HSN2 := hide hsn
      clear hsn hq HSN
      gi_wp2_with (refine ⟨trivial, ?_⟩; first
        | (gi_at_call 60; refine (CallsIn.inRound l0 (callsIn_wide.2 (unhide CM))).mono ?_; rintro e W1 ⟨rfl, hb1⟩; have HB1 := hide hb1; clear hb1))
      exact ⟨(keeps_below (unhide HB1)).from _, (unhide HB1).mono (by omega), ⟨⟨v, ((unhide HB1).block _ hlb).trans (unhide HBX), by rw [unhide HSN2]; exact own_later (unhide HROW) (unhide HB1), trivial⟩, (unhide HBW).trans ((unhide HB1).mono (by omega))⟩⟩
  case done =>
    rintro D zs W hD hzs ⟨⟨v, hbx, hrow, _⟩, hBW⟩ hK
    rw [hzs] at hrow
    have c0 := hbx.cell
    have hsW := hBW.size
    gi_wp2
    refine ⟨by simp, .inl ⟨_, _, rfl, run_takeDeferred hK, ?_⟩⟩
    exact ⟨_, results_tmp rfl _ _ _, ⟨v, rfl, by rw [unhide HE]; exact own_base' (ownsRow_putObj hrow _ hK rfl) (by omega), ((unhide BWK).trans (hBW.mono (by omega))).trans (belowK_b (w := w) (Nat.le_refl _) W D _ _ (by omega) hK rfl rfl)⟩⟩
  case stop =>
    rintro D c pre W _ _ h _
    exact h.elim
end Go.Proofs.YtlnieobmhofkdaaGreatDoor
