import Derived.Test.YtlnieobmhofkdaaGreatDoorMix25
import Derived.Test.YtlnieobmhofkdaaGreatDoorSAddW
import Derived.Test.YtlnieobmhofkdaaGreatDoorMix1
import Derived.Laws.StructEq
/- What is kept newly, as data: for the laws of keeping. -/
namespace Go.Proofs.YtlnieobmhofkdaaGreatDoor
namespace Ix
theorem hasB_pOk {num til : Int} {ms : List M} {s : List UInt8} (h : hasB num til ms s = true) : pOk (hasD num til ms s) = true ∧ pText (hasD num til ms s) = s ∧ tellsP num til ms (hasD num til ms s) = true := by
  cases hh : has num til ms s with
  | none => rw [(hasD_none hh).2] at h; cases h
  | some p =>
    rw [(hasD_some hh).1]
    obtain ⟨h1, h2, h3⟩ := has_some.1 hh
    exact ⟨h1.1, h1.2, by unfold tellsP; rw [h2, decide_eq_true h3]; rfl⟩
theorem hasB_yes {num til : Int} {ms : List M} {p : Pg} (h : pOk p = true) (ht : tellsP num til ms p = true) : hasB num til ms (pText p) = true ∧ hasD num til ms (pText p) = p := by
  have h2 : has num til ms (pText p) = some p := by
    unfold has
    rw [rp_text h]
    simp [ht]
  exact ⟨(hasD_some h2).2, (hasD_some h2).1⟩
theorem hasB_bad {num til : Int} {ms : List M} {s : List UInt8} (h : idxOk num til ms = false) : hasB num til ms s = false := (hasD_none (has_bad h)).2
theorem hasB_nil {num til : Int} {ms : List M} : hasB num til ms [] = false := by
  cases h : hasB num til ms []
  · rfl
  · obtain ⟨h1, h2, _⟩ := hasB_pOk h
    have h3 := rp_text h1
    rw [h2] at h3
    revert h3
    have e : rp [] = none := by decide
    rw [e]
    intro h3
    cases h3
theorem addA_some {b : Bool} {num til : Int} {ms : List M} {l : List Pg} {s : List UInt8} (h : (addA b num til ms l s).2 = true) :
    b = true ∧ pkgsOk l = true ∧ hasB num til ms s = true ∧ found l (hasD num til ms s).1 (hasD num til ms s).2.1 = false ∧ (addA b num til ms l s).1 = wth l (hasD num til ms s) := by
  unfold addA at h ⊢
  split at h
  · rename_i hc
    rw [if_pos hc]
    unfold addD at h ⊢
    split at h
    · rename_i hd
      rw [if_pos hd]
      exact ⟨hc.1, hc.2, hd.1, hd.2, rfl⟩
    · cases h
  · cases h
theorem addA_of {b : Bool} {num til : Int} {ms : List M} {l : List Pg} {s : List UInt8} (h1 : b = true) (h2 : pkgsOk l = true) (h3 : hasB num til ms s = true) (h4 : found l (hasD num til ms s).1 (hasD num til ms s).2.1 = false) : addA b num til ms l s = (wth l (hasD num til ms s), true) := by
  rw [addA_yes h1 h2, addD_yes h3 h4]
theorem addA_no {b : Bool} {num til : Int} {ms : List M} {l : List Pg} {s : List UInt8} (h1 : b = true) (h2 : pkgsOk l = true) (h3 : hasB num til ms s = false) : addA b num til ms l s = (l, false) := by
  rw [addA_yes h1 h2, addD_no h3]
theorem pkgsOk_nil : pkgsOk [] = true := pkgsOk_pair.2 ⟨fun x hx => (by cases hx), List.Pairwise.nil⟩
theorem addA_ok {b : Bool} {num til : Int} {ms : List M} {l : List Pg} {s : List UInt8} : pkgsOk (addA b num til ms l s).1 = true := by
  cases h : (addA b num til ms l s).2
  · unfold addA at h ⊢
    split
    · rename_i hc
      rw [if_pos hc] at h
      unfold addD at h ⊢
      split
      · rename_i hd
        rw [if_pos hd] at h
        cases h
      · exact hc.2
    · exact pkgsOk_nil
  · obtain ⟨_, h2, h3, _, h5⟩ := addA_some h
    rw [h5]
    exact wth_ok h2 (hasB_pOk h3).1
theorem addA_small (b : Bool) (num til : Int) (ms : List M) (l : List Pg) (s : List UInt8) : small (addA b num til ms l s).1 := small_pkgs addA_ok
theorem noIdx_bad {num til : Int} {ms : List M} (h : Tr.noIdx num til ms = true) : idxOk num til ms = false := by
  cases hx : idxOk num til ms
  · rfl
  · unfold Tr.noIdx at h
    unfold idxOk at hx
    simp only [Bool.and_eq_true, Pk.inB, decide_eq_true_eq] at h hx
    omega
theorem ok_root {t : Tr.T} (h : t.ok = true) : Ky.rootOk t.n t.ks t.d = true ∧ (t.has = false → idxOk t.num t.til t.ms = false) := by
  unfold Tr.T.ok Tr.ok at h
  rw [Bool.and_eq_true] at h
  refine ⟨h.1, fun hh => ?_⟩
  have h2 := h.2
  rw [hh] at h2
  exact noIdx_bad h2
/-- Trust that just began keeps nothing newly. -/
theorem addA_new {t : Tr.T} {l : List Pg} {s : List UInt8} (h : t.ok = true) (hl : pkgsOk l = true) : (Tr.new t.n t.ks t.d) = (⟨t.n, t.ks, t.d, false, 0, 0, []⟩, true) ∧ addA (Tr.T.ok ⟨t.n, t.ks, t.d, false, 0, 0, []⟩) 0 0 [] l s = (l, false) := by
  have hr := (ok_root h).1
  refine ⟨by unfold Tr.new; rw [hr]; rfl, ?_⟩
  have hz : Tr.noIdx 0 0 [] = true := by decide
  exact addA_no (by unfold Tr.T.ok Tr.ok; rw [hr]; exact hz) hl (hasB_bad (noIdx_bad hz))
theorem addA_nohas {t : Tr.T} {l : List Pg} {s : List UInt8} (h : t.ok = true) (hh : t.has = false) : (addA t.ok t.num t.til t.ms l s).2 = false := by
  cases he : (addA t.ok t.num t.til t.ms l s).2
  · rfl
  · have h3 := (addA_some he).2.2.1
    rw [hasB_bad ((ok_root h).2 hh)] at h3
    cases h3
theorem addA_empty {b : Bool} {num til : Int} {ms : List M} {l : List Pg} : (addA b num til ms l []).2 = false := by
  cases he : (addA b num til ms l []).2
  · rfl
  · have h3 := (addA_some he).2.2.1
    rw [hasB_nil] at h3
    cases h3
theorem trim_wth {num til : Int} {ms : List M} {l : List Pg} {p : Pg} (h : tellsP num til ms p = true) : trim num til ms (wth l p) = wth (trim num til ms l) p := by
  unfold trim wth
  rw [List.filter_append, List.filter_append, List.filter_filter, List.filter_filter, List.filter_filter, List.filter_filter]
  have e : [p].filter (tellsP num til ms) = [p] := by simp [h]
  rw [e]
  congr 1
  · congr 1
    exact List.filter_congr fun x _ => Bool.and_comm _ _
  · exact List.filter_congr fun x _ => Bool.and_comm _ _
theorem found_sub {l m : List Pg} {n u : Int} (h : found l n u = false) (hs : ∀ x ∈ m, x ∈ l) : found m n u = false := by
  rw [found_false] at h ⊢
  exact fun p hp => h p (hs p hp)
/-- What is kept newly is kept behind trimming. -/
theorem trim_add {t : Tr.T} {l : List Pg} {s : List UInt8} (h : (addA t.ok t.num t.til t.ms l s).2 = true) :
    addA t.ok t.num t.til t.ms (trimA t l) s = (trimA t (addA t.ok t.num t.til t.ms l s).1, true) := by
  obtain ⟨h1, h2, h3, h4, h5⟩ := addA_some h
  rw [h5, trimA_yes h1 h2, trimA_yes h1 (wth_ok h2 (hasB_pOk h3).1), trim_wth (hasB_pOk h3).2.2]
  exact addA_of h1 (trim_pkgs h2) h3 (found_sub h4 (fun x hx => (List.mem_filter.1 hx).1))
theorem ahead_tri {a b : Pg} (h : named a b.1 b.2.1 = false) : ahead a b = true ∨ ahead b a = true := by
  unfold named at h
  unfold ahead less
  simp only [Bool.or_eq_true, Bool.and_eq_true, decide_eq_true_eq, Bool.and_eq_false_iff, decide_eq_false_iff_not] at *
  omega
theorem ahead_not {a b : Pg} (h : ahead a b = true) : ahead b a = false := less_not h
theorem wth_mem {l : List Pg} {p : Pg} (h : found l p.1 p.2.1 = false) (x : Pg) : x ∈ wth l p ↔ x ∈ l ∨ x = p := by
  unfold wth
  rw [List.mem_append, List.mem_append, List.mem_filter, List.mem_filter, List.mem_singleton]
  constructor
  · rintro ((h | h) | h)
    · exact .inl h.1
    · exact .inr h
    · exact .inl h.1
  · rintro (hx | hx)
    · rcases ahead_tri (found_false.1 h x hx) with h2 | h2
      · exact .inl (.inl ⟨hx, h2⟩)
      · exact .inr ⟨hx, h2⟩
    · exact .inl (.inr hx)
theorem wth_more {l : List Pg} {p : Pg} (h : found l p.1 p.2.1 = false) : (wth l p).length = l.length + 1 := by
  have hp : ∀ (l : List Pg), found l p.1 p.2.1 = false → (l.filter (fun x => ahead x p)).length + (l.filter (fun x => ahead p x)).length = l.length := by
    intro l
    induction l with
    | nil => intro _; rfl
    | cons x l ih =>
      intro h
      have hx := found_false.1 h x (List.mem_cons_self ..)
      have ih2 := ih (found_sub h (fun y hy => List.mem_cons_of_mem _ hy))
      rcases ahead_tri hx with h2 | h2
      · rw [List.filter_cons_of_pos (by simpa using h2), List.filter_cons_of_neg (by rw [ahead_not h2]; simp)]
        simp only [List.length_cons]
        omega
      · rw [List.filter_cons_of_neg (by rw [ahead_not h2]; simp), List.filter_cons_of_pos (by simpa using h2)]
        simp only [List.length_cons]
        omega
  unfold wth
  rw [List.length_append, List.length_append]
  have := hp l h
  simp only [List.length_cons, List.length_nil]
  omega
theorem named_self (p : Pg) : named p p.1 p.2.1 = true := by unfold named; simp
theorem found_wth {l : List Pg} {p : Pg} : found (wth l p) p.1 p.2.1 = true := by
  unfold found
  rw [List.any_eq_true]
  exact ⟨p, by unfold wth; simp, named_self p⟩
/-- What was kept newly is not kept newly again. -/
theorem addA_again {b : Bool} {num til : Int} {ms : List M} {l : List Pg} {s : List UInt8} (h : (addA b num til ms l s).2 = true) : (addA b num til ms (addA b num til ms l s).1 s).2 = false := by
  obtain ⟨h1, h2, h3, h4, h5⟩ := addA_some h
  rw [h5]
  rw [addA_yes h1 (wth_ok h2 (hasB_pOk h3).1), addD_is found_wth]
theorem not_in {l : List Pg} {p : Pg} (h : found l p.1 p.2.1 = false) : p ∉ l := fun hp => by
  have := found_false.1 h p hp
  rw [named_self] at this
  cases this
theorem addA_same {b : Bool} {num til : Int} {ms : List M} {l : List Pg} {s : List UInt8} (h1 : b = true) (h2 : pkgsOk l = true) (h : (addA b num til ms l s).2 = false) : (addA b num til ms l s).1 = l := by
  rw [addA_yes h1 h2] at h ⊢
  unfold addD at h ⊢
  split at h
  · cases h
  · rename_i hd
    rw [if_neg hd]
/-- Everything that is said of what was, or was not, kept newly. -/
theorem addA_all {t : Tr.T} {l A : List Pg} {s : List UInt8} {q : Bool} (ho : t.ok = true) (hl : pkgsOk l = true) (hA : addA t.ok t.num t.til t.ms l s = (A, q)) :
    (q = false → A = l) ∧ (q = true → (t.has = true ∧ hasB t.num t.til t.ms s = true) ∧ (∀ x ∈ l, x ∈ A) ∧ (hasD t.num t.til t.ms s ∈ A ∧ hasD t.num t.til t.ms s ∉ l) ∧ A.length = l.length + 1 ∧ pkgsOk A = true ∧ (addA t.ok t.num t.til t.ms A s).2 = false) := by
  constructor
  · intro h
    have := addA_same (num := t.num) (til := t.til) (ms := t.ms) (s := s) ho hl (by rw [hA]; exact h)
    rw [hA] at this
    exact this
  · intro h
    have hs : (addA t.ok t.num t.til t.ms l s).2 = true := by rw [hA]; exact h
    obtain ⟨_, _, h3, h4, h5⟩ := addA_some hs
    have hag := addA_again hs
    have hok := addA_ok (b := t.ok) (num := t.num) (til := t.til) (ms := t.ms) (l := l) (s := s)
    rw [hA] at h5 hag hok
    dsimp only at h5 hag hok
    refine ⟨⟨?_, h3⟩, fun x hx => ?_, ⟨?_, not_in h4⟩, ?_, hok, hag⟩
    · cases hh : t.has
      · rw [addA_nohas ho hh] at hs; cases hs
      · rfl
    · rw [h5]; exact (wth_mem h4 x).2 (.inl hx)
    · rw [h5]; exact (wth_mem h4 _).2 (.inr rfl)
    · rw [h5]; exact wth_more h4
end Ix
end Go.Proofs.YtlnieobmhofkdaaGreatDoor

/- What laws.luPkg returns: whether two packages are the same. -/
namespace Go.Proofs.YtlnieobmhofkdaaGreatDoor
open Go.RowKit

theorem list_ext {l l' : List (Int × Int)} (hl : l.length = l'.length) (h : ∀ i, i < l.length → Pk.fst l i = Pk.fst l' i ∧ Pk.snd l i = Pk.snd l' i) : l = l' := by
  apply List.ext_getElem hl
  intro i h1 h2
  have := h i h1
  simp only [Pk.fst, Pk.snd, List.getD_eq_getElem?_getD, List.getElem?_eq_getElem h1, List.getElem?_eq_getElem h2, Option.getD_some] at this
  exact Prod.ext this.1 this.2

/-- Two packages are the same. -/
def same (nm vr nm' vr' : Int) (fs ds fs' ds' : List (Int × Int)) : Bool := decide (nm = nm' ∧ vr = vr' ∧ fs = fs' ∧ ds = ds')
theorem same_no {nm vr nm' vr' : Int} {fs ds fs' ds' : List (Int × Int)} (h : ¬ (nm = nm' ∧ vr = vr' ∧ fs = fs' ∧ ds = ds')) : same nm vr nm' vr' fs ds fs' ds' = false := decide_eq_false h
theorem same_yes {nm vr nm' vr' : Int} {fs ds fs' ds' : List (Int × Int)} (h : nm = nm' ∧ vr = vr' ∧ fs = fs' ∧ ds = ds') : same nm vr nm' vr' fs ds fs' ds' = true := decide_eq_true h
theorem sz1l (w : World) (o : Obj) : (w.alloc o).heap.size = w.heap.size + 1 := by simp

set_option maxHeartbeats 4000000 in
set_option maxRecDepth 100000 in
theorem lu_any (w : World) (nm vr nm' vr' : Int) (fv dv fv' dv' : Value) (fs ds fs' ds' : List (Int × Int)) (hf : Prs w fv fs) (hd : Prs w dv ds) (hf' : Prs w fv' fs') (hd' : Prs w dv' ds') :
    Calls Tryz.prog 46 #[.agg #[.int .i64 nm, .int .i64 vr, fv, dv], .agg #[.int .i64 nm', .int .i64 vr', fv', dv']] w fun e w' => e = .returned (.bool (same nm vr nm' vr' fs ds fs' ds')) ∧ Below w.heap.size w w' := by
  have hbel : ∀ o1 o2 : Obj, Below w.heap.size w ((w.alloc o1).alloc o2) := fun o1 o2 => ((Below.refl _ _).alloc (Nat.le_refl _) _).alloc (by rw [sz1l]; omega) _
  have HF : Hid (∀ o1 o2 : Obj, Prs ((w.alloc o1).alloc o2) fv fs) := fun o1 o2 => hf.later (hbel o1 o2)
  have HF' : Hid (∀ o1 o2 : Obj, Prs ((w.alloc o1).alloc o2) fv' fs') := fun o1 o2 => hf'.later (hbel o1 o2)
  have HD : Hid (∀ o1 o2 : Obj, Prs ((w.alloc o1).alloc o2) dv ds) := fun o1 o2 => hd.later (hbel o1 o2)
  have HD' : Hid (∀ o1 o2 : Obj, Prs ((w.alloc o1).alloc o2) dv' ds') := fun o1 o2 => hd'.later (hbel o1 o2)
  have HB := hide hbel
  obtain ⟨fa, fc, e1⟩ := hf.slice
  obtain ⟨da, dc, e2⟩ := hd.slice
  obtain ⟨fa', fc', e3⟩ := hf'.slice
  obtain ⟨da', dc', e4⟩ := hd'.slice
  clear hf hd hf' hd' hbel
  subst e1 e2 e3 e4
  by_cases hn : nm = nm'
  case neg =>
    have hnb : (nm != nm') = true := by simp [hn]
    have HE := hide (same_no (vr := vr) (vr' := vr') (fs := fs) (ds := ds) (fs' := fs') (ds' := ds') (fun h => hn h.1))
    clear hn
    go_enter Tryz.func46, Tryz.ntmps46
    go_wp2
    go_ret
    exact ⟨ret_bool (unhide HE).symm, (unhide HB) _ _⟩
  subst hn
  have hnb : (nm != nm) = false := by simp
  by_cases hv : vr = vr'
  case neg =>
    have hvb : (vr != vr') = true := by simp [hv]
    have HE := hide (same_no (nm := nm) (nm' := nm) (fs := fs) (ds := ds) (fs' := fs') (ds' := ds') (fun h => hv h.2.1))
    clear hv
    go_enter Tryz.func46, Tryz.ntmps46
    go_wp2
    go_ret
    exact ⟨ret_bool (unhide HE).symm, (unhide HB) _ _⟩
  subst hv
  have hvb : (vr != vr) = false := by simp
  by_cases hfl : fs.length = fs'.length
  case neg =>
    have hlb : ((fs.length : Int) != (fs'.length : Int)) = true := by simp; omega
    have HE := hide (same_no (nm := nm) (nm' := nm) (vr := vr) (vr' := vr) (ds := ds) (ds' := ds') (fun h => hfl (congrArg List.length h.2.2.1)))
    clear hfl
    go_enter Tryz.func46, Tryz.ntmps46
    go_wp2
    go_ret
    exact ⟨ret_bool (unhide HE).symm, (unhide HB) _ _⟩
  by_cases hdl : ds.length = ds'.length
  case neg =>
    have hlb : ((fs.length : Int) != (fs'.length : Int)) = false := by simp; omega
    have hmb : ((ds.length : Int) != (ds'.length : Int)) = true := by simp; omega
    have HE := hide (same_no (nm := nm) (nm' := nm) (vr := vr) (vr' := vr) (fs := fs) (fs' := fs') (fun h => hdl (congrArg List.length h.2.2.2)))
    clear hdl hfl
    go_enter Tryz.func46, Tryz.ntmps46
    go_wp2
    go_ret
    exact ⟨ret_bool (unhide HE).symm, (unhide HB) _ _⟩
  have hlb : ((fs.length : Int) != (fs'.length : Int)) = false := by simp; omega
  have hmb : ((ds.length : Int) != (ds'.length : Int)) = false := by simp; omega
  have HFL := hide hfl
  have HDL := hide hdl
  clear hfl hdl
  go_enter Tryz.func46, Tryz.ntmps46
  go_wp2_with fail
  have hx : ∀ (a b : Array Value) (t : TypeId) (i : Nat), ((w.alloc (.cells a t)).alloc (.cells b t)).cell? ⟨w.heap.size, i, none⟩ = a[i]? ∧ ((w.alloc (.cells a t)).alloc (.cells b t)).cell? ⟨w.heap.size + 1, i, none⟩ = b[i]? := fun a b t i => by
    constructor
    · rw [World.cell?_alloc_lt _ _ _ (by rw [sz1l]; exact Nat.lt_succ_self _), World.cell?_alloc_new]
    · have := World.cell?_alloc_new (w.alloc (.cells a t)) b t i
      rw [sz1l] at this
      exact this
  have hy2 := hx #[.int .i64 nm, .int .i64 vr, .slice fa fs.length fc, .slice da ds.length dc] #[.int .i64 nm, .int .i64 vr, .slice fa' fs'.length fc', .slice da' ds'.length dc'] 42 2
  have hy3 := hx #[.int .i64 nm, .int .i64 vr, .slice fa fs.length fc, .slice da ds.length dc] #[.int .i64 nm, .int .i64 vr, .slice fa' fs'.length fc', .slice da' ds'.length dc'] 42 3
  have HG : Hid (((w.alloc (.cells #[.int .i64 nm, .int .i64 vr, .slice fa fs.length fc, .slice da ds.length dc] 42)).alloc (.cells #[.int .i64 nm, .int .i64 vr, .slice fa' fs'.length fc', .slice da' ds'.length dc'] 42)).heap.size = w.heap.size + 2) := by show _ = _; rw [sz1l, sz1l]
  have hB0 := (unhide HB) (.cells #[.int .i64 nm, .int .i64 vr, .slice fa fs.length fc, .slice da ds.length dc] 42) (.cells #[.int .i64 nm, .int .i64 vr, .slice fa' fs'.length fc', .slice da' ds'.length dc'] 42)
  have P1 := (unhide HF) (.cells #[.int .i64 nm, .int .i64 vr, .slice fa fs.length fc, .slice da ds.length dc] 42) (.cells #[.int .i64 nm, .int .i64 vr, .slice fa' fs'.length fc', .slice da' ds'.length dc'] 42)
  have P2 := (unhide HF') (.cells #[.int .i64 nm, .int .i64 vr, .slice fa fs.length fc, .slice da ds.length dc] 42) (.cells #[.int .i64 nm, .int .i64 vr, .slice fa' fs'.length fc', .slice da' ds'.length dc'] 42)
  have P3 := (unhide HD) (.cells #[.int .i64 nm, .int .i64 vr, .slice fa fs.length fc, .slice da ds.length dc] 42) (.cells #[.int .i64 nm, .int .i64 vr, .slice fa' fs'.length fc', .slice da' ds'.length dc'] 42)
  have P4 := (unhide HD') (.cells #[.int .i64 nm, .int .i64 vr, .slice fa fs.length fc, .slice da ds.length dc] 42) (.cells #[.int .i64 nm, .int .i64 vr, .slice fa' fs'.length fc', .slice da' ds'.length dc'] 42)
  clear HF HF' HD HD' HB hx
  generalize (w.alloc _).alloc _ = W0 at *
  have x2 : W0.cell? ⟨w.heap.size, 2, none⟩ = some (.slice fa fs.length fc) := hy2.1
  have y2 : W0.cell? ⟨w.heap.size + 1, 2, none⟩ = some (.slice fa' fs'.length fc') := hy2.2
  have x3 : W0.cell? ⟨w.heap.size, 3, none⟩ = some (.slice da ds.length dc) := hy3.1
  have y3 : W0.cell? ⟨w.heap.size + 1, 3, none⟩ = some (.slice da' ds'.length dc') := hy3.2
  have hlt1 : w.heap.size < W0.heap.size := by have := unhide HG; omega
  have hlt2 : w.heap.size + 1 < W0.heap.size := by have := unhide HG; omega
  clear hy2 hy3 HG
  go_loopw [5] (fun i w' => ∃ k : Nat, k ≤ fs.length ∧ i = .int .i64 k ∧ Below W0.heap.size W0 w' ∧ ∀ j, j < k → Pk.fst fs j = Pk.fst fs' j ∧ Pk.snd fs j = Pk.snd fs' j) (fun i _ => fs.length - (intOf i).toNat)
  case atStart => exact ⟨0, Nat.zero_le _, rfl, Below.refl _ _, fun j hj => by omega⟩
  case round =>
    obtain ⟨k, hk, rfl, hw, hsame⟩ := hrel
    have HW := hide hw
    have HS := hide hsame
    have j1 : wr.cell? ⟨w.heap.size, 2, none⟩ = _ := (hw.cell hlt1).trans x2
    have j2 : wr.cell? ⟨w.heap.size + 1, 2, none⟩ = _ := (hw.cell hlt2).trans y2
    by_cases hlt : k < fs.length
    · have hlt' : k < fs'.length := by have := unhide HFL; omega
      obtain ⟨_, _, e1, _, hrow⟩ := P1
      injection e1 with e1 _ e3
      subst e1 e3
      obtain ⟨_, _, e1, _, hrow'⟩ := P2
      injection e1 with e1 _ e3
      subst e1 e3
      obtain ⟨b, off, rfl, hb, hc⟩ := hrow (by omega)
      obtain ⟨b', off', rfl, hb', hc'⟩ := hrow' (by omega)
      obtain ⟨c1, c2⟩ := hc k hlt
      obtain ⟨d1, d2⟩ := hc' k hlt'
      rw [← hw.cell hb] at c1 c2
      rw [← hw.cell hb'] at d1 d2
      clear hc hc' hrow hrow' hw hsame
      have hi0 : (0 : Int) ≤ (k : Int) := Int.natCast_nonneg _
      have hi1 : (k : Int) < (fs.length : Int) := by omega
      have hi2 : (k : Int) < (fs'.length : Int) := by omega
      by_cases hA : Pk.fst fs k = Pk.fst fs' k
      · by_cases hB : Pk.snd fs k = Pk.snd fs' k
        · have HA := hide hA
          have HBB := hide hB
          rw [hA] at c1
          rw [hB] at c2
          clear hA hB
          go_wp2_with fail
          go_quiet (fail)
          go_wp2
          go_roundw
          case rel => exact ⟨k + 1, by omega, by go_num, below_drewN (unhide HW) _, fun j hj => by
            rcases Nat.lt_or_ge j k with h | h
            · exact unhide HS j h
            · obtain rfl : j = k := by omega
              exact ⟨unhide HA, unhide HBB⟩⟩
          case measure => simp [intOf]; omega
        · go_wp2_with fail
          go_quiet (fail)
          go_wp2
          go_ret
          exact ⟨ret_bool (same_no (fun h => hB (by rw [h.2.2.1]))).symm, hB0.trans ((below_drewN (unhide HW) _).mono (Nat.le_of_lt hlt1))⟩
      · go_wp2_with fail
        go_quiet (fail)
        go_wp2
        go_ret
        exact ⟨ret_bool (same_no (fun h => hA (by rw [h.2.2.1]))).symm, hB0.trans ((below_drewN (unhide HW) _).mono (Nat.le_of_lt hlt1))⟩
    · obtain rfl : k = fs.length := by omega
      have HFS := hide (list_ext (unhide HFL) (unhide HS))
      have HW0 := hide hw
      have j3 : wr.cell? ⟨w.heap.size, 3, none⟩ = _ := (hw.cell hlt1).trans x3
      have j4 : wr.cell? ⟨w.heap.size + 1, 3, none⟩ = _ := (hw.cell hlt2).trans y3
      clear hw hsame hlt HW HS
      go_wp2_with fail
      go_loopw [6] (fun i w' => ∃ k : Nat, k ≤ ds.length ∧ i = .int .i64 k ∧ Below W0.heap.size W0 w' ∧ ∀ j, j < k → Pk.fst ds j = Pk.fst ds' j ∧ Pk.snd ds j = Pk.snd ds' j) (fun i _ => ds.length - (intOf i).toNat)
      case atStart => exact ⟨0, Nat.zero_le _, rfl, unhide HW0, fun j hj => by omega⟩
      case round =>
        obtain ⟨k, hk, rfl, hw, hsame⟩ := hrel
        have HW := hide hw
        have HS := hide hsame
        have j1 : wr.cell? ⟨w.heap.size, 3, none⟩ = _ := (hw.cell hlt1).trans x3
        have j2 : wr.cell? ⟨w.heap.size + 1, 3, none⟩ = _ := (hw.cell hlt2).trans y3
        by_cases hlt : k < ds.length
        · have hlt' : k < ds'.length := by have := unhide HDL; omega
          obtain ⟨_, _, e1, _, hrow⟩ := P3
          injection e1 with e1 _ e3
          subst e1 e3
          obtain ⟨_, _, e1, _, hrow'⟩ := P4
          injection e1 with e1 _ e3
          subst e1 e3
          obtain ⟨b, off, rfl, hb, hc⟩ := hrow (by omega)
          obtain ⟨b', off', rfl, hb', hc'⟩ := hrow' (by omega)
          obtain ⟨c1, c2⟩ := hc k hlt
          obtain ⟨d1, d2⟩ := hc' k hlt'
          rw [← hw.cell hb] at c1 c2
          rw [← hw.cell hb'] at d1 d2
          clear hc hc' hrow hrow' hw hsame
          have hi0 : (0 : Int) ≤ (k : Int) := Int.natCast_nonneg _
          have hi1 : (k : Int) < (ds.length : Int) := by omega
          have hi2 : (k : Int) < (ds'.length : Int) := by omega
          by_cases hA : Pk.fst ds k = Pk.fst ds' k
          · by_cases hB : Pk.snd ds k = Pk.snd ds' k
            · have HA := hide hA
              have HBB := hide hB
              rw [hA] at c1
              rw [hB] at c2
              clear hA hB
              go_wp2_with fail
              go_quiet (fail)
              go_wp2
              go_roundw
              case rel => exact ⟨k + 1, by omega, by go_num, below_drewN (unhide HW) _, fun j hj => by
                rcases Nat.lt_or_ge j k with h | h
                · exact unhide HS j h
                · obtain rfl : j = k := by omega
                  exact ⟨unhide HA, unhide HBB⟩⟩
              case measure => simp [intOf]; omega
            · go_wp2_with fail
              go_quiet (fail)
              go_wp2
              go_ret
              exact ⟨ret_bool (same_no (fun h => hB (by rw [h.2.2.2]))).symm, hB0.trans ((below_drewN (unhide HW) _).mono (Nat.le_of_lt hlt1))⟩
          · go_wp2_with fail
            go_quiet (fail)
            go_wp2
            go_ret
            exact ⟨ret_bool (same_no (fun h => hA (by rw [h.2.2.2]))).symm, hB0.trans ((below_drewN (unhide HW) _).mono (Nat.le_of_lt hlt1))⟩
        · obtain rfl : k = ds.length := by omega
          have HDS := hide (list_ext (unhide HDL) (unhide HS))
          clear hw hsame hlt
          go_wp2
          go_ret
          exact ⟨ret_bool (same_yes ⟨rfl, rfl, unhide HFS, unhide HDS⟩).symm, hB0.trans ((unhide HW).mono (Nat.le_of_lt hlt1))⟩
end Go.Proofs.YtlnieobmhofkdaaGreatDoor
