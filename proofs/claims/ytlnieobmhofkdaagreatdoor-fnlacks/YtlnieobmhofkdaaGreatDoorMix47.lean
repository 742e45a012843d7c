import Derived.Test.YtlnieobmhofkdaaGreatDoorMix46
import Derived.Test.YtlnieobmhofkdaaGreatDoorMix7
import Derived.Test.YtlnieobmhofkdaaGreatDoorMix13
import Derived.Test.YtlnieobmhofkdaaGreatDoorMix43
import Derived.Test.YtlnieobmhofkdaaGreatDoorSLacksW
import Derived.Test.YtlnieobmhofkdaaGreatDoorMix14
import Derived.Test.YtlnieobmhofkdaaGreatDoorTrimW
import Derived.Test.YtlnieobmhofkdaaGreatDoorMix12
import Derived.Test.YtlnieobmhofkdaaGreatDoorMix4
import Derived.ProofKit
import Derived.ChangeSlices
import Derived.OpenShut
/- Keeping newly in another order, as data. -/
namespace Go.Proofs.YtlnieobmhofkdaaGreatDoor
namespace Ix
theorem ahead_irr (a : Pg) : ahead a a = false := by unfold ahead less; simp
theorem ahead_asym {a b : Pg} (h : ahead a b = true) (h2 : ahead b a = true) : False := by rw [ahead_not h] at h2; cases h2
theorem asc_ext : ∀ {a b : List Pg}, a.Pairwise (fun x y => ahead x y = true) → b.Pairwise (fun x y => ahead x y = true) → (∀ x, x ∈ a ↔ x ∈ b) → a = b
  | [], [], _, _, _ => rfl
  | [], y :: b, _, _, h => by have := (h y).2 (List.mem_cons_self ..); cases this
  | x :: a, [], _, _, h => by have := (h x).1 (List.mem_cons_self ..); cases this
  | x :: a, y :: b, ha, hb, h => by
    obtain ⟨ha1, ha2⟩ := List.pairwise_cons.1 ha
    obtain ⟨hb1, hb2⟩ := List.pairwise_cons.1 hb
    have hxy : x = y := by
      rcases List.mem_cons.1 ((h x).1 (List.mem_cons_self ..)) with h1 | h1
      · exact h1
      · rcases List.mem_cons.1 ((h y).2 (List.mem_cons_self ..)) with h2 | h2
        · exact h2.symm
        · exact absurd (ha1 y h2) (by rw [ahead_not (hb1 x h1)]; simp)
    subst hxy
    have ht : ∀ z, z ∈ a ↔ z ∈ b := fun z => by
      constructor
      · intro hz
        rcases List.mem_cons.1 ((h z).1 (List.mem_cons_of_mem _ hz)) with h1 | h1
        · subst h1
          have := ha1 _ hz
          rw [ahead_irr] at this
          cases this
        · exact h1
      · intro hz
        rcases List.mem_cons.1 ((h z).2 (List.mem_cons_of_mem _ hz)) with h1 | h1
        · subst h1
          have := hb1 _ hz
          rw [ahead_irr] at this
          cases this
        · exact h1
    rw [asc_ext ha2 hb2 ht]
theorem named_far {a b : Pg} (h : ahead a b = true ∨ ahead b a = true) : named a b.1 b.2.1 = false := by
  unfold ahead less at h
  unfold named
  simp only [Bool.or_eq_true, Bool.and_eq_true, decide_eq_true_eq, Bool.and_eq_false_iff, decide_eq_false_iff_not] at *
  omega
theorem named_symm {a b : Pg} (h : named a b.1 b.2.1 = false) : named b a.1 a.2.1 = false := by
  unfold named at *
  simp only [Bool.and_eq_false_iff, decide_eq_false_iff_not] at *
  omega
theorem cut_mem {l : List Pg} {k : Nat} (h : pkgsOk l = true) (hk : k < l.length) (x : Pg) : x ∈ cutP l k ↔ x ∈ l ∧ named x (pg l k).1 (pg l k).2.1 = false := by
  have hs := (pkgsOk_pair.1 h).2
  have e : l = l.take k ++ pg l k :: l.drop (k + 1) := by
    conv => lhs; rw [← List.take_append_drop k l]
    rw [List.drop_eq_getElem_cons hk, pg_get hk]
  rw [e, List.pairwise_append, List.pairwise_cons] at hs
  obtain ⟨_, ⟨hd, _⟩, ht⟩ := hs
  constructor
  · intro hx
    unfold cutP at hx
    rcases List.mem_append.1 hx with hx | hx
    · exact ⟨List.mem_of_mem_take hx, named_far (.inl (ht x hx _ (List.mem_cons_self ..)))⟩
    · exact ⟨List.mem_of_mem_drop hx, named_far (.inr (hd x hx))⟩
  · rintro ⟨hx, hn⟩
    rw [e] at hx
    unfold cutP
    rcases List.mem_append.1 hx with hx | hx
    · exact List.mem_append.2 (.inl hx)
    · rcases List.mem_cons.1 hx with hx | hx
      · rw [hx, named_self] at hn; cases hn
      · exact List.mem_append.2 (.inr hx)
/-- One less, then what was to come, then that one again. -/
theorem add_order {t : Tr.T} {l A : List Pg} {s : List UInt8} {k : Nat} (hA : addA t.ok t.num t.til t.ms l s = (A, true)) (hk : k < l.length) :
    addA t.ok t.num t.til t.ms (cutP l k) s = (wth (cutP l k) (hasD t.num t.til t.ms s), true) ∧
      ((addA t.ok t.num t.til t.ms (wth (cutP l k) (hasD t.num t.til t.ms s)) (pText (pg l k))).2 = hasB t.num t.til t.ms (pText (pg l k)) ∧
        (hasB t.num t.til t.ms (pText (pg l k)) = true → (addA t.ok t.num t.til t.ms (wth (cutP l k) (hasD t.num t.til t.ms s)) (pText (pg l k))).1 = A)) := by
  obtain ⟨h1, h2, h3, h4, h5⟩ := addA_some (by rw [hA])
  rw [hA] at h5
  dsimp only at h5
  have hp := (hasB_pOk h3).1
  have hc := cutP_ok h2 hk
  have hcs : ∀ x ∈ cutP l k, x ∈ l := fun x hx => ((cut_mem h2 hk x).1 hx).1
  have hfc : found (cutP l k) (hasD t.num t.til t.ms s).1 (hasD t.num t.til t.ms s).2.1 = false := found_sub h4 hcs
  have hone := addA_of h1 hc h3 hfc
  generalize hasD t.num t.til t.ms s = p at *
  have hq : pg l k ∈ l := pg_mem hk
  have hqo : pOk (pg l k) = true := pkgs_pOk h2 hk
  have hw := wth_ok hc hp
  refine ⟨hone, ?_⟩
  cases hb : hasB t.num t.til t.ms (pText (pg l k))
  · refine ⟨by rw [addA_no h1 hw hb], fun h => by cases h⟩
  · have hqd : hasD t.num t.til t.ms (pText (pg l k)) = pg l k := by
      obtain ⟨o1, o2, _⟩ := hasB_pOk hb
      have e1 := rp_text o1
      rw [o2, rp_text hqo] at e1
      exact (Option.some.inj e1).symm
    have hfq : found (wth (cutP l k) p) (pg l k).1 (pg l k).2.1 = false := by
      rw [found_false]
      intro x hx
      rcases (wth_mem hfc x).1 hx with hx | hx
      · exact ((cut_mem h2 hk x).1 hx).2
      · rw [hx]; exact named_symm (found_false.1 h4 _ hq)
    have e := addA_of h1 hw hb (by rw [hqd]; exact hfq)
    rw [e, hqd]
    refine ⟨rfl, fun _ => ?_⟩
    rw [h5]
    refine asc_ext (pkgsOk_pair.1 (wth_ok hw hqo)).2 (pkgsOk_pair.1 (wth_ok h2 hp)).2 (fun x => ?_)
    rw [wth_mem hfq, wth_mem hfc, wth_mem h4, cut_mem h2 hk]
    constructor
    · rintro ((hx | hx) | hx)
      · exact .inl hx.1
      · exact .inr hx
      · rw [hx]; exact .inl hq
    · rintro (hx | hx)
      · cases hn : named x (pg l k).1 (pg l k).2.1
        · exact .inl (.inl ⟨hx, rfl⟩)
        · right
          obtain ⟨i, hi, ei⟩ := List.getElem_of_mem hx
          rcases Nat.lt_trichotomy i k with h | h | h
          · have := pkgs_lt h2 h hk
            rw [pg_get hi, ei] at this
            have hf := named_far (a := x) (b := pg l k) (.inl this)
            rw [hf] at hn; cases hn
          · subst h; rw [pg_get hi, ei]
          · have := pkgs_lt h2 h hi
            rw [pg_get hi, ei] at this
            have hf := named_far (a := x) (b := pg l k) (.inr this)
            rw [hf] at hn; cases hn
      · exact .inl (.inr hx)
end Ix
end Go.Proofs.YtlnieobmhofkdaaGreatDoor

/- What is lacking and what stays kept are together what an index tells of, as data. -/
namespace Go.Proofs.YtlnieobmhofkdaaGreatDoor
namespace Ix
/-- A meta as a package of its name and version. -/
def asP (m : M) : Pg := (m.1, m.2.1, [(m.2.2, 0)], [])
theorem asP_inj {a b : M} (h : asP a = asP b) : a = b := by
  obtain ⟨a1, a2, a3⟩ := a
  obtain ⟨b1, b2, b3⟩ := b
  unfold asP at h
  simp only [Prod.mk.injEq, List.cons.injEq, and_true] at h
  obtain ⟨rfl, rfl, rfl⟩ := h
  rfl
theorem metas_asc {ms : List M} (h : metasOk ms = true) : (ms.map asP).Pairwise (fun x y => ahead x y = true) := by
  rw [List.pairwise_map, List.pairwise_iff_getElem]
  intro i j hi hj hij
  obtain ⟨d, rfl⟩ : ∃ d, j = i + d + 1 := ⟨j - i - 1, by omega⟩
  have hl := less_chain h (i := i) d hj
  have e : ∀ k (hk : k < ms.length), ms[k].1 = nm ms k ∧ ms[k].2.1 = vr ms k := fun k hk => by
    unfold nm vr
    rw [List.getD_eq_getElem?_getD, List.getElem?_eq_getElem hk]
    exact ⟨rfl, rfl⟩
  show less ms[i].1 ms[i].2.1 ms[i + d + 1].1 ms[i + d + 1].2.1 = true
  rw [(e i hi).1, (e i hi).2, (e _ hj).1, (e _ hj).2]
  exact hl
theorem pks_asc {l : List Pg} (h : l.Pairwise (fun x y => ahead x y = true)) : ((l.map metaP).map asP).Pairwise (fun x y => ahead x y = true) := by
  rw [List.map_map, List.pairwise_map]
  exact h
theorem met_mem {l : List Pg} {m : M} : metIn l m = true ↔ ∃ p ∈ l, metaP p = m := by
  unfold metIn
  rw [List.any_eq_true]
  constructor
  · rintro ⟨p, hp, e⟩; exact ⟨p, hp, of_decide_eq_true e⟩
  · rintro ⟨p, hp, e⟩; exact ⟨p, hp, decide_eq_true e⟩
theorem ok_cases {t : Tr.T} (h : t.ok = true) : idxOk t.num t.til t.ms = true ∨ (t.ms = [] ∧ ∀ p, tellsP t.num t.til t.ms p = false) := by
  cases hi : idxOk t.num t.til t.ms
  · right
    have h0 := h
    unfold Tr.T.ok Tr.ok at h
    rw [Bool.and_eq_true] at h
    have h2 := h.2
    cases hh : t.has
    · rw [hh] at h2
      have h3 : Tr.noIdx t.num t.til t.ms = true := h2
      unfold Tr.noIdx at h3
      simp only [Bool.and_eq_true, decide_eq_true_eq] at h3
      refine ⟨List.length_eq_zero_iff.1 (by have := h3.2; omega), fun p => ?_⟩
      unfold tellsP
      rw [hi]; rfl
    · rw [hh] at h2
      have h3 : idxOk t.num t.til t.ms = true := h2
      rw [hi] at h3; cases h3
  · exact .inl rfl
theorem idx_metas {num til : Int} {ms : List M} (h : idxOk num til ms = true) : metasOk ms = true := by
  unfold idxOk at h
  simp only [Bool.and_eq_true, decide_eq_true_eq] at h
  exact h.2
theorem lacks_count {t : Tr.T} {l : List Pg} (h : t.ok = true) (hl : pkgsOk l = true) : (lacks12 t.ms l).length + (trim t.num t.til t.ms l).length = t.ms.length := by
  rcases ok_cases h with hi | ⟨hms, ht⟩
  · have e : (t.ms.filter (metIn l)).map asP = ((trim t.num t.til t.ms l).map metaP).map asP := by
      refine asc_ext ?_ (pks_asc ((pkgsOk_pair.1 (trim_pkgs hl)).2)) (fun x => ?_)
      · exact (metas_asc (idx_metas hi)).sublist (List.Sublist.map _ List.filter_sublist)
      · rw [List.mem_map, List.mem_map]
        constructor
        · rintro ⟨m, hm, rfl⟩
          obtain ⟨h1, h2⟩ := List.mem_filter.1 hm
          obtain ⟨p, hp, rfl⟩ := met_mem.1 h2
          exact ⟨metaP p, List.mem_map.2 ⟨p, List.mem_filter.2 ⟨hp, by unfold tellsP; rw [hi, decide_eq_true h1]; rfl⟩, rfl⟩, rfl⟩
        · rintro ⟨m, hm, rfl⟩
          obtain ⟨p, hp, rfl⟩ := List.mem_map.1 hm
          obtain ⟨h1, h2⟩ := List.mem_filter.1 hp
          unfold tellsP at h2
          rw [Bool.and_eq_true] at h2
          exact ⟨metaP p, List.mem_filter.2 ⟨of_decide_eq_true h2.2, met_mem.2 ⟨p, h1, rfl⟩⟩, rfl⟩
    have e2 := congrArg List.length e
    simp only [List.length_map] at e2
    rw [← e2]
    unfold lacks12
    have e3 : ∀ (ms : List M), (ms.filter (fun m => !metIn l m)).length + (ms.filter (metIn l)).length = ms.length := by
      intro ms
      induction ms with
      | nil => rfl
      | cons m ms ih =>
        cases hm : metIn l m
        · rw [List.filter_cons_of_pos (by rw [hm]; rfl), List.filter_cons_of_neg (by rw [hm]; simp)]
          simp only [List.length_cons]
          omega
        · rw [List.filter_cons_of_neg (by rw [hm]; simp), List.filter_cons_of_pos hm]
          simp only [List.length_cons]
          omega
    exact e3 t.ms
  · rw [hms]
    have : trim t.num t.til t.ms l = [] := by
      unfold trim
      rw [List.filter_eq_nil_iff]
      intro p _ hp
      rw [ht p] at hp; cases hp
    rw [hms] at this
    rw [this]
    rfl
theorem lacks_apart {t : Tr.T} {l : List Pg} (h : t.ok = true) {m : M} {p : Pg} (hm : m ∈ lacks12 t.ms l) (hp : p ∈ trim t.num t.til t.ms l) : ¬ (m.1 = p.1 ∧ m.2.1 = p.2.1) := by
  rintro ⟨e1, e2⟩
  obtain ⟨hm1, hm2⟩ := List.mem_filter.1 hm
  obtain ⟨hp1, hp2⟩ := List.mem_filter.1 hp
  rcases ok_cases h with hi | ⟨hms, ht⟩
  · unfold tellsP at hp2
    rw [Bool.and_eq_true] at hp2
    have hpm := of_decide_eq_true hp2.2
    have hmo := idx_metas hi
    have e : m = metaP p := by
      obtain ⟨i, hi2, ei⟩ := List.getElem_of_mem hm1
      obtain ⟨j, hj, ej⟩ := List.getElem_of_mem hpm
      have at' : ∀ k (hk : k < t.ms.length), t.ms[k].1 = nm t.ms k ∧ t.ms[k].2.1 = vr t.ms k := fun k hk => by
        unfold nm vr
        rw [List.getD_eq_getElem?_getD, List.getElem?_eq_getElem hk]
        exact ⟨rfl, rfl⟩
      have q1 : nm t.ms i = nm t.ms j := by rw [← (at' i hi2).1, ← (at' j hj).1, ei, ej]; exact e1
      have q2 : vr t.ms i = vr t.ms j := by rw [← (at' i hi2).2, ← (at' j hj).2, ei, ej]; exact e2
      rcases Nat.lt_trichotomy i j with h1 | h1 | h1
      · exact absurd ⟨q1, q2⟩ (metas_ne hmo h1 hj)
      · subst h1; rw [← ei, ej]
      · exact absurd ⟨q1.symm, q2.symm⟩ (metas_ne hmo h1 hi2)
    have := met_mem.2 ⟨p, hp1, e.symm⟩
    rw [this] at hm2
    cases hm2
  · rw [ht p] at hp2; cases hp2
end Ix
end Go.Proofs.YtlnieobmhofkdaaGreatDoor

/- The walk of FnLacks: it returns true and leaves what was there; for every row of bytes. -/
namespace Go.Proofs.YtlnieobmhofkdaaGreatDoor
open Go.RowKit

theorem nm3_mem {A : List Ix.M} {j : Nat} (h : j < A.length) : (Ix.nm A j, Ix.vr A j, Ix.sm A j) ∈ A := by
  have e := List.getElem_mem h
  have e2 : (Ix.nm A j, Ix.vr A j, Ix.sm A j) = A[j] := by unfold Ix.nm Ix.vr Ix.sm; rw [List.getD_eq_getElem?_getD, List.getElem?_eq_getElem h]; rfl
  rw [e2]; exact e

attribute [local go_sem ↓] Go.wp_at_zero Go.wp_at_succ

set_option maxHeartbeats 8000000 in
set_option maxRecDepth 100000 in
theorem lacks_walk (w : World) (a : Option Addr) (len cap : Nat) (h : Bytes w a len cap) (ev : Addr) (hg : Gl w ev) :
    Calls Tryz.prog 5 #[.slice a len cap] w fun e w' => e = .returned (.bool true) ∧ Below w.heap.size w w' := by
  by_cases hbig : (1048576 : Int) < (len : Int)
  · go_enter Tryz.func5, Tryz.ntmps5
    go_wp2
    go_ret
    exact ⟨rfl, Below.refl _ _⟩
  have CD := hide (drawStoreLacks_any w a len cap h)
  have GL := hide hg
  clear h hg
  go_enter Tryz.func5, Tryz.ntmps5
  go_wp2_with fail
  refine (unhide CD).mono ?_
  rintro e w1 ⟨t, kv, mv, v, s, rfl, hts, b1⟩
  obtain ⟨hks, hms, hsl, hok, hom, hpk⟩ := hts
  obtain ⟨n, ks, d, has, num, til, ms⟩ := t
  dsimp only at hks hms hok hom
  dsimp only [tvT, tv]
  obtain ⟨ka, kc, hkv⟩ := own_formS hok
  obtain ⟨ma, mc, hmv⟩ := own_formS hom
  obtain ⟨sa, sc, hsv⟩ := hpk.slice
  subst hkv hmv hsv
  have b2 := below1 w1 (.cells #[.int .i64 n, .slice ka ks.length kc, .int .i64 d, .bool has, .int .i64 num, .int .i64 til, .slice ma ms.length mc] 30)
  have HX := hide (heap_alloc_new w1 (.cells #[.int .i64 n, .slice ka ks.length kc, .int .i64 d, .bool has, .int .i64 num, .int .i64 til, .slice ma ms.length mc] 30))
  have IK := hide ((OwI.wide hok (by omega)).later b2)
  have IM := hide ((Trs.own hom (by omega)).later b2)
  have PS := hide ((hpk.weak (N' := fun _ => True) (fun _ _ => trivial)).later b2)
  have BW := hide (b1.trans (b2.mono b1.size))
  clear hok hom hpk b1 b2 CD
  have CI := hide (fun (W : World) h1 h2 h3 => implLacks_any (N := fun _ => True) W ⟨n, ks, d, has, num, til, ms⟩ (.slice ka ks.length kc) (.slice ma ms.length mc) (.slice sa s.length sc) s h1 h2 h3)
  have CS := hide (fun (W : World) h1 h2 h3 => specLacks_any (N := fun _ => True) W ⟨n, ks, d, has, num, til, ms⟩ (.slice ka ks.length kc) (.slice ma ms.length mc) (.slice sa s.length sc) s h1 h2 h3)
  have CU := hide (fun (W : World) hG h1 h2 h3 => implTrim_any (N := fun _ => True) W ⟨n, ks, d, has, num, til, ms⟩ (.slice ka ks.length kc) (.slice ma ms.length mc) (.slice sa s.length sc) s ev hG h1 h2 h3)
  have CT := hide (fun (W : World) h1 h2 => specTrustOk_any W n d (.slice ka ks.length kc) ks has num til (.slice ma ms.length mc) ms h1 h2)
  dsimp only [tvT, tv] at CI CS CU CT
  have hAl : (Ix.lacksA ⟨n, ks, d, has, num, til, ms⟩ s).length ≤ 9 := by unfold Ix.lacksA; split; exact Nat.le_trans (Ix.lacks12_le _ _) hms; exact Nat.zero_le _
  obtain ⟨A, hA⟩ : ∃ A, Ix.lacksA ⟨n, ks, d, has, num, til, ms⟩ s = A := ⟨_, rfl⟩
  rw [hA] at CI CS hAl
  have HA := hide hA
  clear hA
  obtain ⟨x0, x1, x2, x3, x4, x5, x6⟩ : _ ∧ _ ∧ _ ∧ _ ∧ _ ∧ _ ∧ _ := ⟨cellOf (unhide HX) 0, cellOf (unhide HX) 1, cellOf (unhide HX) 2, cellOf (unhide HX) 3, cellOf (unhide HX) 4, cellOf (unhide HX) 5, cellOf (unhide HX) 6⟩
  go_wp2_with fail
  refine (unhide CI _ (unhide IK) (unhide IM) (unhide PS)).mono ?_
  generalize hXe : w1.heap.size = X at *
  generalize w1.alloc _ = W2 at *
  clear hXe
  clear w1
  rintro e w3 ⟨u, rfl, ho, b⟩
  replace HX := hide ((b.block _ (heapLt (unhide HX))).trans (unhide HX))
  replace IK := hide ((unhide IK).later b)
  replace IM := hide ((unhide IM).later b)
  replace PS := hide ((unhide PS).later b)
  replace BW := hide ((unhide BW).trans (b.mono (unhide BW).size))
  skip
  obtain ⟨ga, gc, hgv⟩ := own_formS ho
  subst hgv
  have PL := hide (Trs.own ho (by omega))
  clear ho b
  clear x0 x1 x2 x3 x4 x5 x6
  obtain ⟨x0, x1, x2, x3, x4, x5, x6⟩ : _ ∧ _ ∧ _ ∧ _ ∧ _ ∧ _ ∧ _ := ⟨cellOf (unhide HX) 0, cellOf (unhide HX) 1, cellOf (unhide HX) 2, cellOf (unhide HX) 3, cellOf (unhide HX) 4, cellOf (unhide HX) 5, cellOf (unhide HX) 6⟩
  go_wp2_with fail
  refine (unhide CS _ (unhide IK) (unhide IM) (unhide PS)).mono ?_
  rintro e w4 ⟨u, rfl, ho, b⟩
  replace HX := hide ((b.block _ (heapLt (unhide HX))).trans (unhide HX))
  replace IK := hide ((unhide IK).later b)
  replace IM := hide ((unhide IM).later b)
  replace PS := hide ((unhide PS).later b)
  replace BW := hide ((unhide BW).trans (b.mono (unhide BW).size))
  replace PL := hide ((unhide PL).later b)
  obtain ⟨wa, wc, hu⟩ := own_formS ho
  subst hu
  have PW := hide (Trs.own ho (by omega))
  clear ho b
  clear x0 x1 x2 x3 x4 x5 x6
  go_wp2_with fail
  refine (luMetas_same _ _ _ A (unhide PL) (unhide PW)).mono ?_
  rintro e w4' ⟨rfl, b⟩
  replace HX := hide ((b.block _ (heapLt (unhide HX))).trans (unhide HX))
  replace IK := hide ((unhide IK).later b)
  replace IM := hide ((unhide IM).later b)
  replace PS := hide ((unhide PS).later b)
  replace BW := hide ((unhide BW).trans (b.mono (unhide BW).size))
  replace PL := hide ((unhide PL).later b)
  clear b PW
  obtain ⟨x0, x1, x2, x3, x4, x5, x6⟩ : _ ∧ _ ∧ _ ∧ _ ∧ _ ∧ _ ∧ _ := ⟨cellOf (unhide HX) 0, cellOf (unhide HX) 1, cellOf (unhide HX) 2, cellOf (unhide HX) 3, cellOf (unhide HX) 4, cellOf (unhide HX) 5, cellOf (unhide HX) 6⟩
  go_wp2_with fail
  refine (unhide CT _ (unhide IK) (unhide IM)).mono ?_
  rintro e w6 ⟨rfl, b⟩
  replace HX := hide ((b.block _ (heapLt (unhide HX))).trans (unhide HX))
  replace IK := hide ((unhide IK).later b)
  replace IM := hide ((unhide IM).later b)
  replace PS := hide ((unhide PS).later b)
  replace BW := hide ((unhide BW).trans (b.mono (unhide BW).size))
  replace PL := hide ((unhide PL).later b)
  clear b
  clear x0 x1 x2 x3 x4 x5 x6
  cases hO : Tr.ok n ks d has num til ms
  · skip
    obtain ⟨x0, x1, x2, x3, x4, x5, x6⟩ : _ ∧ _ ∧ _ ∧ _ ∧ _ ∧ _ ∧ _ := ⟨cellOf (unhide HX) 0, cellOf (unhide HX) 1, cellOf (unhide HX) 2, cellOf (unhide HX) 3, cellOf (unhide HX) 4, cellOf (unhide HX) 5, cellOf (unhide HX) 6⟩
    go_wp2_with fail
    refine (unhide CS _ (unhide IK) (unhide IM) (unhide PS)).mono ?_
    rintro e w7 ⟨u, rfl, ho, b⟩
    replace HX := hide ((b.block _ (heapLt (unhide HX))).trans (unhide HX))
    replace IK := hide ((unhide IK).later b)
    replace IM := hide ((unhide IM).later b)
    replace PS := hide ((unhide PS).later b)
    replace BW := hide ((unhide BW).trans (b.mono (unhide BW).size))
    replace PL := hide ((unhide PL).later b)
    obtain ⟨wa, wc, hu⟩ := own_formS ho
    subst hu
    have PW := hide (Trs.own ho (by omega))
    clear ho b
    clear x0 x1 x2 x3 x4 x5 x6
    go_wp2_with fail
    refine (luMetas_same _ _ _ A (unhide PL) (unhide PW)).mono ?_
    rintro e w7' ⟨rfl, b⟩
    replace HX := hide ((b.block _ (heapLt (unhide HX))).trans (unhide HX))
    replace IK := hide ((unhide IK).later b)
    replace IM := hide ((unhide IM).later b)
    replace PS := hide ((unhide PS).later b)
    replace BW := hide ((unhide BW).trans (b.mono (unhide BW).size))
    replace PL := hide ((unhide PL).later b)
    clear b PW
    clear HX IK IM PS PL CI CS CU CT
    go_wp2
    go_ret
    exact ⟨rfl, unhide BW⟩
  go_wp2_with fail
  refine (specStoreOk_any _ _ s (unhide PS)).mono ?_
  rintro e w7 ⟨rfl, b⟩
  replace HX := hide ((b.block _ (heapLt (unhide HX))).trans (unhide HX))
  replace IK := hide ((unhide IK).later b)
  replace IM := hide ((unhide IM).later b)
  replace PS := hide ((unhide PS).later b)
  replace BW := hide ((unhide BW).trans (b.mono (unhide BW).size))
  replace PL := hide ((unhide PL).later b)
  clear b
  cases hB : Ix.pkgsOk s
  · skip
    obtain ⟨x0, x1, x2, x3, x4, x5, x6⟩ : _ ∧ _ ∧ _ ∧ _ ∧ _ ∧ _ ∧ _ := ⟨cellOf (unhide HX) 0, cellOf (unhide HX) 1, cellOf (unhide HX) 2, cellOf (unhide HX) 3, cellOf (unhide HX) 4, cellOf (unhide HX) 5, cellOf (unhide HX) 6⟩
    go_wp2_with fail
    refine (unhide CS _ (unhide IK) (unhide IM) (unhide PS)).mono ?_
    rintro e w8 ⟨u, rfl, ho, b⟩
    replace HX := hide ((b.block _ (heapLt (unhide HX))).trans (unhide HX))
    replace IK := hide ((unhide IK).later b)
    replace IM := hide ((unhide IM).later b)
    replace PS := hide ((unhide PS).later b)
    replace BW := hide ((unhide BW).trans (b.mono (unhide BW).size))
    replace PL := hide ((unhide PL).later b)
    obtain ⟨wa, wc, hu⟩ := own_formS ho
    subst hu
    have PW := hide (Trs.own ho (by omega))
    clear ho b
    clear x0 x1 x2 x3 x4 x5 x6
    go_wp2_with fail
    refine (luMetas_same _ _ _ A (unhide PL) (unhide PW)).mono ?_
    rintro e w8' ⟨rfl, b⟩
    replace HX := hide ((b.block _ (heapLt (unhide HX))).trans (unhide HX))
    replace IK := hide ((unhide IK).later b)
    replace IM := hide ((unhide IM).later b)
    replace PS := hide ((unhide PS).later b)
    replace BW := hide ((unhide BW).trans (b.mono (unhide BW).size))
    replace PL := hide ((unhide PL).later b)
    clear b PW
    clear HX IK IM PS PL CI CS CU CT
    go_wp2
    go_ret
    exact ⟨rfl, unhide BW⟩
  have HOK : Hid (Tr.T.ok ⟨n, ks, d, has, num, til, ms⟩ = true) := hO
  have hAe : A = Ix.lacks12 ms s := by rw [← unhide HA]; exact Ix.lacksA_yes (unhide HOK) hB
  have hcnt := Ix.lacks_count (t := ⟨n, ks, d, has, num, til, ms⟩) (unhide HOK) hB
  dsimp only at hcnt
  rw [← hAe] at hcnt
  have HAP : Hid (∀ m ∈ A, ∀ p ∈ Ix.trim num til ms s, ¬ (m.1 = p.1 ∧ m.2.1 = p.2.1)) := fun m hm p hp => Ix.lacks_apart (t := ⟨n, ks, d, has, num, til, ms⟩) (unhide HOK) (by rw [hAe] at hm; exact hm) hp
  have htA := Ix.trimA_yes (t := ⟨n, ks, d, has, num, til, ms⟩) (unhide HOK) hB
  dsimp only at htA
  have hsmK := Ix.trimA_small ⟨n, ks, d, has, num, til, ms⟩ s
  rw [htA] at CU hsmK
  generalize Ix.trim num til ms s = T at *
  have HCN := hide hcnt
  have HSK := hide hsmK
  clear hcnt hAe hO hB htA hsmK HA CI CS CT
  obtain ⟨x0, x1, x2, x3, x4, x5, x6⟩ : _ ∧ _ ∧ _ ∧ _ ∧ _ ∧ _ ∧ _ := ⟨cellOf (unhide HX) 0, cellOf (unhide HX) 1, cellOf (unhide HX) 2, cellOf (unhide HX) 3, cellOf (unhide HX) 4, cellOf (unhide HX) 5, cellOf (unhide HX) 6⟩
  go_wp2_with fail
  refine (unhide CU _ ((unhide GL).later (unhide BW)) (unhide IK) (unhide IM) (unhide PS)).mono ?_
  rintro e w9 ⟨u, els, rfl, hP, hmap, b⟩
  replace HX := hide ((b.block _ (heapLt (unhide HX))).trans (unhide HX))
  replace IK := hide ((unhide IK).later b)
  replace IM := hide ((unhide IM).later b)
  replace PS := hide ((unhide PS).later b)
  replace BW := hide ((unhide BW).trans (b.mono (unhide BW).size))
  replace PL := hide ((unhide PL).later b)
  have hpx := hP.pksA hmap (unhide HSK)
  obtain ⟨ta, tc, hgv⟩ := hpx.slice
  subst hgv
  have PT := hide (hpx.weak (N' := fun _ => True) (fun _ _ => trivial))
  clear hP hmap hpx b CU
  clear x0 x1 x2 x3 x4 x5 x6
  clear els
  have hTl := (unhide HSK).1
  go_wp2_with fail
  go_loopw [7] (fun i w' => ∃ k : Nat, k ≤ T.length ∧ i = .int .i64 k ∧ Below w9.heap.size w9 w') (fun i _ => T.length - (intOf i).toNat)
  case atStart => exact ⟨0, Nat.zero_le _, rfl, Below.refl _ _⟩
  case round =>
    obtain ⟨k, hk, rfl, hw⟩ := hrel
    have HW := hide hw
    clear hw
    by_cases hlt : k < T.length
    · skip
      obtain ⟨_, _, e1, _, hrow⟩ := unhide PT
      injection e1 with e1 _ e3
      subst e1 e3
      obtain ⟨bk, off, rfl, hbs, _, hc⟩ := hrow (by omega)
      obtain ⟨fv, dv, hAt, _, _⟩ := hc k hlt
      have hpm := Ix.pg_mem hlt
      clear hc hrow
      obtain ⟨p0, hp0⟩ : ∃ p0, (Ix.pg T k).1 = p0 := ⟨_, rfl⟩
      obtain ⟨p1, hp1⟩ : ∃ p1, (Ix.pg T k).2.1 = p1 := ⟨_, rfl⟩
      have hap : ∀ m ∈ A, ¬ (m.1 = p0 ∧ m.2.1 = p1) := fun m hm => by rw [← hp0, ← hp1]; exact unhide HAP m hm _ hpm
      obtain ⟨c0, c1, _, _⟩ := hAt
      rw [hp0] at c0
      rw [hp1] at c1
      have HAPP := hide hap
      have HC := hide (And.intro hbs (And.intro c0 c1))
      clear hap hp0 hp1 hpm hbs c0 c1
      have hi0 : (0 : Int) ≤ (k : Int) := Int.natCast_nonneg _
      have hi1 : (k : Int) < (T.length : Int) := by omega
      go_wp2_with fail
      go_loopw [8] (fun i w' => ∃ j : Nat, j ≤ A.length ∧ i = .int .i64 j ∧ Below w9.heap.size w9 w') (fun i _ => A.length - (intOf i).toNat)
      case atStart => exact ⟨0, Nat.zero_le _, rfl, unhide HW⟩
      case round =>
        obtain ⟨j, hj, rfl, hw2⟩ := hrel
        have HW2 := hide hw2
        clear hw2
        by_cases hlt2 : j < A.length
        · obtain ⟨_, _, e1, _, hrow⟩ := unhide PL
          injection e1 with e1 _ e3
          subst e1 e3
          obtain ⟨mb, moff, rfl, hmb, hmc⟩ := hrow (by omega)
          obtain ⟨d0, d1, _⟩ := hmc j hlt2
          clear hmc hrow
          have hmem := nm3_mem hlt2
          have hno := unhide HAPP _ hmem
          dsimp only at hno
          generalize Ix.nm A j = m0 at *
          generalize Ix.vr A j = m1 at *
          generalize Ix.sm A j = m2 at *
          clear hmem
          have hbm : Below w9.heap.size w9 wr := unhide HW2
          rw [← hbm.cell hmb] at d0 d1
          have c0 := (unhide HC).2.1
          have c1 := (unhide HC).2.2
          rw [← hbm.cell (unhide HC).1] at c0 c1
          clear hbm
          have hj0 : (0 : Int) ≤ (j : Int) := Int.natCast_nonneg _
          have hj1 : (j : Int) < (A.length : Int) := by omega
          by_cases he : m0 = p0
          · have hv : ¬ m1 = p1 := fun h => hno ⟨he, h⟩
            have hve : (m1 == p1) = false := by simp [hv]
            subst he
            have hne : (m0 == m0) = true := by simp
            clear hno hv
            go_wp2_with fail
            go_quiet (fail)
            go_wp2
            go_roundw
            case rel => exact ⟨j + 1, by omega, by go_num, below_drewN (unhide HW2) _⟩
            case measure => simp [intOf]; omega
          · have hne : (m0 == p0) = false := by simp [he]
            clear hno he
            go_wp2_with fail
            go_quiet (fail)
            go_wp2
            go_roundw
            case rel => exact ⟨j + 1, by omega, by go_num, below_drewN (unhide HW2) _⟩
            case measure => simp [intOf]; omega
        · obtain rfl : j = A.length := by omega
          clear hlt2
          go_wp2
          go_roundw
          case rel => exact ⟨k + 1, by omega, by go_num, unhide HW2⟩
          case measure => simp [intOf]; omega
    · obtain rfl : k = T.length := by omega
      have x6 := cellOf (((unhide HW).block _ (heapLt (unhide HX))).trans (unhide HX)) 6
      have BF := hide ((unhide BW).trans ((unhide HW).mono (unhide BW).size))
      have hcn := unhide HCN
      have hwl : IntKind.i64.wrap ((A.length : Int) + (T.length : Int)) = (ms.length : Int) := by simp [IntKind.wrap, IntKind.bits, IntKind.signed]; omega
      clear hcn hlt
      go_wp2
      go_ret
      exact ⟨rfl, unhide BF⟩
end Go.Proofs.YtlnieobmhofkdaaGreatDoor

/- How what came in is read: a row of bytes. -/
namespace Go.Proofs.YtlnieobmhofkdaaGreatDoor
open Go.RowKit Go.ChangeShapes Go.WideShapes

set_option maxRecDepth 100000 in
theorem open_bytes {H : Type} {enc : TypeId × Value → H} {W : World} {base b0 : Nat} {r : Reach} {spare : Nat → Bool} {held : Bool} {v : Value} {d : DataW H} {p : List MemPlace} (hv : Value.okWide Tryz.prog W r b0 22 v)
    (h : DataW.Trod enc Tryz.prog W base spare held 22 v d p) : ∃ a n c, v = .slice a n c ∧ Bytes W a n c := by
  obtain ⟨a0, len0, cap0, rfl⟩ := okWide_slice Tryz.underlying22 hv
  refine ⟨a0, len0, cap0, rfl, ?_⟩
  obtain ⟨fuel, hf⟩ := h
  rcases open_ints Tryz.underlying22 Tryz.underlying5 (by kernel_rfl) hf with ⟨hcs, _⟩ | ⟨x, l, c, zs, hcs, _, hl, hm, hz, _, hc, hwf⟩
  · simp [Value.cells] at hcs
    obtain ⟨rfl, rfl, rfl⟩ := hcs
    exact ⟨Nat.le_refl _, Nat.zero_le _, fun h => absurd h (Nat.lt_irrefl _)⟩
  · simp [Value.cells] at hcs
    obtain ⟨rfl, rfl, rfl⟩ := hcs
    refine ⟨hl, hm, fun hp => ?_⟩
    have hlz : len0 ≤ zs.length := by rw [hz]; split <;> omega
    obtain ⟨b, off, spot⟩ := x
    have h0 := hc 0 (by omega)
    have hspot : spot = none := by simpa [Addr.add] using World.cell?_spot h0
    subst hspot
    refine ⟨b, off, rfl, cell_lt (by simpa [Addr.add] using h0), fun i hi => ⟨zs.getD i 0, ?_⟩⟩
    have hw := hwf (zs.getD i 0) (by rw [List.getD_eq_getElem?_getD, List.getElem?_eq_getElem (by omega)]; exact List.getElem_mem _)
    have hb := bounds_u8 hw
    have hadd : (⟨b, off, none⟩ : Addr).add i = ⟨b, off + i, none⟩ := by unfold Addr.add; split <;> simp_all
    exact ⟨hb.1, by omega, by rw [← hadd]; exact hc i (by omega)⟩
end Go.Proofs.YtlnieobmhofkdaaGreatDoor
