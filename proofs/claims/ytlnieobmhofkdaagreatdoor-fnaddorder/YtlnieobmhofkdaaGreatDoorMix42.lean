import Derived.Test.YtlnieobmhofkdaaGreatDoorMix29
import Derived.Test.YtlnieobmhofkdaaGreatDoorMix39
import Derived.Test.YtlnieobmhofkdaaGreatDoorMix25
import Derived.Test.YtlnieobmhofkdaaGreatDoorPksW
import Derived.Test.YtlnieobmhofkdaaGreatDoorMix5
/- Keeping newly in another order, as data. -/
namespace Go.Proofs.YtlnieobmhofkdaaGreatDoor
namespace Ix
theorem ahead_irr (a : Pg) : ahead a a = false := by unfold ahead less; simp
theorem ahead_asym {a b : Pg} (h : ahead a b = true) (h2 : ahead b a = true) : False := by rw [ahead_not h] at h2; cases h2
theorem asc_ext : ∀ {a b : List Pg}, a.Pairwise (fun x y => ahead x y = true) → b.Pairwise (fun x y => ahead x y = true) → (∀ x, x ∈ a ↔ x ∈ b) → a = b
  | [], [], _, _, _ => rfl
  | [], y :: b, _, _, h => by have := (h y).2 (List.mem_cons_self ..); cases this
  | x :: a, [], _, _, h => by have := (h x).1 (List.mem_cons_self ..); cases this
  | x :: a, y :: b, ha, hb, h => by
    obtain ⟨ha1, ha2⟩ := List.pairwise_cons.1 ha
    obtain ⟨hb1, hb2⟩ := List.pairwise_cons.1 hb
    have hxy : x = y := by
      rcases List.mem_cons.1 ((h x).1 (List.mem_cons_self ..)) with h1 | h1
      · exact h1
      · rcases List.mem_cons.1 ((h y).2 (List.mem_cons_self ..)) with h2 | h2
        · exact h2.symm
        · exact absurd (ha1 y h2) (by rw [ahead_not (hb1 x h1)]; simp)
    subst hxy
    have ht : ∀ z, z ∈ a ↔ z ∈ b := fun z => by
      constructor
      · intro hz
        rcases List.mem_cons.1 ((h z).1 (List.mem_cons_of_mem _ hz)) with h1 | h1
        · subst h1
          have := ha1 _ hz
          rw [ahead_irr] at this
          cases this
        · exact h1
      · intro hz
        rcases List.mem_cons.1 ((h z).2 (List.mem_cons_of_mem _ hz)) with h1 | h1
        · subst h1
          have := hb1 _ hz
          rw [ahead_irr] at this
          cases this
        · exact h1
    rw [asc_ext ha2 hb2 ht]
theorem named_far {a b : Pg} (h : ahead a b = true ∨ ahead b a = true) : named a b.1 b.2.1 = false := by
  unfold ahead less at h
  unfold named
  simp only [Bool.or_eq_true, Bool.and_eq_true, decide_eq_true_eq, Bool.and_eq_false_iff, decide_eq_false_iff_not] at *
  omega
theorem named_symm {a b : Pg} (h : named a b.1 b.2.1 = false) : named b a.1 a.2.1 = false := by
  unfold named at *
  simp only [Bool.and_eq_false_iff, decide_eq_false_iff_not] at *
  omega
theorem cut_mem {l : List Pg} {k : Nat} (h : pkgsOk l = true) (hk : k < l.length) (x : Pg) : x ∈ cutP l k ↔ x ∈ l ∧ named x (pg l k).1 (pg l k).2.1 = false := by
  have hs := (pkgsOk_pair.1 h).2
  have e : l = l.take k ++ pg l k :: l.drop (k + 1) := by
    conv => lhs; rw [← List.take_append_drop k l]
    rw [List.drop_eq_getElem_cons hk, pg_get hk]
  rw [e, List.pairwise_append, List.pairwise_cons] at hs
  obtain ⟨_, ⟨hd, _⟩, ht⟩ := hs
  constructor
  · intro hx
    unfold cutP at hx
    rcases List.mem_append.1 hx with hx | hx
    · exact ⟨List.mem_of_mem_take hx, named_far (.inl (ht x hx _ (List.mem_cons_self ..)))⟩
    · exact ⟨List.mem_of_mem_drop hx, named_far (.inr (hd x hx))⟩
  · rintro ⟨hx, hn⟩
    rw [e] at hx
    unfold cutP
    rcases List.mem_append.1 hx with hx | hx
    · exact List.mem_append.2 (.inl hx)
    · rcases List.mem_cons.1 hx with hx | hx
      · rw [hx, named_self] at hn; cases hn
      · exact List.mem_append.2 (.inr hx)
/-- One less, then what was to come, then that one again. -/
theorem add_order {t : Tr.T} {l A : List Pg} {s : List UInt8} {k : Nat} (hA : addA t.ok t.num t.til t.ms l s = (A, true)) (hk : k < l.length) :
    addA t.ok t.num t.til t.ms (cutP l k) s = (wth (cutP l k) (hasD t.num t.til t.ms s), true) ∧
      ((addA t.ok t.num t.til t.ms (wth (cutP l k) (hasD t.num t.til t.ms s)) (pText (pg l k))).2 = hasB t.num t.til t.ms (pText (pg l k)) ∧
        (hasB t.num t.til t.ms (pText (pg l k)) = true → (addA t.ok t.num t.til t.ms (wth (cutP l k) (hasD t.num t.til t.ms s)) (pText (pg l k))).1 = A)) := by
  obtain ⟨h1, h2, h3, h4, h5⟩ := addA_some (by rw [hA])
  rw [hA] at h5
  dsimp only at h5
  have hp := (hasB_pOk h3).1
  have hc := cutP_ok h2 hk
  have hcs : ∀ x ∈ cutP l k, x ∈ l := fun x hx => ((cut_mem h2 hk x).1 hx).1
  have hfc : found (cutP l k) (hasD t.num t.til t.ms s).1 (hasD t.num t.til t.ms s).2.1 = false := found_sub h4 hcs
  have hone := addA_of h1 hc h3 hfc
  generalize hasD t.num t.til t.ms s = p at *
  have hq : pg l k ∈ l := pg_mem hk
  have hqo : pOk (pg l k) = true := pkgs_pOk h2 hk
  have hw := wth_ok hc hp
  refine ⟨hone, ?_⟩
  cases hb : hasB t.num t.til t.ms (pText (pg l k))
  · refine ⟨by rw [addA_no h1 hw hb], fun h => by cases h⟩
  · have hqd : hasD t.num t.til t.ms (pText (pg l k)) = pg l k := by
      obtain ⟨o1, o2, _⟩ := hasB_pOk hb
      have e1 := rp_text o1
      rw [o2, rp_text hqo] at e1
      exact (Option.some.inj e1).symm
    have hfq : found (wth (cutP l k) p) (pg l k).1 (pg l k).2.1 = false := by
      rw [found_false]
      intro x hx
      rcases (wth_mem hfc x).1 hx with hx | hx
      · exact ((cut_mem h2 hk x).1 hx).2
      · rw [hx]; exact named_symm (found_false.1 h4 _ hq)
    have e := addA_of h1 hw hb (by rw [hqd]; exact hfq)
    rw [e, hqd]
    refine ⟨rfl, fun _ => ?_⟩
    rw [h5]
    refine asc_ext (pkgsOk_pair.1 (wth_ok hw hqo)).2 (pkgsOk_pair.1 (wth_ok h2 hp)).2 (fun x => ?_)
    rw [wth_mem hfq, wth_mem hfc, wth_mem h4, cut_mem h2 hk]
    constructor
    · rintro ((hx | hx) | hx)
      · exact .inl hx.1
      · exact .inr hx
      · rw [hx]; exact .inl hq
    · rintro (hx | hx)
      · cases hn : named x (pg l k).1 (pg l k).2.1
        · exact .inl (.inl ⟨hx, rfl⟩)
        · right
          obtain ⟨i, hi, ei⟩ := List.getElem_of_mem hx
          rcases Nat.lt_trichotomy i k with h | h | h
          · have := pkgs_lt h2 h hk
            rw [pg_get hi, ei] at this
            have hf := named_far (a := x) (b := pg l k) (.inl this)
            rw [hf] at hn; cases hn
          · subst h; rw [pg_get hi, ei]
          · have := pkgs_lt h2 h hi
            rw [pg_get hi, ei] at this
            have hf := named_far (a := x) (b := pg l k) (.inr this)
            rw [hf] at hn; cases hn
      · exact .inl (.inr hx)
end Ix
end Go.Proofs.YtlnieobmhofkdaaGreatDoor

/- A row of packages that can be read, as elements with their cells. -/
namespace Go.Proofs.YtlnieobmhofkdaaGreatDoor
open Go.RowKit

theorem pks_els {N : Nat → Prop} {w : World} {b off : Nat} {l : List Ix.Pg} (hc : ∀ i, i < l.length → ∃ fv dv, At w b (off + i * 4) (Ix.pg l i) fv dv ∧ PrsN N w fv (Ix.pg l i).2.2.1 ∧ PrsN N w dv (Ix.pg l i).2.2.2) :
    ∀ k, k ≤ l.length → ∃ els : List El, els.map (·.1) = l.take k ∧ els.length = k ∧ (∀ e ∈ els, PrsN N w e.2.1 e.1.2.2.1 ∧ PrsN N w e.2.2 e.1.2.2.2) ∧ ∀ j u, (flat4 els)[j]? = some u → w.cell? ⟨b, off + j, none⟩ = some u
  | 0, _ => ⟨[], rfl, rfl, fun e he => (by cases he), fun j u hu => by simp [flat4] at hu⟩
  | k + 1, hk => by
    obtain ⟨els, hm, hl, hp, hcl⟩ := pks_els hc k (by omega)
    obtain ⟨fv, dv, hAt, hf, hd⟩ := hc k (by omega)
    refine ⟨els ++ [(Ix.pg l k, fv, dv)], by rw [List.map_append, hm, Ix.take_pgs (by omega : k < l.length)]; rfl, by rw [List.length_append, hl]; rfl, fun e he => ?_, fun j u hu => ?_⟩
    · rcases List.mem_append.1 he with he | he
      · exact hp e he
      · rw [List.mem_singleton] at he
        rw [he]
        exact ⟨hf, hd⟩
    · rw [flat4_snoc] at hu
      have hfl := flat4_len els
      rcases Nat.lt_or_ge j (flat4 els).length with hj | hj
      · rw [List.getElem?_append_left hj] at hu
        exact hcl j u hu
      · rw [List.getElem?_append_right hj] at hu
        obtain ⟨m, rfl⟩ : ∃ m, j = (flat4 els).length + m := ⟨j - (flat4 els).length, by omega⟩
        rw [Nat.add_sub_cancel_left] at hu
        obtain ⟨c0, c1, c2, c3⟩ := hAt
        rw [hfl, hl]
        match m, hu with
        | 0, hu => cases hu; rw [Nat.add_zero]; exact c0
        | 1, hu => cases hu; rw [← Nat.add_assoc]; exact c1
        | 2, hu => cases hu; rw [← Nat.add_assoc]; exact c2
        | 3, hu => cases hu; rw [← Nat.add_assoc]; exact c3
        | n + 4, hu => simp at hu
/-- The cells, from a place on. -/
theorem newsK {w w' : World} {b off s m : Nat} {l t : List El} (h : ∀ j u, (flat4 l)[j]? = some u → w.cell? ⟨b, off + j, none⟩ = some u) (hb : Below m w w') (hgm : b < m) (ht : ∀ j, j < t.length → t[j]? = l[s + j]?) :
    ∀ j u, (flat4 t)[j]? = some u → w'.cell? ((⟨b, off + s * 4, none⟩ : Addr).add j) = some u := by
  intro j u hu
  have hj : j < t.length * 4 := by
    rcases Nat.lt_or_ge j (t.length * 4) with h | h
    · exact h
    · rw [List.getElem?_eq_none (by rw [flat4_len]; exact h)] at hu; cases hu
  have h2 := ht (j / 4) (by omega)
  rw [List.getElem?_eq_getElem (by omega : j / 4 < t.length)] at h2
  obtain ⟨a0, a1, a2, a3⟩ := flat4_at t (j / 4) _ (List.getElem?_eq_getElem (by omega : j / 4 < t.length))
  obtain ⟨c0, c1, c2, c3⟩ := flat4_at l (s + j / 4) _ h2.symm
  rw [addP, hb.cell hgm, Nat.add_assoc]
  refine h _ _ ?_
  have hm : j % 4 = 0 ∨ j % 4 = 1 ∨ j % 4 = 2 ∨ j % 4 = 3 := by omega
  rw [← hu]
  rcases hm with hm | hm | hm | hm
  · conv => rhs; rw [show j = j / 4 * 4 by omega]
    rw [show s * 4 + j = (s + j / 4) * 4 by omega, c0, a0]
  · conv => rhs; rw [show j = j / 4 * 4 + 1 by omega]
    rw [show s * 4 + j = (s + j / 4) * 4 + 1 by omega, c1, a1]
  · conv => rhs; rw [show j = j / 4 * 4 + 2 by omega]
    rw [show s * 4 + j = (s + j / 4) * 4 + 2 by omega, c2, a2]
  · conv => rhs; rw [show j = j / 4 * 4 + 3 by omega]
    rw [show s * 4 + j = (s + j / 4) * 4 + 3 by omega, c3, a3]
theorem els_sl {N : Nat → Prop} {w : World} {l : List El} (h : ∀ e ∈ l, PrsN N w e.2.1 e.1.2.2.1 ∧ PrsN N w e.2.2 e.1.2.2.2) : Sl l := fun e he => by
  obtain ⟨a, c, h1⟩ := (h e he).1.slice
  obtain ⟨a2, c2, h2⟩ := (h e he).2.slice
  rw [h1, h2]
  exact ⟨rfl, rfl⟩
theorem cut_pks {B : Nat} {w w' : World} {v : Value} {els : List El} {s : List Ix.Pg} {i : Nat} (ho : w'.ownsRow B 42 4 v (cutE els i).length (flat4 (cutE els i))) (hep : ∀ e ∈ els, PrsN (fun _ => True) w e.2.1 e.1.2.2.1 ∧ PrsN (fun _ => True) w e.2.2 e.1.2.2.2) (hb : Below w.heap.size w w') (hm : els.map (·.1) = s) (hl : (cutE els i).length ≤ 1000) :
    ∃ ya yc, v = .slice ya (Ix.cutP s i).length yc ∧ Pks (fun _ => True) w' (.slice ya (Ix.cutP s i).length yc) (Ix.cutP s i) := by
  obtain ⟨ya, yc, hv⟩ := own_formS ho
  have hp := POwn.pks (B := B) (N := fun _ => True) ⟨ho, fun e he => ⟨(hep e (cutE_mem e he)).1.later hb, (hep e (cutE_mem e he)).2.later hb⟩⟩ (fun _ _ => trivial) (by omega)
  rw [cutE_map, hm] at hp
  have hn : (cutE els i).length = (Ix.cutP s i).length := by rw [← hm, ← cutE_map, List.length_map]
  rw [hv] at hp
  rw [hn] at hv hp
  exact ⟨ya, yc, hv, hp⟩
end Go.Proofs.YtlnieobmhofkdaaGreatDoor

/- What laws.luPkgs returns: of the same packages true. -/
namespace Go.Proofs.YtlnieobmhofkdaaGreatDoor
open Go.RowKit

set_option maxHeartbeats 4000000 in
set_option maxRecDepth 100000 in
theorem luPkgs_same {N M : Nat → Prop} (w : World) (v v' : Value) (l : List Ix.Pg) (h : Pks N w v l) (h' : Pks M w v' l) :
    Calls Tryz.prog 12 #[v, v'] w fun e w' => e = .returned (.bool true) ∧ Below w.heap.size w w' := by
  obtain ⟨a, cap, rfl, hlen, hrow⟩ := h
  obtain ⟨a', cap', rfl, _, hrow'⟩ := h'
  have hne : ((l.length : Int) != (l.length : Int)) = false := by simp
  go_enter Tryz.func12, Tryz.ntmps12
  go_wp2
  go_loopw [5] (fun i w' => ∃ k : Nat, k ≤ l.length ∧ i = .int .i64 k ∧ Below w.heap.size w w') (fun i _ => l.length - (intOf i).toNat)
  case atStart => exact ⟨0, Nat.zero_le _, rfl, Below.refl _ _⟩
  case round =>
    obtain ⟨k, hk, rfl, hw⟩ := hrel
    have HW := hide hw
    clear hw
    by_cases hlt : k < l.length
    · obtain ⟨b, off, rfl, hb, _, hc⟩ := hrow (by omega)
      obtain ⟨b', off', rfl, hb', _, hc'⟩ := hrow' (by omega)
      obtain ⟨fv, dv, hAt, hf, hd⟩ := hc k hlt
      obtain ⟨fv', dv', hAt', hf', hd'⟩ := hc' k hlt
      clear hc hc' hrow hrow'
      obtain ⟨nm, vr, fs, ds, hpk⟩ : ∃ nm vr fs ds, Ix.pg l k = (nm, vr, fs, ds) := ⟨_, _, _, _, rfl⟩
      rw [hpk] at hAt hf hd hAt' hf' hd'
      dsimp only at hf hd hf' hd'
      obtain ⟨fa, fc, e1⟩ := hf.slice
      obtain ⟨da, dc, e2⟩ := hd.slice
      obtain ⟨fa', fc', e3⟩ := hf'.slice
      obtain ⟨da', dc', e4⟩ := hd'.slice
      subst e1 e2 e3 e4
      have z1 : b < wr.heap.size := Nat.lt_of_lt_of_le hb (unhide HW).size
      have z2 : b' < wr.heap.size := Nat.lt_of_lt_of_le hb' (unhide HW).size
      have kk : ∀ w', Below wr.heap.size wr w' → (w'.cell? ⟨b, off + k * 4, none⟩ = some (.int .i64 nm) ∧ w'.cell? ⟨b, off + k * 4 + 1, none⟩ = some (.int .i64 vr) ∧ w'.cell? ⟨b, off + k * 4 + 2, none⟩ = some (.slice fa fs.length fc) ∧ w'.cell? ⟨b, off + k * 4 + 3, none⟩ = some (.slice da ds.length dc)) ∧ (w'.cell? ⟨b', off' + k * 4, none⟩ = some (.int .i64 nm) ∧ w'.cell? ⟨b', off' + k * 4 + 1, none⟩ = some (.int .i64 vr) ∧ w'.cell? ⟨b', off' + k * 4 + 2, none⟩ = some (.slice fa' fs.length fc') ∧ w'.cell? ⟨b', off' + k * 4 + 3, none⟩ = some (.slice da' ds.length dc')) := fun w' hw' =>
        ⟨hAt.keep (((unhide HW).trans (hw'.mono (unhide HW).size)).block b hb), hAt'.keep (((unhide HW).trans (hw'.mono (unhide HW).size)).block b' hb')⟩
      have HK := hide kk
      have cE : ∀ w', Below wr.heap.size wr w' → Calls Tryz.prog 46 #[.agg #[.int .i64 nm, .int .i64 vr, .slice fa fs.length fc, .slice da ds.length dc], .agg #[.int .i64 nm, .int .i64 vr, .slice fa' fs.length fc', .slice da' ds.length dc']] w' fun e w'' => e = .returned (.bool true) ∧ Below wr.heap.size wr w'' := fun w' hw' => by
        have hb2 := (unhide HW).trans (hw'.mono (unhide HW).size)
        have hsame : same nm vr nm vr fs ds fs ds = true := same_yes ⟨rfl, rfl, rfl, rfl⟩
        exact (lu_any w' nm vr nm vr _ _ _ _ fs ds fs ds (hf.prs.later hb2) (hd.prs.later hb2) (hf'.prs.later hb2) (hd'.prs.later hb2)).mono fun e w'' ⟨h1, h2⟩ => ⟨by rw [h1, hsame], hw'.trans (h2.mono hw'.size)⟩
      have CE := hide cE
      clear kk cE hAt hAt' hf hd hf' hd' hpk
      have hi0 : (0 : Int) ≤ (k : Int) := Int.natCast_nonneg _
      have hi1 : (k : Int) < (l.length : Int) := by omega
      go_wp2_with fail
      refine wq_region (by kernel_rfl) (by kernel_rfl) ?_
      refine wq_move (d := some 17) rfl rfl (by rfl) rfl ?_
      simp only [Act.put, List.setIfInBounds_toArray, List.set_cons_zero, List.set_cons_succ, List.getElem_toArray, List.getElem_cons_zero]
      refine wq_move (d := some 18) rfl rfl (by rfl) rfl ?_
      simp only [Act.put, List.setIfInBounds_toArray, List.set_cons_zero, List.set_cons_succ, List.getElem_toArray, List.getElem_cons_zero, List.getElem_cons_succ]
      refine wq_take (d := some 19) rfl (by rfl) (v := ?_) ?_ ?_
      rotate_left
      · (intro w hCw; have hKw := (unhide HK) w hCw; go_simp <;> with_reducible rfl)
      simp only [Act.put, List.setIfInBounds_toArray, List.set_cons_zero, List.set_cons_succ]
      refine wq_take (d := some 20) rfl (by rfl) (v := ?_) ?_ ?_
      rotate_left
      · (intro w hCw; have hKw := (unhide HK) w hCw; go_simp <;> with_reducible rfl)
      simp only [Act.put, List.setIfInBounds_toArray, List.set_cons_zero, List.set_cons_succ]
      refine wq_move (d := some 21) rfl rfl (by rfl) rfl ?_
      simp only [Act.put, List.setIfInBounds_toArray, List.set_cons_zero, List.set_cons_succ, List.getElem_toArray, List.getElem_cons_zero, List.getElem_cons_succ]
      refine wq_move (d := some 22) rfl rfl (by rfl) rfl ?_
      simp only [Act.put, List.setIfInBounds_toArray, List.set_cons_zero, List.set_cons_succ, List.getElem_toArray, List.getElem_cons_zero, List.getElem_cons_succ]
      refine wq_take (d := some 23) rfl (by rfl) (v := ?_) ?_ ?_
      rotate_left
      · (intro w hCw; have hKw := (unhide HK) w hCw; go_simp <;> with_reducible rfl)
      simp only [Act.put, List.setIfInBounds_toArray, List.set_cons_zero, List.set_cons_succ]
      refine wq_take (d := some 24) rfl (by rfl) (v := ?_) ?_ ?_
      rotate_left
      · (intro w hCw; have hKw := (unhide HK) w hCw; go_simp <;> with_reducible rfl)
      simp only [Act.put, List.setIfInBounds_toArray, List.set_cons_zero, List.set_cons_succ]
      refine wq_call (d := some 25) rfl (by rfl) (hc := (unhide CE)) ?_ ?_
      · (intro w hCw; go_simp)
      simp only [Act.put, List.setIfInBounds_toArray, List.set_cons_zero, List.set_cons_succ]
      refine wq_take (d := some 26) rfl (by rfl) (v := ?_) ?_ ?_
      rotate_left
      · (intro w hCw; have hKw := (unhide HK) w hCw; go_simp <;> with_reducible rfl)
      simp only [Act.put, List.setIfInBounds_toArray, List.set_cons_zero, List.set_cons_succ]
      refine wq_nil ?_
      intro w9 hw9
      go_wp2
      go_roundw
      case rel => exact ⟨k + 1, by omega, by go_num, (unhide HW).trans (hw9.mono (unhide HW).size)⟩
      case measure => simp [intOf]; omega
    · go_wp2
      go_ret
      exact ⟨rfl, unhide HW⟩
end Go.Proofs.YtlnieobmhofkdaaGreatDoor
