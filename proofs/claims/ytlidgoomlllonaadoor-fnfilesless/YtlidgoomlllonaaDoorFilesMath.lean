/- What is at each place, as plain data. -/
import Derived.Test.YtlidgoomlllonaaDoorFilesW
import Derived.Test.YtlidgoomlllonaaDoorPlanLawMath
namespace Go.Proofs.YtlidgoomlllonaaDoor.Ix
open Pk

def allF (l : List Pg) : List (Int × Int) := l.flatMap (·.2.2.1)
def nF (l : List Pg) (k : Nat) : Nat := (allF (l.take k)).length
theorem nF_succ {l : List Pg} {k : Nat} (hk : k < l.length) : nF l (k + 1) = nF l k + (pg l k).2.2.1.length := by
  unfold nF allF
  rw [take_pgs hk, List.flatMap_append, List.length_append]
  simp
theorem nF_end (l : List Pg) : nF l l.length = (allF l).length := by unfold nF; rw [List.take_length]
theorem nF_le {l : List Pg} (h : pkgsOk l = true) : ∀ k, k ≤ l.length → nF l k ≤ 2 * k
  | 0, _ => by unfold nF allF; simp
  | k + 1, hk => by
    have a := nF_le h k (by omega)
    have b := (pOk_lens (pkgs_pOk h (i := k) hk)).1
    rw [nF_succ hk]
    omega
theorem putF_append (a : List Int) (x y : List (Int × Int)) : putF a (x ++ y) = putF (putF a x) y := by unfold putF; rw [List.foldl_append]
theorem filesTo_all (l : List Pg) : ∀ k, k ≤ l.length → filesTo l k = putF (List.replicate 6 (-1)) (allF (l.take k))
  | 0, _ => rfl
  | k + 1, hk => by
    rw [filesTo_succ hk, filesTo_all l k (by omega), ← putF_append]
    unfold allF
    rw [take_pgs hk, List.flatMap_append]
    simp
/-- Files at places, each place once. -/
structure Once (F : List (Int × Int)) : Prop where
  pw : F.Pairwise (fun f g => f.1.toNat ≠ g.1.toNat)
  bd : ∀ f ∈ F, (0 ≤ f.1 ∧ f.1 ≤ 5) ∧ (0 ≤ f.2 ∧ f.2 ≤ 9)
theorem Once.tail {f : Int × Int} {F : List (Int × Int)} (h : Once (f :: F)) : Once F := ⟨(List.pairwise_cons.1 h.pw).2, fun g hg => h.bd g (List.mem_cons_of_mem _ hg)⟩
theorem Once.perm {F G : List (Int × Int)} (h : Once F) (hp : F.Perm G) : Once G := ⟨(hp.pairwise_iff (fun {x y} (e : x.1.toNat ≠ y.1.toNat) => (Ne.symm e : y.1.toNat ≠ x.1.toNat))).1 h.pw, fun f hf => h.bd f (hp.mem_iff.2 hf)⟩
theorem putF_out {F : List (Int × Int)} {n : Nat} : ∀ {a : List Int}, (∀ f ∈ F, f.1.toNat ≠ n) → (putF a F).getD n 0 = a.getD n 0 := by
  induction F with
  | nil => intro a _; rfl
  | cons f F ih =>
    intro a h
    show (putF (a.set f.1.toNat f.2) F).getD n 0 = _
    rw [ih (fun g hg => h g (List.mem_cons_of_mem _ hg)), List.getD_eq_getElem?_getD, List.getElem?_set_ne (h f List.mem_cons_self), ← List.getD_eq_getElem?_getD]
theorem putF_in {F : List (Int × Int)} {f : Int × Int} : ∀ {a : List Int}, Once F → a.length = 6 → f ∈ F → (putF a F).getD f.1.toNat 0 = f.2 := by
  induction F with
  | nil => intro a _ _ hf; cases hf
  | cons g F ih =>
    intro a h ha hf
    show (putF (a.set g.1.toNat g.2) F).getD f.1.toNat 0 = _
    rcases List.mem_cons.1 hf with e | hf
    · subst e
      have hb := (h.bd f List.mem_cons_self).1
      rw [putF_out (fun g hg => Ne.symm ((List.pairwise_cons.1 h.pw).1 g hg)), List.getD_eq_getElem?_getD, List.getElem?_set_self (by omega)]
      rfl
    · exact ih h.tail (by rw [List.length_set]; exact ha) hf
theorem putF_count {F : List (Int × Int)} : ∀ {a : List Int}, Once F → a.length = 6 → (∀ f ∈ F, a.getD f.1.toNat 0 = -1) → (putF a F).count (-1) + F.length = a.count (-1) := by
  induction F with
  | nil => intro a _ _ _; rfl
  | cons g F ih =>
    intro a h ha hn
    show (putF (a.set g.1.toNat g.2) F).count (-1) + _ = _
    have hb := h.bd g List.mem_cons_self
    have hg : g.1.toNat < a.length := by omega
    have h1 := ih (a := a.set g.1.toNat g.2) h.tail (by rw [List.length_set]; exact ha) (fun f hf => by
      rw [List.getD_eq_getElem?_getD, List.getElem?_set_ne ((List.pairwise_cons.1 h.pw).1 f hf), ← List.getD_eq_getElem?_getD]
      exact hn f (List.mem_cons_of_mem _ hf))
    have h2 := hn g List.mem_cons_self
    rw [List.getD_eq_getElem?_getD, List.getElem?_eq_getElem hg] at h2
    have h3 : a[g.1.toNat] = -1 := h2
    have h4 := List.count_set (a := g.2) (b := (-1 : Int)) (l := a) hg
    rw [h3] at h4
    have h5 : (g.2 == (-1 : Int)) = false := by rw [beq_eq_false_iff_ne]; omega
    have h6 : 0 < a.count (-1) := by rw [List.count_pos_iff]; rw [← h3]; exact List.getElem_mem hg
    rw [h5] at h4
    simp only [beq_self_eq_true, if_true, Bool.false_eq_true, if_false] at h4
    rw [List.length_cons]
    omega
theorem plan_once {l : List Pg} (h : planOk l = true) : Once (allF l) := by
  obtain ⟨h1, h2, _⟩ := planOk_set.1 h
  have hb : ∀ p ∈ l, ∀ f ∈ p.2.2.1, (0 ≤ f.1 ∧ f.1 ≤ 5) ∧ (0 ≤ f.2 ∧ f.2 ≤ 9) := fun p hp f hf => by
    obtain ⟨k, hk, e⟩ := mem_pair hf
    rw [e]
    exact pOk_file ((pkgsOk_pair.1 h1).1 p hp) k hk
  refine ⟨?_, fun f hf => ?_⟩
  · unfold allF
    rw [List.pairwise_flatMap]
    refine ⟨fun p hp => ?_, ?_⟩
    · rw [List.pairwise_iff_getElem]
      intro i j hi hj hij
      have := files_asc ((pkgsOk_pair.1 h1).1 p hp) hij hj
      have e1 := (pair_mem hi).2
      have e2 := (pair_mem hj).2
      rw [List.getElem?_eq_getElem hi] at e1
      rw [List.getElem?_eq_getElem hj] at e2
      rw [Option.some.inj e1, Option.some.inj e2]
      have b1 := hb p hp _ (pair_mem hi).1
      have b2 := hb p hp _ (pair_mem hj).1
      dsimp only at b1 b2 ⊢
      omega
    · refine h2.imp_of_mem (fun {p q} hp hq hpq f hf g hg => ?_)
      have b1 := hb p hp f hf
      have b2 := hb q hq g hg
      have := hpq.2 f hf g hg
      omega
  · unfold allF at hf
    rw [List.mem_flatMap] at hf
    obtain ⟨p, hp, hf⟩ := hf
    exact hb p hp f hf
theorem planFiles_all {l : List Pg} (h : planOk l = true) : planFiles l = putF (List.replicate 6 (-1)) (allF l) := by
  unfold planFiles
  rw [if_pos h, filesTo_all l l.length (Nat.le_refl _), List.take_length]
theorem rep_get {n : Nat} (hn : n < 6) : (List.replicate 6 (-1 : Int)).getD n 0 = -1 := by
  rw [List.getD_eq_getElem?_getD, List.getElem?_replicate, if_pos hn]
  rfl
theorem mem_allF {l : List Pg} {k m : Nat} (hk : k < l.length) (hm : m < (pg l k).2.2.1.length) : (Pk.fst (pg l k).2.2.1 m, Pk.snd (pg l k).2.2.1 m) ∈ allF l := by
  unfold allF
  rw [List.mem_flatMap]
  exact ⟨_, pg_mem hk, (pair_mem hm).1⟩
/-- What FnFiles says. -/
theorem files_law {l : List Pg} (h : planOk l = true) : (planFiles l).length = 6 ∧ (∀ k m, k < l.length → m < (pg l k).2.2.1.length → (planFiles l).getD (Pk.fst (pg l k).2.2.1 m).toNat 0 = Pk.snd (pg l k).2.2.1 m) ∧ (planFiles l).count (-1) + nF l l.length = 6 := by
  have ho := plan_once h
  rw [planFiles_all h, nF_end]
  refine ⟨by rw [putF_len]; rfl, fun k m hk hm => ?_, ?_⟩
  · exact putF_in ho rfl (mem_allF hk hm)
  · refine putF_count ho rfl (fun f hf => rep_get ?_)
    have := ho.bd f hf
    omega
theorem count_take {a : List Int} {i : Nat} (hi : i < a.length) : (a.take (i + 1)).count (-1) = (a.take i).count (-1) + if a.getD i 0 = -1 then 1 else 0 := by
  rw [List.take_add_one, List.getElem?_eq_getElem hi, List.count_append, List.getD_eq_getElem?_getD, List.getElem?_eq_getElem hi]
  simp [List.count_cons]
theorem count_le (a : List Int) (i : Nat) : (a.take i).count (-1) ≤ i := Nat.le_trans List.count_le_length (List.length_take_le _ _)
/-- Without one, and its files put at their places again. -/
theorem files_less {l : List Pg} {k : Nat} (h : planOk l = true) (hk : k < l.length) (hc : planOk (cutP l k) = true) : putF (planFiles (cutP l k)) (pg l k).2.2.1 = planFiles l ∧ ∀ m, m < (pg l k).2.2.1.length → (putF (planFiles (cutP l k)) ((pg l k).2.2.1.take m)).getD (Pk.fst (pg l k).2.2.1 m).toNat 0 = -1 := by
  have ho := plan_once h
  have hs : l = l.take k ++ pg l k :: l.drop (k + 1) := by
    conv => lhs; rw [← List.take_append_drop k l, List.drop_eq_getElem_cons hk]
    rw [pg_get hk]
  have hp : (allF l).Perm (allF (cutP l k) ++ (pg l k).2.2.1) := by
    have e1 : allF l = allF (l.take k) ++ ((pg l k).2.2.1 ++ allF (l.drop (k + 1))) := by
      conv => lhs; rw [hs]
      unfold allF
      rw [List.flatMap_append, List.flatMap_cons]
    have e2 : allF (cutP l k) = allF (l.take k) ++ allF (l.drop (k + 1)) := by
      unfold cutP allF
      rw [List.flatMap_append]
    rw [e1, e2, List.append_assoc]
    exact List.Perm.append_left _ List.perm_append_comm
  have ho2 := ho.perm hp
  have hext : ∀ {F G : List (Int × Int)}, Once F → F.Perm G → putF (List.replicate 6 (-1)) F = putF (List.replicate 6 (-1)) G := fun {F G} h1 h2 => by
    apply List.ext_getElem
    · rw [putF_len, putF_len]
    · intro n hn1 hn2
      have g1 : (putF (List.replicate 6 (-1)) F).getD n 0 = (putF (List.replicate 6 (-1)) G).getD n 0 := by
        by_cases hx : ∃ f ∈ F, f.1.toNat = n
        · obtain ⟨f, hf, e⟩ := hx
          rw [← e, putF_in h1 rfl hf, putF_in (h1.perm h2) rfl (h2.mem_iff.1 hf)]
        · have hno : ∀ f ∈ F, f.1.toNat ≠ n := fun f hf e => hx ⟨f, hf, e⟩
          rw [putF_out hno, putF_out (fun f hf => hno f (h2.mem_iff.2 hf))]
      rw [List.getD_eq_getElem?_getD, List.getD_eq_getElem?_getD, List.getElem?_eq_getElem hn1, List.getElem?_eq_getElem hn2] at g1
      exact g1
  rw [planFiles_all h, planFiles_all hc, ← putF_append]
  refine ⟨(hext ho hp).symm, fun m hm => ?_⟩
  rw [← putF_append, putF_out, rep_get]
  · have := ho.bd _ (mem_allF hk hm)
    dsimp only at this
    omega
  · intro f hf
    have hsp : allF (cutP l k) ++ (pg l k).2.2.1 = (allF (cutP l k) ++ (pg l k).2.2.1.take m) ++ (pg l k).2.2.1.drop m := by rw [List.append_assoc, List.take_append_drop]
    have hpw := ho2.pw
    rw [hsp, List.pairwise_append] at hpw
    refine hpw.2.2 f hf (Pk.fst (pg l k).2.2.1 m, Pk.snd (pg l k).2.2.1 m) ?_
    rw [List.drop_eq_getElem_cons hm]
    have e := (pair_mem hm).2
    rw [List.getElem?_eq_getElem hm] at e
    rw [← Option.some.inj e]
    exact List.mem_cons_self
end Go.Proofs.YtlidgoomlllonaaDoor.Ix
