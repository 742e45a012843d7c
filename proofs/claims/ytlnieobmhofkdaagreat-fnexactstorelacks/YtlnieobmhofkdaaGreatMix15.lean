import Derived.Test.YtlnieobmhofkdaaGreatNewestMath2
import Derived.Test.YtlnieobmhofkdaaGreatAnsPW
import Derived.Test.YtlnieobmhofkdaaGreatSzGW
import Derived.Test.YtlnieobmhofkdaaGreatMarkRW
import Derived.Test.YtlnieobmhofkdaaGreatMix10
import Derived.Test.YtlnieobmhofkdaaGreatCopyMW
import Derived.Test.YtlnieobmhofkdaaGreatMix14
import Derived.Test.YtlnieobmhofkdaaGreatImplIndexOkW
import Derived.Laws.StructEq
/- What is to be in, as plain data: what is wrong with packages, line by line. -/
namespace Go.Proofs.YtlnieobmhofkdaaGreat.Ix
open Pk

def titleT (p : Pg) : List UInt8 := Pk.nameT p.1 p.2.1
def besideT : List UInt8 := [32, 98, 101, 115, 105, 100, 101, 32]
def lacksT : List UInt8 := [32, 108, 97, 99, 107, 115, 32]
def andT : List UInt8 := [32, 97, 110, 100, 32]
def atT : List UInt8 := [32, 97, 116, 32]
def meetsP (d : Int × Int) (p : Pg) : Bool := decide (p.1 = d.1) && decide (d.2 ≤ p.2.1)
def hasAt (path : Int) (p : Pg) : Bool := p.2.2.1.any (fun f => f.1 == path)
def met (l : List Pg) (d : Int × Int) : Option Pg := l.find? (meetsP d)
def owner (l : List Pg) (i : Nat) (path : Int) : Option Pg := (l.take i).find? (hasAt path)
def besideL (l : List Pg) (i : Nat) : List (List UInt8) := if i ≠ 0 ∧ (pg l (i - 1)).1 = (pg l i).1 then [titleT (pg l i) ++ besideT ++ titleT (pg l (i - 1))] else []
def lackL (l : List Pg) (p : Pg) (d : Int × Int) : List (List UInt8) := match met l d with
  | some _ => []
  | none => [titleT p ++ lacksT ++ Pk.nameT d.1 d.2]
def placeL (l : List Pg) (i : Nat) (p : Pg) (f : Int × Int) : List (List UInt8) := match owner l i f.1 with
  | some o => [titleT p ++ andT ++ titleT o ++ atT ++ [Pk.b8 (48 + f.1)]]
  | none => []
def linesAt (l : List Pg) (i : Nat) : List (List UInt8) := besideL l i ++ (pg l i).2.2.2.flatMap (lackL l (pg l i)) ++ (pg l i).2.2.1.flatMap (placeL l i (pg l i))
def linesTo (l : List Pg) (k : Nat) : List (List UInt8) := (List.range k).flatMap (linesAt l)
def lines (l : List Pg) : List (List UInt8) := linesTo l l.length
def planOk (l : List Pg) : Bool := pkgsOk l && decide ((lines l).length = 0)
theorem linesTo_succ (l : List Pg) (k : Nat) : linesTo l (k + 1) = linesTo l k ++ linesAt l k := by unfold linesTo; rw [List.range_succ, List.flatMap_append]; simp
theorem besideL_len (l : List Pg) (i : Nat) : (besideL l i).length ≤ 1 := by unfold besideL; split <;> simp
theorem lackL_len (l : List Pg) (p : Pg) (d : Int × Int) : (lackL l p d).length ≤ 1 := by unfold lackL; split <;> simp
theorem placeL_len (l : List Pg) (i : Nat) (p : Pg) (d : Int × Int) : (placeL l i p d).length ≤ 1 := by unfold placeL; split <;> simp
theorem flat_le {α β : Type} (f : α → List β) (h : ∀ x, (f x).length ≤ 1) : ∀ s : List α, (s.flatMap f).length ≤ s.length
  | [] => Nat.le_refl _
  | x :: s => by
    have := flat_le f h s
    have := h x
    rw [List.flatMap_cons, List.length_append, List.length_cons]
    omega
theorem linesAt_len {l : List Pg} {i : Nat} (h : pOk (pg l i) = true) : (linesAt l i).length ≤ 5 := by
  obtain ⟨h1, h2⟩ := pOk_lens h
  have a := besideL_len l i
  have b := flat_le (lackL l (pg l i)) (lackL_len l (pg l i)) (pg l i).2.2.2
  have c := flat_le (placeL l i (pg l i)) (placeL_len l i (pg l i)) (pg l i).2.2.1
  unfold linesAt
  rw [List.length_append, List.length_append]
  omega
theorem linesTo_len {l : List Pg} (h : pkgsOk l = true) : ∀ k, k ≤ l.length → (linesTo l k).length ≤ 5 * k
  | 0, _ => Nat.le_refl _
  | k + 1, hk => by
    have a := linesTo_len h k (by omega)
    have b := linesAt_len (pkgs_pOk h (i := k) (by omega))
    rw [linesTo_succ, List.length_append]
    omega
theorem take_cons_flat {α β : Type} (f : α → List β) (s : List α) (k : Nat) (x : α) (hx : s[k]? = some x) : (s.take (k + 1)).flatMap f = (s.take k).flatMap f ++ f x := by
  rw [List.take_add_one, hx, List.flatMap_append]
  simp
/-- The first that meets a need is there just if the newest does. -/
theorem mem_ix {l : List Pg} {p : Pg} (h : p ∈ l) : ∃ i, i < l.length ∧ pg l i = p := by
  obtain ⟨i, hi, e⟩ := List.getElem_of_mem h
  refine ⟨i, hi, ?_⟩
  unfold pg
  rw [List.getD_eq_getElem?_getD, List.getElem?_eq_getElem hi]
  exact e
def newMeets (l : List Pg) (d : Int × Int) : Bool := (orNone (newest l d.1)).2 && decide (d.2 ≤ (orNone (newest l d.1)).1.2.1)
theorem met_newest {l : List Pg} {d : Int × Int} (hk : pkgsOk l = true) : (met l d).isSome = newMeets l d := by
  unfold newMeets met
  rw [Bool.eq_iff_iff, List.find?_isSome]
  rcases newest_cases l d.1 with ⟨hn, hno⟩ | ⟨m, hm, hn, hx, hr⟩
  · rw [hn]
    refine ⟨fun ⟨p, hp, hm⟩ => ?_, fun h => by cases h⟩
    obtain ⟨i, hi, e⟩ := mem_ix hp
    unfold meetsP at hm
    simp only [Bool.and_eq_true, decide_eq_true_eq] at hm
    exact absurd (by rw [e]; exact hm.1) (hno i hi)
  · rw [hn]
    show _ ↔ (true && decide (d.2 ≤ (pg l m).2.1)) = true
    rw [Bool.true_and, decide_eq_true_eq]
    constructor
    · rintro ⟨p, hp, hmm⟩
      obtain ⟨i, hi, e⟩ := mem_ix hp
      unfold meetsP at hmm
      simp only [Bool.and_eq_true, decide_eq_true_eq] at hmm
      rw [← e] at hmm
      by_cases hne : i = m
      · rw [← hne]; exact hmm.2
      · have := newest_top hk hm hx hr i hi hmm.1 hne
        omega
    · intro h
      refine ⟨_, pg_mem hm, ?_⟩
      unfold meetsP
      simp only [Bool.and_eq_true, decide_eq_true_eq]
      exact ⟨hx, h⟩
theorem pOk_ver {p : Pg} (h : pOk p = true) : 1 ≤ p.2.1 ∧ p.2.1 ≤ 5 := by
  unfold pOk Pk.pkgOk at h
  simp only [Bool.and_eq_true, Pk.inB_true] at h
  omega
theorem pkgs_key {l : List Pg} (h : pkgsOk l = true) : ∀ i, i < l.length → 6 + (i : Int) ≤ (pg l i).1 * 5 + (pg l i).2.1
  | 0, hi => by
    have a := pOk_name (pkgs_pOk h hi)
    have b := pOk_ver (pkgs_pOk h hi)
    omega
  | i + 1, hi => by
    have a := pkgs_key h i (by omega)
    have b := pkgs_less h hi
    have c := pOk_ver (pkgs_pOk h (i := i) (by omega))
    have d := pOk_ver (pkgs_pOk h hi)
    unfold less at b
    simp only [Bool.or_eq_true, Bool.and_eq_true, decide_eq_true_eq] at b
    omega
/-- There are no more than twenty. -/
theorem pkgs_len {l : List Pg} (h : pkgsOk l = true) : l.length ≤ 20 := by
  rcases Nat.eq_zero_or_pos l.length with h0 | hp
  · omega
  · have a := pkgs_key h (l.length - 1) (by omega)
    have b := pOk_name (pkgs_pOk h (i := l.length - 1) (by omega))
    have c := pOk_ver (pkgs_pOk h (i := l.length - 1) (by omega))
    omega
theorem pOk_file {p : Pg} (h : pOk p = true) : ∀ i, i < p.2.2.1.length → (0 ≤ Pk.fst p.2.2.1 i ∧ Pk.fst p.2.2.1 i ≤ 5) ∧ (0 ≤ Pk.snd p.2.2.1 i ∧ Pk.snd p.2.2.1 i ≤ 9) := by
  unfold pOk Pk.pkgOk at h
  simp only [Bool.and_eq_true] at h
  exact (Pk.filesOk_get h.1.2).2
theorem pOk_dep {p : Pg} (h : pOk p = true) : ∀ i, i < p.2.2.2.length → (1 ≤ Pk.fst p.2.2.2 i ∧ Pk.fst p.2.2.2 i ≤ 4) ∧ (1 ≤ Pk.snd p.2.2.2 i ∧ Pk.snd p.2.2.2 i ≤ 5) := by
  unfold pOk Pk.pkgOk at h
  simp only [Bool.and_eq_true] at h
  exact (Pk.depsOk_get h.2).2
end Go.Proofs.YtlnieobmhofkdaaGreat.Ix

/- Rows of packages that are not long; what of marks' frames the exact laws use. -/
namespace Go.Proofs.YtlnieobmhofkdaaGreat
open Go.RowKit

def small (A : List Ix.Pg) : Prop := A.length ≤ 1000 ∧ ∀ p ∈ A, p.2.2.1.length ≤ 1000 ∧ p.2.2.2.length ≤ 1000
theorem small.els {A : List Ix.Pg} (h : small A) {els : List El} (hm : els.map (·.1) = A) : els.length ≤ 1000 ∧ ∀ e ∈ els, e.1.2.2.1.length ≤ 1000 ∧ e.1.2.2.2.length ≤ 1000 :=
  ⟨by rw [← List.length_map (f := fun x : El => x.1), hm]; exact h.1, fun e he => h.2 e.1 (by rw [← hm]; exact List.mem_map.2 ⟨e, he, rfl⟩)⟩
theorem small.sub {A l : List Ix.Pg} (h : small l) (hs : ∀ p ∈ A, p ∈ l) (hl : A.length ≤ l.length) : small A := ⟨Nat.le_trans hl h.1, fun p hp => h.2 p (hs p hp)⟩
theorem small.nil : small [] := ⟨Nat.zero_le _, fun p hp => (by cases hp)⟩
theorem small_pkgs {l : List Ix.Pg} (h : Ix.pkgsOk l = true) : small l := by
  refine ⟨by have := Ix.pkgs_len h; omega, fun p hp => ?_⟩
  obtain ⟨i, hi, hie⟩ := List.getElem_of_mem hp
  have hq := Ix.pkgs_pOk h hi
  rw [Ix.pg_get hi, hie] at hq
  unfold Ix.pOk Pk.pkgOk at hq
  rw [Bool.and_eq_true, Bool.and_eq_true, Bool.and_eq_true] at hq
  have h1 := (Pk.filesOk_get hq.1.2).1
  have h2 := (Pk.depsOk_get hq.2).1
  exact ⟨by omega, by omega⟩
theorem PAns.pksA {B : Nat} {w : World} {v : Value} {els : List El} {A : List Ix.Pg} (h : PAns B w v els) (hm : els.map (·.1) = A) (hA : small A) : Pks (fun b => B ≤ b) w v A := by
  obtain ⟨h1, h2⟩ := hA.els hm
  have := h.pks h1 h2
  rw [hm] at this
  exact this
theorem PAns.fr {N : Nat → Prop} {B : Nat} {w w' : World} {v : Value} {l : List El} (h : PAns B w v l) (hs : Fr N w w') (hN : ∀ g, blkP v l g → ¬ N g) : PAns B w' v l := h.keep (fun g hg => hs.block g (h.lt g hg).2 (hN g hg))
theorem WrP.keepN {N : Nat → Prop} {w w' : World} {g n : Nat} (h : WrP N w g n) (hb : ∀ k, k < w.heap.size → N k → w'.heap[k]? = w.heap[k]?) : WrP N w' g n := by
  obtain ⟨C, h1, h2, h3, h4⟩ := h
  refine ⟨C, (hb _ (heapLt h1) h3).trans h1, h2, h3, fun i hi => ?_⟩
  obtain ⟨x, y, g1, n1, g2, n2, k1, k2, k3, k4, k5⟩ := h4 i hi
  exact ⟨x, y, g1, n1, g2, n2, k1, k2, k3, k4.keep (hb _ k4.lt k2.1), k5.keep (hb _ k5.lt k2.2)⟩
theorem WrP.fr {N M : Nat → Prop} {w w' : World} {g n : Nat} (h : WrP N w g n) (hs : Fr M w w') (hd : ∀ b, N b → ¬ M b) : WrP N w' g n := h.keepN (fun k hk hn => hs.block k hk (hd k hn))
theorem WrP.stays {N M : Nat → Prop} {w w' : World} {g n : Nat} (h : WrP N w g n) (hs : Stays M w w') (hd : ∀ b, N b → ¬ M b) : WrP N w' g n := h.keepN (fun k hk hn => hs.block k hk (hd k hn))
theorem WrP.lt {N : Nat → Prop} {w : World} {g n : Nat} (h : WrP N w g n) : g < w.heap.size := by obtain ⟨C, h1, _⟩ := h; exact heapLt h1
/-- From a world on, all that was there stays. -/
theorem Stays.belowB {N : Nat → Prop} {w w' : World} {B : Nat} (h : Stays N w w') (hB : B ≤ w.heap.size) (hN : ∀ b, b < B → ¬ N b) : Below B w w' := ⟨h.os, h.tape, h.output, h.size, fun k hk => h.block k (by omega) (hN k hk)⟩
theorem FillI.lt {w : World} {g k : Nat} {l : List Int} (h : FillI w g l k) : g < w.heap.size := by obtain ⟨C, h1, _⟩ := h; exact heapLt h1
theorem FillM.lt {w : World} {g k : Nat} {l : List Ix.M} (h : FillM w g l k) : g < w.heap.size := by obtain ⟨C, h1, _⟩ := h; exact heapLt h1
theorem FillP.lt {w : World} {g k : Nat} {l : List Ix.Pg} (h : FillP w g l k) : g < w.heap.size := by obtain ⟨C, h1, _⟩ := h; exact heapLt h1
theorem PairsIn.later {w w' : World} {x : Option Addr × Nat × Nat} (h : PairsIn w x) (hb : Below w.heap.size w w') : PairsIn w' x := ⟨h.1, fun hs => by obtain ⟨l, h1, h2⟩ := h.2 hs; exact ⟨l, h1, h2.later hb⟩⟩
theorem PkgsIn.later {w w' : World} {a : Option Addr} {n c : Nat} (h : PkgsIn w a n c) (hb : Below w.heap.size w w') : PkgsIn w' a n c := by
  refine ⟨h.1, fun hs => ?_⟩
  obtain ⟨q, hrow, hp⟩ := h.2 hs
  refine ⟨q, fun hn => ?_, fun i hi => ⟨(hp i hi).1.later hb, (hp i hi).2.later hb⟩⟩
  obtain ⟨b, off, ha, hbs, hc⟩ := hrow hn
  refine ⟨b, off, ha, Nat.lt_of_lt_of_le hbs hb.size, fun i hi => ?_⟩
  obtain ⟨c0, c1, c2, c3⟩ := hc i hi
  exact ⟨(hb.cell hbs).trans c0, (hb.cell hbs).trans c1, (hb.cell hbs).trans c2, (hb.cell hbs).trans c3⟩
end Go.Proofs.YtlnieobmhofkdaaGreat

/- What impl.tells returns: whether an index has a meta among its own; for every index; nothing old is written. -/
namespace Go.Proofs.YtlnieobmhofkdaaGreat
open Go.RowKit Go.Shelf

attribute [local go_sem] Oper.semAt_some

theorem mem_snoc {l : List Ix.M} {x m : Ix.M} (h : m ∉ l) (hx : x ≠ m) : m ∉ l ++ [x] := by simp [h, Ne.symm hx]
theorem mem_pre {p l : List Ix.M} {m : Ix.M} (h : p <+: l) (hm : m ∈ p) : m ∈ l := by obtain ⟨t, rfl⟩ := h; exact List.mem_append_left _ hm

end Go.Proofs.YtlnieobmhofkdaaGreat
